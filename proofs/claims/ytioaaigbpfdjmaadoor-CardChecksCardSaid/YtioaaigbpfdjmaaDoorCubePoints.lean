import Derived.Test.YtioaaigbpfdjmaaDoorPointList
set_option linter.unusedSimpArgs false
set_option linter.unusedVariables false
namespace Go.Proofs.YtioaaigbpfdjmaaDoor
open Go Go.Proofs Go.RowKit
def inSet (F V p : Nat) : Bool := p &&& F == V
theorem and_i64 (a b : Nat) (ha : a < 4294967296) (hb : b < 4294967296) : bits .and .i64 (a : Int) (b : Int) = ((a &&& b : Nat) : Int) := by
  have hx : a &&& b < 2 ^ 32 := Nat.and_lt_two_pow _ (by omega)
  have h1 : (BitVec.ofInt 64 (a : Int)).toNat = a := by
    rw [BitVec.ofInt_natCast, BitVec.toNat_ofNat]; exact Nat.mod_eq_of_lt (by omega)
  have h2 : (BitVec.ofInt 64 (b : Int)).toNat = b := by
    rw [BitVec.ofInt_natCast, BitVec.toNat_ofNat]; exact Nat.mod_eq_of_lt (by omega)
  show IntKind.i64.wrap ((BitVec.ofInt 64 (a : Int) &&& BitVec.ofInt 64 (b : Int)).toNat : Int) = _
  rw [BitVec.toNat_and, h1, h2, IntKind.wrap_i64]
  omega
theorem or_i64 (a b : Nat) (ha : a < 4294967296) (hb : b < 4294967296) : bits .or .i64 (a : Int) (b : Int) = ((a ||| b : Nat) : Int) := by
  have hx : a ||| b < 2 ^ 32 := Nat.or_lt_two_pow (by omega) (by omega)
  have h1 : (BitVec.ofInt 64 (a : Int)).toNat = a := by
    rw [BitVec.ofInt_natCast, BitVec.toNat_ofNat]; exact Nat.mod_eq_of_lt (by omega)
  have h2 : (BitVec.ofInt 64 (b : Int)).toNat = b := by
    rw [BitVec.ofInt_natCast, BitVec.toNat_ofNat]; exact Nat.mod_eq_of_lt (by omega)
  show IntKind.i64.wrap ((BitVec.ofInt 64 (a : Int) ||| BitVec.ofInt 64 (b : Int)).toNat : Int) = _
  rw [BitVec.toNat_or, h1, h2, IntKind.wrap_i64]
  omega
theorem or_u32 (a b : Nat) (ha : a < 4294967296) (hb : b < 4294967296) : bits .or .u32 (a : Int) (b : Int) = ((a ||| b : Nat) : Int) := by
  have hx : a ||| b < 2 ^ 32 := Nat.or_lt_two_pow (by omega) (by omega)
  have h1 : (BitVec.ofInt 32 (a : Int)).toNat = a := by
    rw [BitVec.ofInt_natCast, BitVec.toNat_ofNat]; exact Nat.mod_eq_of_lt (by omega)
  have h2 : (BitVec.ofInt 32 (b : Int)).toNat = b := by
    rw [BitVec.ofInt_natCast, BitVec.toNat_ofNat]; exact Nat.mod_eq_of_lt (by omega)
  show IntKind.u32.wrap ((BitVec.ofInt 32 (a : Int) ||| BitVec.ofInt 32 (b : Int)).toNat : Int) = _
  rw [BitVec.toNat_or, h1, h2, wrap_u32']
  omega
theorem set_bit (a k : Nat) (ha : a < 4294967296) (hk : k < 32) : bits .or .u32 (a : Int) (2 ^ k % 4294967296) = ((a ||| 2 ^ k : Nat) : Int) ∧ a ||| 2 ^ k < 4294967296 := by
  have hp : 2 ^ k < 2 ^ 32 := Nat.pow_lt_pow_right (by decide) hk
  have e : ((2 : Int) ^ k % 4294967296) = ((2 ^ k : Nat) : Int) := by
    have : ((2 : Int) ^ k) = ((2 ^ k : Nat) : Int) := by push_cast; rfl
    rw [this]
    generalize 2 ^ k = q at hp
    omega
  rw [e]
  exact ⟨or_u32 a _ ha (by omega), Nat.or_lt_two_pow (n := 32) (by omega) hp⟩
set_option maxRecDepth 100000 in
theorem points_any (F V : Nat) (hF : F < 32) (n N : Nat) (h5 : n ≤ 5) (hN : N = 2 ^ n) (w : World) :
    Calls Tryd.prog 92 #[.agg #[.int .i64 F, .int .i64 V], .int .i64 n] w fun e w' => (∃ a : Nat, a < 4294967296 ∧ e = .returned (.int .u32 a) ∧ ∀ p, a.testBit p = (decide (p < N) && inSet F V p)) ∧ Below w.heap.size w w' := by
  have hpow : N ≤ 32 := hN ▸ Nat.pow_le_pow_right (n := 2) (by decide) h5
  have hN1 : IntKind.i64.wrap (2 ^ n) = (N : Int) := by
    have : n = 0 ∨ n = 1 ∨ n = 2 ∨ n = 3 ∨ n = 4 ∨ n = 5 := by omega
    rw [hN]
    rcases this with h | h | h | h | h | h <;> rw [h] <;> rfl
  clear hN
  go_enter Tryd.func92, Tryd.ntmps92
  go_wp2
  go_loop [5, 9] (fun v i => ∃ k a : Nat, k ≤ N ∧ i = .int .i64 k ∧ a < 4294967296 ∧ v = .int .u32 a ∧ ∀ p, a.testBit p = (decide (p < k) && inSet F V p)) (fun _ i => N - (intOf i).toNat)
  case atStart => exact ⟨0, 0, by omega, rfl, by omega, rfl, by simp⟩
  case round =>
    obtain ⟨k, a, hk, rfl, ha, rfl, hbits⟩ := hrel
    have hand : bits BinOp.and IntKind.i64 (k : Int) (F : Int) = ((k &&& F : Nat) : Int) := and_i64 k F (by omega) (by omega)
    by_cases hlt : k < N
    · obtain ⟨o1, o2⟩ := set_bit a k ha (by omega)
      go_wp2
      · have hin : inSet F V k = true := by
          have h : (((k &&& F : Nat) : Int) == (V : Int)) = true := by assumption
          have h2 := Int.ofNat.inj (beq_iff_eq.1 h)
          simp [inSet, h2]
        refine ⟨⟨k + 1, a ||| 2 ^ k, by omega, by go_num, o2, rfl, fun p => ?_⟩, by simp [intOf]; omega⟩
        rw [Nat.testBit_or, hbits, Nat.testBit_two_pow]
        by_cases hpk : k = p
        · subst hpk; simp [hin]
        · have e : (p < k + 1) = (p < k) := by apply propext; omega
          simp [hpk, e]
      · have hin : inSet F V k = false := by
          have h : (((k &&& F : Nat) : Int) == (V : Int)) = false := by assumption
          have h2 : ¬ (k &&& F = V) := fun h3 => by rw [h3] at h; simp at h
          simp [inSet, h2]
        refine ⟨⟨k + 1, a, by omega, by go_num, ha, rfl, fun p => ?_⟩, by simp [intOf]; omega⟩
        rw [hbits]
        by_cases hpk : p = k
        · subst hpk; simp [hin]
        · have e : (p < k + 1) = (p < k) := by apply propext; omega
          simp [e]
    · have : k = N := by omega
      subst this
      go_wp2
      go_ret
      exact ⟨⟨a, ha, rfl, hbits⟩, (Below.refl _ _).alloc (Nat.le_refl _) _⟩
end Go.Proofs.YtioaaigbpfdjmaaDoor
