import Derived.Test.YtioaaigbpfdjmaaDoorSens
set_option linter.unusedSimpArgs false
set_option linter.unusedVariables false
namespace Go.Proofs.YtioaaigbpfdjmaaDoor
open Go Go.Proofs Go.RowKit
theorem ty85 : Tryd.prog.underlying 85 = some (.slice 77) := by kernel_rfl
theorem info77 : (Tryd.prog.info? 77).map (fun i => (i.zero, i.size, i.bytes)) = some (some (.int .u32 0), 1, 4) := by kernel_rfl
theorem ty23 : Tryd.prog.underlying 23 = some (.slice 9) := by kernel_rfl
theorem info9 : (Tryd.prog.info? 9).map (fun i => (i.zero, i.size, i.bytes)) = some (some (.string ByteArray.empty), 1, 16) := by kernel_rfl
/-- Sets in the cells of a block. -/
def SetsAt (w : World) (A : Option Addr) (az : List Nat) : Prop := ∀ k, k < az.length → ∃ g, A = some ⟨g, 0, none⟩ ∧ w.cell? ⟨g, k, none⟩ = some (.int .u32 (az.getD k 0 : Nat))
theorem sets_below {w w' : World} {A : Option Addr} {az : List Nat} (h : SetsAt w A az) (b : Below w.heap.size w w') : SetsAt w' A az := fun k hk => by
  obtain ⟨g, h1, h2⟩ := h k hk
  exact ⟨g, h1, cell_below h2 b⟩
/-- A point is in exactly one of the sets. -/
def cntS (az : List Nat) (q : Nat) : Nat := (az.filter fun a => a.testBit q).length
theorem cntS_push (az : List Nat) (a q : Nat) : cntS (az ++ [a]) q = cntS az q + (a.testBit q).toNat := by
  unfold cntS
  rw [List.filter_append, List.length_append]
  cases h : a.testBit q <;> simp [h]
theorem andNot_u32 (a b : Nat) (ha : a < 4294967296) (hb : b < 4294967296) : ∃ c : Nat, c < 4294967296 ∧ bits .andNot .u32 (a : Int) (b : Int) = (c : Int) ∧ ∀ q, c.testBit q = (a.testBit q && !b.testBit q) := by
  have h1 : (BitVec.ofInt 32 (a : Int)).toNat = a := by
    rw [BitVec.ofInt_natCast, BitVec.toNat_ofNat]; exact Nat.mod_eq_of_lt (by omega)
  have h2 : (BitVec.ofInt 32 (b : Int)).toNat = b := by
    rw [BitVec.ofInt_natCast, BitVec.toNat_ofNat]; exact Nat.mod_eq_of_lt (by omega)
  refine ⟨(BitVec.ofInt 32 (a : Int) &&& ~~~ BitVec.ofInt 32 (b : Int)).toNat, BitVec.isLt _, ?_, fun q => ?_⟩
  · show IntKind.u32.wrap ((BitVec.ofInt 32 (a : Int) &&& ~~~ BitVec.ofInt 32 (b : Int)).toNat : Int) = _
    rw [wrap_u32']
    have := (BitVec.ofInt 32 (a : Int) &&& ~~~ BitVec.ofInt 32 (b : Int)).isLt
    omega
  · rw [BitVec.toNat_and, BitVec.toNat_not, Nat.testBit_and, h1, h2]
    by_cases hq : q < 32
    · have e : 2 ^ 32 - 1 - b = (2 ^ 32 - (b + 1)) := by omega
      rw [e, Nat.testBit_two_pow_sub_succ (by omega)]
      simp [hq]
    · have ha0 : a.testBit q = false := Nat.testBit_lt_two_pow (Nat.lt_of_lt_of_le ha (by
        have : 2 ^ 32 ≤ 2 ^ q := Nat.pow_le_pow_right (by decide) (by omega)
        simpa using this))
      rw [ha0]; rfl
set_option maxHeartbeats 1000000 in
set_option maxRecDepth 100000 in
theorem oneOnly_any {A : Option Addr} {az : List Nat} {cap c0 : Nat} {w : World} (hc0 : Keep (∀ q, c0.testBit q = (cntS az q == 1))) (hl : az.length ≤ 32) (hv : SetsAt w A az) (ha : Keep (∀ a ∈ az, a < 4294967296)) :
    Calls Tryd.prog 62 #[.slice A az.length cap] w fun e w' => e = .returned (.int .u32 c0) ∧ w' = w := by
  have hvk := Keep.mk hv
  clear hv
  go_enter Tryd.func62, Tryd.ntmps62
  go_wp2
  go_loop [3, 4, 9] (fun o t i => ∃ k a b : Nat, k ≤ az.length ∧ i = .int .i64 k ∧ a < 4294967296 ∧ b < 4294967296 ∧ o = .int .u32 a ∧ t = .int .u32 b ∧ Keep (∀ q, a.testBit q = decide (1 ≤ cntS (az.take k) q)) ∧ Keep (∀ q, b.testBit q = decide (2 ≤ cntS (az.take k) q))) (fun _ _ i => az.length - (intOf i).toNat)
  case atStart => exact ⟨0, 0, 0, by omega, rfl, by omega, by omega, rfl, rfl, ⟨fun q => by simp [cntS]⟩, ⟨fun q => by simp [cntS]⟩⟩
  case round =>
    obtain ⟨k, a, b, hk, rfl, ha1, hb1, rfl, rfl, hone, htwo⟩ := hrel
    by_cases hkl : k < az.length
    · obtain ⟨g, rfl, hg⟩ := hvk.out k hkl
      have hx := ha.out _ (getn hkl)
      have hpush : Keep (∀ q, cntS (az.take (k + 1)) q = cntS (az.take k) q + ((az.getD k 0).testBit q).toNat) := ⟨fun q => by rw [take_push hkl, cntS_push]⟩
      generalize az.getD k 0 = x at hg hx hpush
      have h1 := bits_and_u32_nat a x ha1 hx
      have h2 := or_u32 b (a &&& x) hb1 (by have := Nat.and_le_left (n := a) (m := x); omega)
      have h3 := or_u32 a x ha1 hx
      have l2 : b ||| (a &&& x) < 4294967296 := Nat.or_lt_two_pow (n := 32) hb1 (Nat.lt_of_le_of_lt Nat.and_le_left ha1)
      have l3 : a ||| x < 4294967296 := Nat.or_lt_two_pow (n := 32) ha1 hx
      go_wp2
      refine ⟨⟨k + 1, a ||| x, b ||| (a &&& x), by omega, by go_num, l3, l2, rfl, rfl, ⟨fun q => ?_⟩, ⟨fun q => ?_⟩⟩, by simp [intOf]; omega⟩
      · rw [Nat.testBit_or, hone.out, hpush.out]
        cases x.testBit q <;> simp <;> omega
      · rw [Nat.testBit_or, Nat.testBit_and, hone.out, htwo.out, hpush.out]
        cases x.testBit q <;> simp <;> omega
    · have : k = az.length := by omega
      subst this
      obtain ⟨c, hc1, hc2, hc3⟩ := andNot_u32 a b ha1 hb1
      have hck := Keep.mk hc3
      clear hc3
      have hcc : c = c0 := by
        apply Nat.eq_of_testBit_eq
        intro q
        rw [hck.out, hone.out, htwo.out, List.take_length, hc0.out]
        generalize cntS az q = m
        rw [Bool.eq_iff_iff]
        simp
        omega
      subst hcc
      go_wp2
      go_ret
      exact ⟨rfl, rfl⟩
end Go.Proofs.YtioaaigbpfdjmaaDoor
