import Derived.Test.YteekigpdiklppaaWAwake
set_option linter.unusedSimpArgs false
set_option linter.unusedVariables false
namespace Go.Proofs.Yteekigpdiklppaa
open Go Go.Proofs Go.RowKit Go.Seq
theorem or_i64 (a b : Nat) (ha : a < 4294967296) (hb : b < 4294967296) : bits .or .i64 (a : Int) (b : Int) = ((a ||| b : Nat) : Int) := by
  have hx : a ||| b < 2 ^ 32 := Nat.or_lt_two_pow (by omega) (by omega)
  have h1 : (BitVec.ofInt 64 (a : Int)).toNat = a := by
    rw [BitVec.ofInt_natCast, BitVec.toNat_ofNat]; exact Nat.mod_eq_of_lt (by omega)
  have h2 : (BitVec.ofInt 64 (b : Int)).toNat = b := by
    rw [BitVec.ofInt_natCast, BitVec.toNat_ofNat]; exact Nat.mod_eq_of_lt (by omega)
  show IntKind.i64.wrap ((BitVec.ofInt 64 (a : Int) ||| BitVec.ofInt 64 (b : Int)).toNat : Int) = _
  rw [BitVec.toNat_or, h1, h2, IntKind.wrap_i64]
  omega
theorem and_i64 (a b : Nat) (ha : a < 4294967296) (hb : b < 4294967296) : bits .and .i64 (a : Int) (b : Int) = ((a &&& b : Nat) : Int) := by
  have hx : a &&& b < 2 ^ 32 := Nat.and_lt_two_pow _ (by omega)
  have h1 : (BitVec.ofInt 64 (a : Int)).toNat = a := by
    rw [BitVec.ofInt_natCast, BitVec.toNat_ofNat]; exact Nat.mod_eq_of_lt (by omega)
  have h2 : (BitVec.ofInt 64 (b : Int)).toNat = b := by
    rw [BitVec.ofInt_natCast, BitVec.toNat_ofNat]; exact Nat.mod_eq_of_lt (by omega)
  show IntKind.i64.wrap ((BitVec.ofInt 64 (a : Int) &&& BitVec.ofInt 64 (b : Int)).toNat : Int) = _
  rw [BitVec.toNat_and, h1, h2, IntKind.wrap_i64]
  omega
/-- A set as a number. -/
def numTo (s : Nat → Bool) : Nat → Nat
  | 0 => 0
  | k + 1 => numTo s k ||| (if s k = true then 2 ^ k else 0)
theorem numTo_bit (s : Nat → Bool) (p : Nat) : ∀ k, (numTo s k).testBit p = (decide (p < k) && s p)
  | 0 => by simp [numTo]
  | k + 1 => by
    unfold numTo
    rw [Nat.testBit_or, numTo_bit s p k]
    by_cases hk : s k = true
    · rw [if_pos hk, Nat.testBit_two_pow]
      by_cases e : p = k
      · subst e; simp [hk]
      · have e' : ¬ k = p := fun h => e h.symm
        simp only [e', decide_false, Bool.or_false]
        congr 1
        rw [Bool.eq_iff_iff, decide_eq_true_iff, decide_eq_true_iff]; omega
    · rw [if_neg hk, Nat.zero_testBit, Bool.or_false]
      by_cases e : p = k
      · subst e; simp at hk; simp [hk]
      · congr 1
        rw [Bool.eq_iff_iff, decide_eq_true_iff, decide_eq_true_iff]; omega
def num (s : Nat → Bool) : Nat := numTo s 12
theorem num_bit (s : Nat → Bool) (p : Nat) : (num s).testBit p = (decide (p < 12) && s p) := numTo_bit s p 12
theorem num_lt (s : Nat → Bool) : num s < 4096 := Nat.lt_pow_two_of_testBit (n := 12) _ fun p hp => by rw [num_bit]; simp; omega
theorem num_ext {s t : Nat → Bool} (h : ∀ j, j < 12 → s j = t j) : num s = num t := Nat.eq_of_testBit_eq fun p => by
  rw [num_bit, num_bit]
  by_cases hp : p < 12
  · rw [h p hp]
  · simp [hp]
theorem num_inj {s t : Nat → Bool} (h : num s = num t) : ∀ j, j < 12 → s j = t j := fun j hj => by
  have := num_bit s j
  rw [h, num_bit] at this
  simpa [hj] using this.symm
theorem num_or (s : Nat → Bool) (u : Nat) (hu : u < 12) : num s ||| 2 ^ u = num (adds s u) := Nat.eq_of_testBit_eq fun p => by
  rw [Nat.testBit_or, num_bit, num_bit, Nat.testBit_two_pow]
  unfold adds
  by_cases e : p = u
  · subst e; simp [hu]
  · have e' : ¬ u = p := fun h => e h.symm
    simp [e, e']
theorem num_zero : num (fun _ => false) = 0 := Nat.eq_of_testBit_eq fun p => by rw [num_bit]; simp
theorem num_diff (s t : Nat → Bool) : bits .andNot .i64 (num s : Int) (num t : Int) = ((num (fun j => s j && !t j) : Nat) : Int) := by
  have hs := num_lt s
  have ht := num_lt t
  have hx := num_lt (fun j => s j && !t j)
  have h1 : (BitVec.ofInt 64 (num s : Int)).toNat = num s := by
    rw [BitVec.ofInt_natCast, BitVec.toNat_ofNat]; exact Nat.mod_eq_of_lt (by omega)
  have e : (BitVec.ofInt 64 (num s : Int) &&& ~~~ BitVec.ofInt 64 (num t : Int)).toNat = num (fun j => s j && !t j) := Nat.eq_of_testBit_eq fun p => by
    rw [BitVec.toNat_and, Nat.testBit_and, h1, num_bit, num_bit]
    by_cases hp : p < 12
    · have h2 : (~~~ BitVec.ofInt 64 (num t : Int)).toNat.testBit p = !t p := by
        rw [← BitVec.getLsbD, BitVec.getLsbD_not, BitVec.ofInt_natCast, BitVec.getLsbD_ofNat, num_bit]
        have hp64 : p < 64 := by omega
        simp [hp, hp64]
      rw [h2]
      simp [hp]
    · simp [hp]
  show IntKind.i64.wrap ((BitVec.ofInt 64 (num s : Int) &&& ~~~ BitVec.ofInt 64 (num t : Int)).toNat : Int) = _
  rw [e, IntKind.wrap_i64]
  omega
theorem num_sub {s t : Nat → Bool} : num (fun j => s j && !t j) = 0 ↔ ∀ j, j < 12 → s j = true → t j = true := by
  rw [← num_zero]
  constructor
  · intro h j hj hs
    have := num_inj h j hj
    rw [hs] at this
    simpa using this
  · intro h
    refine num_ext fun j hj => ?_
    cases hs : s j with
    | false => rfl
    | true => simp [h j hj hs]
def setN (m : Nat) (j : Nat) : Bool := m.testBit j
theorem num_setN {m : Nat} (hm : m < 4096) : num (setN m) = m := Nat.eq_of_testBit_eq fun p => by
  rw [num_bit]
  unfold setN
  by_cases hp : p < 12
  · simp [hp]
  · have : m.testBit p = false := Nat.testBit_lt_two_pow (Nat.lt_of_lt_of_le hm (by
      have : (4096 : Nat) = 2 ^ 12 := rfl
      rw [this]; exact Nat.pow_le_pow_right (by omega) (by omega)))
    simp [hp, this]
theorem setOf_zsOf (s : Nat → Bool) {j : Nat} (hj : j < 12) : setOf (zsOf s) j = s j := by
  unfold setOf zsOf
  rw [List.any_map, Bool.eq_iff_iff, List.any_eq_true]
  constructor
  · rintro ⟨u, hu, he⟩
    have : u = j := by simp at he; omega
    subst this
    exact (vsTo_lt hu).2
  · intro hs
    refine ⟨j, ?_, by simp⟩
    unfold vsTo
    rw [List.mem_filter]
    exact ⟨by simpa using hj, hs⟩
def modN (x : Int) (m : Nat) : Nat := (IntKind.u64.wrap x).toNat % m
theorem modN_lt (x : Int) {m : Nat} (h : 1 ≤ m) : modN x m < m := Nat.mod_lt _ (by omega)
theorem mod_any (x : Int) {m : Nat} (h1 : 1 ≤ m) (h2 : m ≤ 1000000000) (w : World) :
    Calls Try.prog 53 #[.int .i64 x, .int .i64 m] w fun e w' => e = .returned (.int .i64 (modN x m : Nat)) ∧ w' = w := by
  obtain ⟨q, hq⟩ : ∃ q : Nat, IntKind.u64.wrap x = (q : Int) ∧ q < 18446744073709551616 := by
    have : IntKind.u64.wrap x = x % 18446744073709551616 := rfl
    exact ⟨(x % 18446744073709551616).toNat, by rw [this]; omega, by omega⟩
  obtain ⟨hq1, hq2⟩ := hq
  have hmod : modN x m = q % m := by unfold modN; rw [hq1]; rfl
  rw [hmod]
  have e2 : IntKind.u64.wrap (m : Int) = (m : Int) := IntWalk.u64_in _ (by omega)
  have hm0 : ((m : Int) == 0) = false := by rw [beq_eq_false_iff_ne]; omega
  have hm : q % m < m := Nat.mod_lt _ (by omega)
  obtain ⟨r, hr⟩ : ∃ r, Keep (q % m = r) := ⟨_, ⟨rfl⟩⟩
  have hw : IntKind.u64.wrap ((q : Int).tmod (m : Int)) = (r : Int) := by
    rw [← hr.out, IntWalk.up_tmod rfl rfl, IntWalk.u64_in _ (by omega)]
  rw [hr.out] at hm ⊢
  have e4 : IntKind.i64.wrap (r : Int) = (r : Int) := IntWalk.i64_in _ (by omega)
  have e5 : wrap64 ((q : Int) % (m : Int)) = (r : Int) := by
    have : ((q : Int) % (m : Int)) = (r : Int) := by rw [← hr.out]; rfl
    rw [this]; unfold wrap64; omega
  have hmz : ¬ m = 0 := by omega
  clear hm h1 h2 hq2 hmod
  go_enter Try.func53, Try.ntmps53
  go_wp2
  go_ret
  exact ⟨by simp [e5], rfl⟩
end Go.Proofs.Yteekigpdiklppaa
