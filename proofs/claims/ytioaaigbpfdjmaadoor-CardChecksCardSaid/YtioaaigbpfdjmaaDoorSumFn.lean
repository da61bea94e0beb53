import Derived.Test.YtioaaigbpfdjmaaDoorWeigh
import Derived.Test.YtioaaigbpfdjmaaDoorTurnYes
import Derived.Test.YtioaaigbpfdjmaaDoorSumMath
set_option linter.unusedSimpArgs false
set_option linter.unusedVariables false
namespace Go.Proofs.YtioaaigbpfdjmaaDoor
open Go Go.Proofs Go.RowKit
theorem xor_u32 (a b : Nat) (ha : a < 4294967296) (hb : b < 4294967296) : bits .xor .u32 (a : Int) (b : Int) = ((a ^^^ b : Nat) : Int) := by
  have hx : a ^^^ b < 2 ^ 32 := Nat.xor_lt_two_pow (by omega) (by omega)
  have h1 : (BitVec.ofInt 32 (a : Int)).toNat = a := by
    rw [BitVec.ofInt_natCast, BitVec.toNat_ofNat]; exact Nat.mod_eq_of_lt (by omega)
  have h2 : (BitVec.ofInt 32 (b : Int)).toNat = b := by
    rw [BitVec.ofInt_natCast, BitVec.toNat_ofNat]; exact Nat.mod_eq_of_lt (by omega)
  show IntKind.u32.wrap ((BitVec.ofInt 32 (a : Int) ^^^ BitVec.ofInt 32 (b : Int)).toNat : Int) = _
  rw [BitVec.toNat_xor, h1, h2, wrap_u32']
  omega
theorem xor_pow (a k : Nat) (ha : a < 4294967296) (hk : k < 32) : bits .xor .u32 (a : Int) (2 ^ k % 4294967296) = ((a ^^^ 2 ^ k : Nat) : Int) ∧ a ^^^ 2 ^ k < 4294967296 := by
  have hp : 2 ^ k < 2 ^ 32 := Nat.pow_lt_pow_right (by decide) hk
  have e : ((2 : Int) ^ k % 4294967296) = ((2 ^ k : Nat) : Int) := by
    have : ((2 : Int) ^ k) = ((2 ^ k : Nat) : Int) := by push_cast; rfl
    rw [this]
    generalize 2 ^ k = q at hp
    omega
  rw [e]
  exact ⟨xor_u32 a _ ha (by omega), Nat.xor_lt_two_pow (n := 32) (by omega) hp⟩
/-- The set of the sum, up to the point p in the round i. -/
def sumTo (O N i p : Nat) (S : Nat) : Prop := ∀ q, S.testBit q = (decide (q < N) && if q < p then rnd O.testBit (i + 1) q else rnd O.testBit i q)
def sumAt (O N i : Nat) (S : Nat) : Prop := ∀ q, S.testBit q = (decide (q < N) && rnd O.testBit i q)
theorem sumTo_zero {O N i S : Nat} (h : sumAt O N i S) : sumTo O N i 0 S := fun q => by rw [h q]; simp
theorem sumTo_all {O N i S : Nat} (h : sumTo O N i N S) : sumAt O N (i + 1) S := fun q => by
  rw [h q]
  by_cases hq : q < N <;> simp [hq]
theorem bitN_test (p k : Nat) : bitN p k = (p.testBit k).toNat := by
  unfold bitN
  rw [Nat.testBit_eq_decide_div_mod_eq]
  rcases Nat.mod_two_eq_zero_or_one (p / 2 ^ k) with h | h <;> simp [h]
theorem sumTo_skip {O N i p S : Nat} (h : sumTo O N i p S) (hb : p.testBit i = false) : sumTo O N i (p + 1) S := fun q => by
  rw [h q]
  by_cases e : q = p
  · subst e
    have : rnd O.testBit (i + 1) q = rnd O.testBit i q := by simp only [rnd]; rw [if_neg (by rw [hb]; simp)]
    simp [this]
  · have e2 : (q < p + 1) = (q < p) := propext (by omega)
    simp [e2]
theorem sumTo_keep {O N i p S : Nat} (h : sumTo O N i p S) (hb : p.testBit i = true) (hx : rnd O.testBit i (p ^^^ 2 ^ i) = false) : sumTo O N i (p + 1) S := fun q => by
  rw [h q]
  by_cases e : q = p
  · subst e
    have : rnd O.testBit (i + 1) q = rnd O.testBit i q := by simp only [rnd]; rw [if_pos hb, hx, Bool.xor_false]
    simp [this]
  · have e2 : (q < p + 1) = (q < p) := propext (by omega)
    simp [e2]
theorem sumTo_flip {O N i p S : Nat} (h : sumTo O N i p S) (hp : p < N) (hb : p.testBit i = true) (hx : rnd O.testBit i (p ^^^ 2 ^ i) = true) : sumTo O N i (p + 1) (S ^^^ 2 ^ p) := fun q => by
  rw [Nat.testBit_xor, h q, Nat.testBit_two_pow]
  by_cases e : q = p
  · subst e
    have : rnd O.testBit (i + 1) q = !rnd O.testBit i q := by simp only [rnd]; rw [if_pos hb, hx, Bool.xor_true]
    simp [this, hp]
  · have e2 : (q < p + 1) = (q < p) := propext (by omega)
    have e3 : ¬ p = q := fun h => e h.symm
    simp [e2, e3]
theorem flip_all : ∀ i, i < 5 → ∀ p, p < 32 → p.testBit i = true → p ^^^ 2 ^ i < p ∧ (p ^^^ 2 ^ i).testBit i = false := by decide +kernel
theorem flip_less {p i : Nat} (hi : i < 5) (hp : p < 32) (hb : p.testBit i = true) : p ^^^ 2 ^ i < p ∧ (p ^^^ 2 ^ i).testBit i = false := flip_all i hi p hp hb
theorem sumTo_look {O N i p S : Nat} (h : sumTo O N i p S) (hi : i < 5) (h32 : p < 32) (hp : p < N) (hb : p.testBit i = true) : S.testBit (p ^^^ 2 ^ i) = rnd O.testBit i (p ^^^ 2 ^ i) := by
  obtain ⟨h1, h2⟩ := flip_less hi h32 hb
  rw [h, if_pos h1, decide_eq_true (by omega), Bool.true_and]
  simp only [rnd]
  rw [if_neg (by rw [h2]; simp)]
set_option maxHeartbeats 1000000 in
set_option maxRecDepth 100000 in
theorem sum_any {n O Z N : Nat} {w : World} (h5 : n ≤ 5) (hN : Keep (N = 2 ^ n)) (hN32 : N ≤ 32) (hO : O < 4294967296) (hOb : Keep (∀ q, N ≤ q → O.testBit q = false)) :
    Calls Tryd.prog 74 #[.agg #[.int .i64 n, .int .u32 O, .int .u32 Z]] w fun e w' => (∃ S : Nat, S < 4294967296 ∧ e = .returned (.int .u32 S) ∧ sumAt O N n S) ∧ Below w.heap.size w w' := by
  go_enter Tryd.func74, Tryd.ntmps74
  go_wp2
  go_loopw [3, 10] (fun s i wr => ∃ k S : Nat, k ≤ n ∧ i = .int .i64 k ∧ S < 4294967296 ∧ s = .int .u32 S ∧ Keep (sumAt O N k S) ∧ Below (w.heap.size + 1) (w.alloc (.cells #[.int .i64 n, .int .u32 O, .int .u32 Z] 79)) wr) (fun _ i _ => n - (intOf i).toNat)
  case atStart =>
    refine ⟨0, O, by omega, rfl, hO, rfl, ⟨fun q => ?_⟩, Below.refl _ _⟩
    by_cases hq : q < N
    · simp [hq, rnd]
    · simp [hq, hOb.out q (by omega)]
  case round =>
    obtain ⟨k, S, hk, rfl, hS, rfl, hat, hbw⟩ := hrel
    have hbw' : Below (w.alloc (.cells #[.int .i64 n, .int .u32 O, .int .u32 Z] 79)).heap.size (w.alloc (.cells #[.int .i64 n, .int .u32 O, .int .u32 Z] 79)) wr := by simpa using hbw
    obtain ⟨c0, c1, c2, _, _, _, hlt, hbw2⟩ := carry_new hbw'
    clear hbw'
    by_cases hkn : k < n
    · have hw := wrap_pow (k := k) (by omega)
      obtain ⟨P, hP⟩ : ∃ P, Keep (P = 2 ^ k) := ⟨_, ⟨rfl⟩⟩
      rw [← hP.out] at hw
      have hP32 : P ≤ 32 := by
        have h1 : 2 ^ k ≤ 2 ^ 5 := Nat.pow_le_pow_right (by decide) (by omega)
        have := hP.out; omega
      go_wp2_with (go_at_call 75; refine (tsize_any n O Z N h5 hN.out _).mono ?_; rintro e w4 ⟨rfl, hb4⟩
                   have hbw4 : Below (w.heap.size + 1) (w.alloc (.cells #[.int .i64 n, .int .u32 O, .int .u32 Z] 79)) w4 := below_trans hbw hb4 hlt
                   clear hb4)
      go_loopw [3, 15] (fun s i wr => ∃ p S : Nat, p ≤ N ∧ i = .int .i64 p ∧ S < 4294967296 ∧ s = .int .u32 S ∧ Keep (sumTo O N k p S) ∧ wr = w4) (fun _ i _ => N - (intOf i).toNat)
      case atStart => exact ⟨0, S, by omega, rfl, hS, rfl, ⟨sumTo_zero hat.out⟩, rfl⟩
      case round =>
        clear hat hS
        obtain ⟨p, S, hp, rfl, hS, rfl, hto, rfl⟩ := hrel
        by_cases hpN : p < N
        · have hp32 : p < 32 := by omega
          have hbit := bit_i64 p k hp32
          have hx := xor_pow S p hS hp32
          obtain ⟨hx1, hx2⟩ := hx
          cases hb : p.testBit k
          · have e : bitN p k = 0 := by rw [bitN_test, hb]; rfl
            have hnext : Keep (sumTo O N k (p + 1) S) := ⟨sumTo_skip hto.out hb⟩
            rw [e] at hbit
            clear e hb
            go_wp2
            exact ⟨⟨p + 1, S, by omega, by go_num, hS, rfl, hnext, by first | rfl | trivial⟩, by simp [intOf]; omega⟩
          · have e : bitN p k = 1 := by rw [bitN_test, hb]; rfl
            have hlook := sumTo_look hto.out (by omega) hp32 hpN hb
            obtain ⟨hf1, _⟩ := flip_less (by omega) hp32 hb
            have hxor : bits .xor .i64 (p : Int) (P : Int) = ((p ^^^ P : Nat) : Int) := xor_i64 p P (by omega) (by omega)
            rw [e] at hbit
            cases hr : rnd O.testBit k (p ^^^ 2 ^ k)
            · have hnext : Keep (sumTo O N k (p + 1) S) := ⟨sumTo_keep hto.out hb hr⟩
              rw [hr, ← hP.out] at hlook
              rw [← hP.out] at hf1
              clear e hb hr
              go_wp2_with (go_at_call 76; refine (has_any S (p ^^^ P) hS (by omega) _).mono ?_; rintro e w6 ⟨rfl, rfl⟩; rw [hlook])
              exact ⟨⟨p + 1, S, by omega, by go_num, hS, rfl, hnext, by first | rfl | trivial⟩, by simp [intOf]; omega⟩
            · have hnext : Keep (sumTo O N k (p + 1) (S ^^^ 2 ^ p)) := ⟨sumTo_flip hto.out hpN hb hr⟩
              rw [hr, ← hP.out] at hlook
              rw [← hP.out] at hf1
              clear e hb hr
              go_wp2_with (first
                | (go_at_call 76; refine (has_any S (p ^^^ P) hS (by omega) _).mono ?_; rintro e w6 ⟨rfl, rfl⟩; rw [hlook])
                | (go_at_call 93; refine (single_any p hp32 _).mono ?_; rintro e w6 ⟨rfl, rfl⟩))
              exact ⟨⟨p + 1, S ^^^ 2 ^ p, by omega, by go_num, hx2, rfl, hnext, by first | rfl | trivial⟩, by simp [intOf]; omega⟩
        · have : p = N := by omega
          subst this
          have hnext : Keep (sumAt O p (k + 1) S) := ⟨sumTo_all hto.out⟩
          go_wp2
          exact ⟨⟨k + 1, S, by omega, by go_num, hS, rfl, hnext, hbw4⟩, by simp [intOf]; omega⟩
    · have : k = n := by omega
      subst this
      go_wp2
      go_ret
      exact ⟨⟨S, hS, rfl, hat.out⟩, hbw2⟩
end Go.Proofs.YtioaaigbpfdjmaaDoor
