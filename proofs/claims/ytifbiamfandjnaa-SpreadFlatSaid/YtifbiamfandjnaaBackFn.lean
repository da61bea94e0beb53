import Derived.Test.YtifbiamfandjnaaMirrorFn
import Derived.Test.YtifbiamfandjnaaAddFn
set_option linter.unusedSimpArgs false
set_option linter.unusedVariables false
namespace Go.Proofs.Ytifbiamfandjnaa
open Go Go.Proofs Go.RowKit
def bk (b D : Nat) : Nat → Nat → Nat → Nat → Option Nat
  | 0, _, _, _ => none
  | f + 1, r, k, p => if r = 0 then (if k ≤ 1000000 then some k else none) else if 1000000 < p then none else bk b D f (r * b % D) (k + r * b / D * p) (p * b)
def backArg (b n d : Int) : Bool := baseB b && validB n d && decide (0 ≤ n ∧ n < d)
def backR (b n d : Nat) : Option Nat := if b * 1000000 < d then none else bk b d 25 n 0 1
def bkV2 (b D : Nat) : Nat → Nat → Nat → Nat → Value
  | 0, _, _, _ => .tuple #[.int .i64 0, .bool false]
  | f + 1, r, k, p => if r = 0 then .tuple #[.int .i64 (k : Nat), .bool (decide ((k : Int) ≤ 1000000))] else if 1000000 < p then .tuple #[.int .i64 0, .bool false] else bkV2 b D f (r * b % D) (k + r * b / D * p) (p * b)
def backV2 (b n d : Nat) : Value := if b * 1000000 < d then .tuple #[.int .i64 0, .bool false] else bkV2 b d 25 n 0 1
theorem bkV2_of (b D : Nat) : ∀ f r k p, (∀ z, bk b D f r k p = some z → bkV2 b D f r k p = .tuple #[.int .i64 (z : Nat), .bool true]) ∧ (bk b D f r k p = none → ∃ z : Int, bkV2 b D f r k p = .tuple #[.int .i64 z, .bool false])
  | 0, r, k, p => ⟨fun z h => (by cases h), fun _ => ⟨0, rfl⟩⟩
  | f + 1, r, k, p => by
    unfold bk bkV2
    by_cases hr : r = 0
    · rw [if_pos hr, if_pos hr]
      by_cases hk : k ≤ 1000000
      · rw [if_pos hk, decide_eq_true (by omega)]
        exact ⟨fun z h => by cases h; rfl, fun h => (by cases h)⟩
      · rw [if_neg hk, decide_eq_false (by omega)]
        exact ⟨fun z h => (by cases h), fun _ => ⟨k, rfl⟩⟩
    · rw [if_neg hr, if_neg hr]
      by_cases hp : 1000000 < p
      · rw [if_pos hp, if_pos hp]
        exact ⟨fun z h => (by cases h), fun _ => ⟨0, rfl⟩⟩
      · rw [if_neg hp, if_neg hp]
        exact bkV2_of b D f _ _ _
theorem backV2_some {b n d z : Nat} (h : backR b n d = some z) : backV2 b n d = .tuple #[.int .i64 (z : Nat), .bool true] := by
  unfold backR at h
  unfold backV2
  by_cases hb : b * 1000000 < d
  · rw [if_pos hb] at h; cases h
  · rw [if_neg hb] at h ⊢; exact (bkV2_of b d 25 n 0 1).1 z h
theorem backV2_none {b n d : Nat} (h : backR b n d = none) : ∃ z : Int, backV2 b n d = .tuple #[.int .i64 z, .bool false] := by
  unfold backR at h
  unfold backV2
  by_cases hb : b * 1000000 < d
  · rw [if_pos hb]; exact ⟨0, rfl⟩
  · rw [if_neg hb] at h ⊢; exact (bkV2_of b d 25 n 0 1).2 h
def backV : Option Nat → Value
  | none => .tuple #[.int .i64 0, .int .i64 6]
  | some k => .tuple #[.int .i64 (k : Nat), .int .i64 0]
set_option maxHeartbeats 1000000 in
theorem back_no {b n d : Int} (hn : In64 n) (hd : In64 d) (h : backArg b n d = false) (w : World) :
    Calls Try.prog 35 #[.int .i64 b, fracV n d] w fun e w' => e = .returned (.tuple #[.int .i64 0, .int .i64 2]) ∧ Below w.heap.size w w' := by
  unfold backArg at h
  have hq := fun w => isBase_any b w
  have hv := fun w => isValid_any n d hn.1 hn.2 hd.1 hd.2 w
  unfold fracV at hv ⊢
  go_enter Try.func35, Try.ntmps35
  cases hb : baseB b with
  | false =>
    rw [hb] at hq
    clear h hb
    go_wp2_with (go_at_call 73; refine (hq _).mono ?_; rintro e w5 ⟨rfl, rfl⟩)
    go_ret2
    exact ⟨rfl, (Below.refl _ _).alloc (Nat.le_refl _) _⟩
  | true =>
    rw [hb] at hq h
    cases hvv : validB n d with
    | false =>
      rw [hvv] at hv
      clear h hb hvv
      go_wp2_with (first
        | (go_at_call 73; refine (hq _).mono ?_; rintro e w5 ⟨rfl, rfl⟩)
        | (go_at_call 75; refine (hv _).mono ?_; rintro e w6 ⟨rfl, hb6⟩))
      go_ret2
      exact ⟨rfl, ((Below.refl _ _).alloc (Nat.le_refl _) _).trans (hb6.mono (by simp))⟩
    | true =>
      rw [hvv] at hv h
      rw [Bool.true_and, Bool.true_and, decide_eq_false_iff_not] at h
      have hk : n < 0 ∨ d ≤ n := by omega
      clear h hb hvv
      rcases hk with hk | hk
      all_goals go_wp2_with (first
          | (go_at_call 73; refine (hq _).mono ?_; rintro e w5 ⟨rfl, rfl⟩)
          | (go_at_call 75; refine (hv _).mono ?_; rintro e w6 ⟨rfl, hb6⟩
             have c0 : w6.cell? ⟨w.heap.size, 0, none⟩ = some (.int .i64 n) := (hb6.cell (p := ⟨w.heap.size, 0, none⟩) (by simp)).trans (by go_simp)
             have c1 : w6.cell? ⟨w.heap.size, 1, none⟩ = some (.int .i64 d) := (hb6.cell (p := ⟨w.heap.size, 1, none⟩) (by simp)).trans (by go_simp)
             have hbk : Below w.heap.size w w6 := ((Below.refl _ _).alloc (Nat.le_refl _) _).trans (hb6.mono (by simp))
             clear hb6))
      all_goals go_ret2
      all_goals exact ⟨rfl, hbk⟩
set_option maxHeartbeats 1000000 in
set_option maxRecDepth 100000 in
theorem back_any {b n d : Nat} (hb1 : 2 ≤ b) (hb2 : b ≤ 16) (hd64 : In64 (d : Int)) (hv : validB (n : Int) (d : Int) = true) (hnd : n < d) (w : World) :
    Calls Try.prog 35 #[.int .i64 b, fracV n d] w fun e w' => e = .returned (backV (backR b n d)) ∧ Below w.heap.size w w' := by
  have hq := fun w => isBase_any (b : Int) w
  rw [show baseB (b : Int) = true from decide_eq_true (by omega)] at hq
  have hd2 := hd64.2
  have hvv := fun w => isValid_any (n : Int) (d : Int) (by omega) (by omega) (by omega) (by omega) w
  rw [hv] at hvv
  have hd2k := Keep.mk hd2
  clear hv hd64 hd2
  obtain ⟨V, hV⟩ : ∃ V, Keep (backV (backR b n d) = V) := ⟨_, ⟨rfl⟩⟩
  rw [hV.out]
  have hbm : IntKind.i64.wrap ((b : Int) * 1000000) = ((b * 1000000 : Nat) : Int) := by
    rw [IntWalk.i64_in _ (by omega), Int.natCast_mul]; rfl
  obtain ⟨M, hM⟩ : ∃ M : Nat, Keep (b * 1000000 = M) := ⟨_, ⟨rfl⟩⟩
  have hM2 : M ≤ 16000000 := by have := hM.out; omega
  rw [hM.out] at hbm
  obtain ⟨B, hB⟩ : ∃ B : Int, Keep ((b : Int) = B) := ⟨_, ⟨rfl⟩⟩
  have hB1 : 2 ≤ B ∧ B ≤ 16 := by have := hB.out; omega
  rw [hB.out] at hq hbm ⊢
  have hnk := Keep.mk hnd
  have hd1 : 1 ≤ d := by omega
  unfold fracV at hvv ⊢
  go_enter Try.func35, Try.ntmps35
  by_cases hbig : M < d
  · have hVn : Keep (V = .tuple #[.int .i64 0, .int .i64 6]) := ⟨by rw [← hV.out]; unfold backR; rw [hM.out, if_pos hbig]; rfl⟩
    go_wp2_with (first
        | (go_at_call 73; refine (hq _).mono ?_; rintro e w5 ⟨rfl, rfl⟩)
        | (go_at_call 75; refine (hvv _).mono ?_; rintro e w6 ⟨rfl, hb6⟩
           have c0 : w6.cell? ⟨w.heap.size, 0, none⟩ = some (.int .i64 n) := (hb6.cell (p := ⟨w.heap.size, 0, none⟩) (by simp)).trans (by go_simp)
           have c1 : w6.cell? ⟨w.heap.size, 1, none⟩ = some (.int .i64 d) := (hb6.cell (p := ⟨w.heap.size, 1, none⟩) (by simp)).trans (by go_simp)
           have hbk : Below w.heap.size w w6 := ((Below.refl _ _).alloc (Nat.le_refl _) _).trans (hb6.mono (by simp))
           clear hb6))
    go_ret2
    exact ⟨by rw [hVn.out]; rfl, hbk⟩
  · have hVr : Keep (backV (bk b d 25 n 0 1) = V) := ⟨by rw [← hV.out]; unfold backR; rw [hM.out, if_neg hbig]⟩
    go_wp2_with (first
        | (go_at_call 73; refine (hq _).mono ?_; rintro e w5 ⟨rfl, rfl⟩)
        | (go_at_call 75; refine (hvv _).mono ?_; rintro e w6 ⟨rfl, hb6⟩
           have c0 : w6.cell? ⟨w.heap.size, 0, none⟩ = some (.int .i64 n) := (hb6.cell (p := ⟨w.heap.size, 0, none⟩) (by simp)).trans (by go_simp)
           have c1 : w6.cell? ⟨w.heap.size, 1, none⟩ = some (.int .i64 d) := (hb6.cell (p := ⟨w.heap.size, 1, none⟩) (by simp)).trans (by go_simp)
           have hbk : Below w.heap.size w w6 := ((Below.refl _ _).alloc (Nat.le_refl _) _).trans (hb6.mono (by simp))
           clear hb6))
    go_loop [6, 7, 8] (fun x y z => ∃ f r k p : Nat, x = .int .i64 k ∧ y = .int .i64 p ∧ z = .int .i64 r ∧ Keep (backV (bk b d f r k p) = V) ∧ 16000000 < p * 2 ^ f ∧ r < d ∧ k < p ∧ p ≤ 16000000) (fun _ y _ => 16000001 - (intOf y).toNat)
    case atStart => exact ⟨25, n, 0, 1, rfl, rfl, rfl, hVr, by omega, hnk.out, by omega, by omega⟩
    case round =>
      obtain ⟨f, r, k, p, rfl, rfl, rfl, hr, hf, hrd, hkp, hp⟩ := hrel
      obtain ⟨f', rfl⟩ : ∃ f', f = f' + 1 := by
        cases f with
        | zero => omega
        | succ f' => exact ⟨f', rfl⟩
      by_cases hz : r = 0
      · subst hz
        by_cases hk : k ≤ 1000000
        · have hVk : Keep (V = .tuple #[.int .i64 (k : Nat), .int .i64 0]) := ⟨by have := hr.out; simp only [bk, if_true, hk] at this; exact this.symm⟩
          clear hf
          go_wp2
          go_ret2
          exact ⟨by rw [hVk.out]; rfl, hbk⟩
        · have hVk : Keep (V = .tuple #[.int .i64 0, .int .i64 6]) := ⟨by have := hr.out; simp only [bk, if_true, hk, if_false] at this; exact this.symm⟩
          clear hf
          go_wp2
          go_ret2
          exact ⟨by rw [hVk.out]; rfl, hbk⟩
      · by_cases hp2 : 1000000 < p
        · have hVk : Keep (V = .tuple #[.int .i64 0, .int .i64 6]) := ⟨by have := hr.out; simp only [bk, hz, if_false, hp2, if_true] at this; exact this.symm⟩
          clear hf
          go_wp2
          go_ret2
          exact ⟨by rw [hVk.out]; rfl, hbk⟩
        · have hr2 : Keep (backV (bk b d f' (r * b % d) (k + r * b / d * p) (p * b)) = V) := ⟨by have := hr.out; simp only [bk, hz, if_false, hp2] at this; exact this⟩
          have hf2 : 16000000 < p * b * 2 ^ f' := by
            have h1 : p * 2 * 2 ^ f' ≤ p * b * 2 ^ f' := Nat.mul_le_mul_right _ (Nat.mul_le_mul_left p hb1)
            rw [Nat.pow_succ, Nat.mul_comm (2 ^ f') 2, ← Nat.mul_assoc] at hf
            omega
          have hrb : r * b ≤ 16000000 * 16 := Nat.mul_le_mul (by omega) hb2
          have hpb : p * b ≤ 1000000 * 16 := Nat.mul_le_mul (by omega) hb2
          have hpb2 : p * 2 ≤ p * b := Nat.mul_le_mul_left p hb1
          have hmod : r * b % d < d := Nat.mod_lt _ (by omega)
          have hdivlt : r * b / d < b := by
            rw [Nat.div_lt_iff_lt_mul (by omega), Nat.mul_comm]
            exact Nat.mul_lt_mul_of_pos_left hrd (by omega)
          have hqp : (r * b / d + 1) * p ≤ b * p := Nat.mul_le_mul_right p hdivlt
          rw [Nat.add_mul, Nat.one_mul, Nat.mul_comm b p] at hqp
          obtain ⟨R1, hR1⟩ : ∃ x, Keep (r * b = x) := ⟨_, ⟨rfl⟩⟩
          obtain ⟨P1, hP1⟩ : ∃ x, Keep (p * b = x) := ⟨_, ⟨rfl⟩⟩
          rw [hR1.out] at hrb hmod hqp hr2
          rw [hP1.out] at hpb hpb2 hqp hr2 hf2
          obtain ⟨Q1, hQ1⟩ : ∃ x, Keep (R1 / d = x) := ⟨_, ⟨rfl⟩⟩
          obtain ⟨S1, hS1⟩ : ∃ x, Keep (R1 % d = x) := ⟨_, ⟨rfl⟩⟩
          rw [hQ1.out] at hqp hr2
          rw [hS1.out] at hmod hr2
          obtain ⟨T1, hT1⟩ : ∃ x, Keep (Q1 * p = x) := ⟨_, ⟨rfl⟩⟩
          rw [hT1.out] at hqp hr2
          have hQle : Q1 ≤ R1 := by have := hQ1.out; rw [← this]; exact Nat.div_le_self _ _
          have e1 : IntKind.i64.wrap ((r : Int) * B) = (R1 : Int) := by rw [← hB.out, ← Int.natCast_mul, hR1.out, IntWalk.i64_in _ (by omega)]
          have e2 : IntKind.i64.wrap ((R1 : Int).tdiv (d : Int)) = (Q1 : Int) := by rw [← hQ1.out, IntWalk.up_tdiv rfl rfl, IntWalk.i64_in _ (by rw [hQ1.out]; omega)]
          have e2' : IntKind.i64.wrap ((R1 : Int) / (d : Int)) = (Q1 : Int) := by
            rw [show (R1 : Int) / (d : Int) = (Q1 : Int) from by rw [← hQ1.out]; rfl]; exact IntWalk.i64_in _ (by omega)
          have e2'' : (R1 : Int) / (d : Int) = (Q1 : Int) := by rw [← hQ1.out]; rfl
          have e3 : IntKind.i64.wrap ((Q1 : Int) * (p : Int)) = (T1 : Int) := by rw [← Int.natCast_mul, hT1.out, IntWalk.i64_in _ (by omega)]
          have e4 : (R1 : Int) % (d : Int) = (S1 : Int) := by rw [← hS1.out]; rfl
          have e5 : IntKind.i64.wrap ((p : Int) * B) = (P1 : Int) := by rw [← hB.out, ← Int.natCast_mul, hP1.out, IntWalk.i64_in _ (by omega)]
          have hd0 : ((d : Int) == 0) = false := by rw [beq_eq_false_iff_ne]; omega
          clear hf
          go_wp2
          refine ⟨⟨f', S1, k + T1, P1, by push_cast; rfl, rfl, by rw [e4], hr2, hf2, hmod, by omega, by omega⟩, ?_⟩
          simp only [intOf]
          omega
set_option maxHeartbeats 1000000 in
set_option maxRecDepth 100000 in
theorem refBack_any {b n d : Nat} (hb1 : 2 ≤ b) (hb2 : b ≤ 16) (hd64 : In64 (d : Int)) (hnd : n < d) (w : World) :
    Calls Try.prog 39 #[.int .i64 b, fracV n d] w fun e w' => e = .returned (backV2 b n d) ∧ Below w.heap.size w w' := by
  have hd2 := hd64.2
  have hd2k := Keep.mk hd2
  clear hd64 hd2
  obtain ⟨V, hV⟩ : ∃ V, Keep (backV2 b n d = V) := ⟨_, ⟨rfl⟩⟩
  rw [hV.out]
  have hbm : IntKind.i64.wrap ((b : Int) * 1000000) = ((b * 1000000 : Nat) : Int) := by
    rw [IntWalk.i64_in _ (by omega), Int.natCast_mul]; rfl
  obtain ⟨M, hM⟩ : ∃ M : Nat, Keep (b * 1000000 = M) := ⟨_, ⟨rfl⟩⟩
  have hM2 : M ≤ 16000000 := by have := hM.out; omega
  rw [hM.out] at hbm
  obtain ⟨B, hB⟩ : ∃ B : Int, Keep ((b : Int) = B) := ⟨_, ⟨rfl⟩⟩
  have hB1 : 2 ≤ B ∧ B ≤ 16 := by have := hB.out; omega
  rw [hB.out] at hbm ⊢
  have hnk := Keep.mk hnd
  have hd1 : 1 ≤ d := by omega
  unfold fracV
  go_enter Try.func39, Try.ntmps39
  by_cases hbig : M < d
  · have hVn : Keep (V = .tuple #[.int .i64 0, .bool false]) := ⟨by rw [← hV.out]; unfold backV2; rw [hM.out, if_pos hbig]⟩
    go_wp2
    go_ret2
    exact ⟨by rw [hVn.out]; rfl, (Below.refl _ _).alloc (Nat.le_refl _) _⟩
  · have hVr : Keep (bkV2 b d 25 n 0 1 = V) := ⟨by rw [← hV.out]; unfold backV2; rw [hM.out, if_neg hbig]⟩
    go_wp2
    go_loop [6, 7, 8] (fun z x y => ∃ f r k p : Nat, x = .int .i64 k ∧ y = .int .i64 p ∧ z = .int .i64 r ∧ Keep (bkV2 b d f r k p = V) ∧ 16000000 < p * 2 ^ f ∧ r < d ∧ k < p ∧ p ≤ 16000000) (fun _ _ y => 16000001 - (intOf y).toNat)
    case atStart => exact ⟨25, n, 0, 1, rfl, rfl, rfl, hVr, by omega, hnk.out, by omega, by omega⟩
    case round =>
      obtain ⟨f, r, k, p, rfl, rfl, rfl, hr, hf, hrd, hkp, hp⟩ := hrel
      obtain ⟨f', rfl⟩ : ∃ f', f = f' + 1 := by
        cases f with
        | zero => omega
        | succ f' => exact ⟨f', rfl⟩
      by_cases hz : r = 0
      · subst hz
        have hVk : Keep (V = .tuple #[.int .i64 (k : Nat), .bool (decide ((k : Int) ≤ 1000000))]) := ⟨by have := hr.out; simp only [bkV2, if_true] at this; exact this.symm⟩
        clear hf
        go_wp2
        go_ret2
        exact ⟨by rw [hVk.out]; rfl, (Below.refl _ _).alloc (Nat.le_refl _) _⟩
      · by_cases hp2 : 1000000 < p
        · have hVk : Keep (V = .tuple #[.int .i64 0, .bool false]) := ⟨by have := hr.out; simp only [bkV2, hz, if_false, hp2, if_true] at this; exact this.symm⟩
          clear hf
          go_wp2
          go_ret2
          exact ⟨by rw [hVk.out]; rfl, (Below.refl _ _).alloc (Nat.le_refl _) _⟩
        · have hr2 : Keep (bkV2 b d f' (r * b % d) (k + r * b / d * p) (p * b) = V) := ⟨by have := hr.out; simp only [bkV2, hz, if_false, hp2] at this; exact this⟩
          have hf2 : 16000000 < p * b * 2 ^ f' := by
            have h1 : p * 2 * 2 ^ f' ≤ p * b * 2 ^ f' := Nat.mul_le_mul_right _ (Nat.mul_le_mul_left p hb1)
            rw [Nat.pow_succ, Nat.mul_comm (2 ^ f') 2, ← Nat.mul_assoc] at hf
            omega
          have hrb : r * b ≤ 16000000 * 16 := Nat.mul_le_mul (by omega) hb2
          have hpb : p * b ≤ 1000000 * 16 := Nat.mul_le_mul (by omega) hb2
          have hpb2 : p * 2 ≤ p * b := Nat.mul_le_mul_left p hb1
          have hmod : r * b % d < d := Nat.mod_lt _ (by omega)
          have hdivlt : r * b / d < b := by
            rw [Nat.div_lt_iff_lt_mul (by omega), Nat.mul_comm]
            exact Nat.mul_lt_mul_of_pos_left hrd (by omega)
          have hqp : (r * b / d + 1) * p ≤ b * p := Nat.mul_le_mul_right p hdivlt
          rw [Nat.add_mul, Nat.one_mul, Nat.mul_comm b p] at hqp
          obtain ⟨R1, hR1⟩ : ∃ x, Keep (r * b = x) := ⟨_, ⟨rfl⟩⟩
          obtain ⟨P1, hP1⟩ : ∃ x, Keep (p * b = x) := ⟨_, ⟨rfl⟩⟩
          rw [hR1.out] at hrb hmod hqp hr2
          rw [hP1.out] at hpb hpb2 hqp hr2 hf2
          obtain ⟨Q1, hQ1⟩ : ∃ x, Keep (R1 / d = x) := ⟨_, ⟨rfl⟩⟩
          obtain ⟨S1, hS1⟩ : ∃ x, Keep (R1 % d = x) := ⟨_, ⟨rfl⟩⟩
          rw [hQ1.out] at hqp hr2
          rw [hS1.out] at hmod hr2
          obtain ⟨T1, hT1⟩ : ∃ x, Keep (Q1 * p = x) := ⟨_, ⟨rfl⟩⟩
          rw [hT1.out] at hqp hr2
          have hQle : Q1 ≤ R1 := by have := hQ1.out; rw [← this]; exact Nat.div_le_self _ _
          have e1 : IntKind.i64.wrap ((r : Int) * B) = (R1 : Int) := by rw [← hB.out, ← Int.natCast_mul, hR1.out, IntWalk.i64_in _ (by omega)]
          have e2 : IntKind.i64.wrap ((R1 : Int).tdiv (d : Int)) = (Q1 : Int) := by rw [← hQ1.out, IntWalk.up_tdiv rfl rfl, IntWalk.i64_in _ (by rw [hQ1.out]; omega)]
          have e2' : IntKind.i64.wrap ((R1 : Int) / (d : Int)) = (Q1 : Int) := by
            rw [show (R1 : Int) / (d : Int) = (Q1 : Int) from by rw [← hQ1.out]; rfl]; exact IntWalk.i64_in _ (by omega)
          have e2'' : (R1 : Int) / (d : Int) = (Q1 : Int) := by rw [← hQ1.out]; rfl
          have e3 : IntKind.i64.wrap ((Q1 : Int) * (p : Int)) = (T1 : Int) := by rw [← Int.natCast_mul, hT1.out, IntWalk.i64_in _ (by omega)]
          have e4 : (R1 : Int) % (d : Int) = (S1 : Int) := by rw [← hS1.out]; rfl
          have e5 : IntKind.i64.wrap ((p : Int) * B) = (P1 : Int) := by rw [← hB.out, ← Int.natCast_mul, hP1.out, IntWalk.i64_in _ (by omega)]
          have hd0 : ((d : Int) == 0) = false := by rw [beq_eq_false_iff_ne]; omega
          clear hf
          go_wp2
          refine ⟨⟨f', S1, k + T1, P1, by push_cast; rfl, rfl, by rw [e4], hr2, hf2, hmod, by omega, by omega⟩, ?_⟩
          simp only [intOf]
          omega
end Go.Proofs.Ytifbiamfandjnaa
