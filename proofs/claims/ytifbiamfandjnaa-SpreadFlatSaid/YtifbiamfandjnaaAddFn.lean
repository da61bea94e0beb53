import Derived.Test.YtifbiamfandjnaaValid
set_option linter.unusedSimpArgs false
set_option linter.unusedVariables false
namespace Go.Proofs.Ytifbiamfandjnaa
open Go Go.Proofs Go.RowKit
abbrev In64 (x : Int) : Prop := -9223372036854775808 ≤ x ∧ x < 9223372036854775808
def termB (n d : Int) : Bool := validB n d && decide (-1000000000 ≤ n ∧ n ≤ 1000000000 ∧ d ≤ 1000000000)
theorem termB_false {n d : Int} (h : validB n d = false) : termB n d = false := by unfold termB; rw [h]; rfl
theorem term_bounds {n d : Int} (h : termB n d = true) : 1 ≤ d ∧ d ≤ 1000000000 ∧ -1000000000 ≤ n ∧ n ≤ 1000000000 := by
  unfold termB validB at h
  rw [Bool.and_eq_true, decide_eq_true_iff, decide_eq_true_iff] at h
  exact ⟨h.1.1, h.2.2.2, h.2.1, h.2.2.1⟩
theorem isTerm_any {n d : Int} (hn : In64 n) (hd : In64 d) (w : World) :
    Calls Try.prog 78 #[fracV n d] w fun e w' => e = .returned (.bool (termB n d)) ∧ Below w.heap.size w w' := by
  obtain ⟨D, hD⟩ : ∃ D, Keep (termB n d = D) := ⟨_, ⟨rfl⟩⟩
  obtain ⟨V, hV⟩ : ∃ V, Keep (validB n d = V) := ⟨_, ⟨rfl⟩⟩
  rw [hD.out]
  have hcall := isValid_any n d hn.1 hn.2 hd.1 hd.2 (w.alloc (.cells #[.int .i64 n, .int .i64 d] 25))
  rw [hV.out] at hcall
  unfold fracV at hcall ⊢
  go_enter Try.func78, Try.ntmps78
  cases V with
  | false =>
    have hDf : Keep (D = false) := ⟨by rw [← hD.out]; exact termB_false hV.out⟩
    go_wp2_with (go_at_call 75; refine Calls.mono hcall ?_; rintro e w5 ⟨rfl, hb⟩)
    go_ret
    exact ⟨by rw [hDf.out]; rfl, ((Below.refl _ _).alloc (Nat.le_refl _) _).trans (hb.mono (by simp))⟩
  | true =>
    have hDt : Keep (D = decide (-1000000000 ≤ n ∧ n ≤ 1000000000 ∧ d ≤ 1000000000)) := ⟨by rw [← hD.out]; unfold termB; rw [hV.out, Bool.true_and]⟩
    go_wp2_with (go_at_call 75; refine Calls.mono hcall ?_; rintro e w5 ⟨rfl, hb⟩
                 have c0 : w5.cell? ⟨w.heap.size, 0, none⟩ = some (.int .i64 n) := (hb.cell (p := ⟨w.heap.size, 0, none⟩) (by simp)).trans (by go_simp)
                 have c1 : w5.cell? ⟨w.heap.size, 1, none⟩ = some (.int .i64 d) := (hb.cell (p := ⟨w.heap.size, 1, none⟩) (by simp)).trans (by go_simp)
                 have hbk := Keep.mk hb
                 clear hb)
    all_goals go_ret
    all_goals refine ⟨?_, ((Below.refl _ _).alloc (Nat.le_refl _) _).trans (hbk.out.mono (by simp))⟩
    all_goals first
      | (rw [hDt.out, show decide (-1000000000 ≤ n ∧ n ≤ 1000000000 ∧ d ≤ 1000000000) = decide (d ≤ 1000000000) from by rw [decide_eq_decide]; omega]; rfl)
      | (rw [hDt.out, decide_eq_false (by omega)]; rfl)
theorem small_any {n d : Int} (hn : In64 n) (hd : In64 d) (w : World) :
    Calls Try.prog 46 #[fracV n d] w fun e w' => e = .returned (.bool (termB n d)) ∧ Below w.heap.size w w' := by
  obtain ⟨D, hD⟩ : ∃ D, Keep (termB n d = D) := ⟨_, ⟨rfl⟩⟩
  obtain ⟨V, hV⟩ : ∃ V, Keep (validB n d = V) := ⟨_, ⟨rfl⟩⟩
  rw [hD.out]
  have hcall := valid_any n d hn.1 hn.2 hd.1 hd.2 (w.alloc (.cells #[.int .i64 n, .int .i64 d] 25))
  rw [hV.out] at hcall
  unfold fracV at hcall ⊢
  go_enter Try.func46, Try.ntmps46
  cases V with
  | false =>
    have hDf : Keep (D = false) := ⟨by rw [← hD.out]; exact termB_false hV.out⟩
    go_wp2_with (go_at_call 38; refine Calls.mono hcall ?_; rintro e w5 ⟨rfl, hb⟩)
    go_ret
    exact ⟨by rw [hDf.out]; rfl, ((Below.refl _ _).alloc (Nat.le_refl _) _).trans (hb.mono (by simp))⟩
  | true =>
    have hDt : Keep (D = decide (-1000000000 ≤ n ∧ n ≤ 1000000000 ∧ d ≤ 1000000000)) := ⟨by rw [← hD.out]; unfold termB; rw [hV.out, Bool.true_and]⟩
    go_wp2_with (go_at_call 38; refine Calls.mono hcall ?_; rintro e w5 ⟨rfl, hb⟩
                 have c0 : w5.cell? ⟨w.heap.size, 0, none⟩ = some (.int .i64 n) := (hb.cell (p := ⟨w.heap.size, 0, none⟩) (by simp)).trans (by go_simp)
                 have c1 : w5.cell? ⟨w.heap.size, 1, none⟩ = some (.int .i64 d) := (hb.cell (p := ⟨w.heap.size, 1, none⟩) (by simp)).trans (by go_simp)
                 have hbk := Keep.mk hb
                 clear hb)
    all_goals go_ret
    all_goals refine ⟨?_, ((Below.refl _ _).alloc (Nat.le_refl _) _).trans (hbk.out.mono (by simp))⟩
    all_goals first
      | (rw [hDt.out, show decide (-1000000000 ≤ n ∧ n ≤ 1000000000 ∧ d ≤ 1000000000) = decide (d ≤ 1000000000) from by rw [decide_eq_decide]; omega]; rfl)
      | (rw [hDt.out, decide_eq_false (by omega)]; rfl)
/-- The sum of two fractions, before it is reduced. -/
def sumN (a b c d : Int) : Int := a * d + c * b
def sumD (b d : Int) : Int := b * d
theorem sum_bounds {a b c d : Int} (h1 : termB a b = true) (h2 : termB c d = true) : -2000000000000000000 ≤ sumN a b c d ∧ sumN a b c d ≤ 2000000000000000000 ∧ 1 ≤ sumD b d ∧ sumD b d ≤ 1000000000000000000 ∧
    -1000000000000000000 ≤ a * d ∧ a * d ≤ 1000000000000000000 ∧ -1000000000000000000 ≤ c * b ∧ c * b ≤ 1000000000000000000 := by
  obtain ⟨b1, b2, a1, a2⟩ := term_bounds h1
  obtain ⟨d1, d2, c1, c2⟩ := term_bounds h2
  have m1 : a * d ≤ 1000000000 * d := Int.mul_le_mul_of_nonneg_right a2 (by omega)
  have m2 : -1000000000 * d ≤ a * d := Int.mul_le_mul_of_nonneg_right a1 (by omega)
  have m3 : c * b ≤ 1000000000 * b := Int.mul_le_mul_of_nonneg_right c2 (by omega)
  have m4 : -1000000000 * b ≤ c * b := Int.mul_le_mul_of_nonneg_right c1 (by omega)
  have m5 : b * d ≤ 1000000000 * d := Int.mul_le_mul_of_nonneg_right b2 (by omega)
  have m6 : 1 * d ≤ b * d := Int.mul_le_mul_of_nonneg_right b1 (by omega)
  unfold sumN sumD
  omega
set_option maxHeartbeats 1000000 in
theorem sum_any {a b c d : Int} (h1 : termB a b = true) (h2 : termB c d = true) (w : World) :
    Calls Try.prog 64 #[fracV a b, fracV c d] w fun e w' => e = .returned (fracV (redN (sumN a b c d) (sumD b d)) (redD (sumN a b c d) (sumD b d))) ∧ Below w.heap.size w w' := by
  obtain ⟨k1, k2, k3, k4, k5, k6, k7, k8⟩ := sum_bounds h1 h2
  have e1 : IntKind.i64.wrap (a * d) = a * d := IntWalk.i64_in _ (by omega)
  have e2 : IntKind.i64.wrap (c * b) = c * b := IntWalk.i64_in _ (by omega)
  obtain ⟨S, hS⟩ : ∃ S, Keep (sumN a b c d = S) := ⟨_, ⟨rfl⟩⟩
  obtain ⟨D, hD⟩ : ∃ D, Keep (sumD b d = D) := ⟨_, ⟨rfl⟩⟩
  have e3 : IntKind.i64.wrap (a * d + c * b) = S := by rw [← hS.out]; exact IntWalk.i64_in _ (by unfold sumN at k1 k2; omega)
  have e4 : IntKind.i64.wrap (b * d) = D := by rw [← hD.out]; exact IntWalk.i64_in _ (by unfold sumD at k3 k4; omega)
  rw [hS.out] at k1 k2 ⊢
  rw [hD.out] at k3 k4 ⊢
  obtain ⟨x, hx⟩ : ∃ x, redN S D = x := ⟨_, rfl⟩
  obtain ⟨y, hy⟩ : ∃ y, redD S D = y := ⟨_, rfl⟩
  have hlow := fun w => lowest_any S D (by omega) (by omega) k3 (by omega) w
  rw [hx, hy] at hlow ⊢
  clear k5 k6 k7 k8
  unfold fracV at hlow ⊢
  go_enter Try.func64, Try.ntmps64
  go_wp2_with (go_at_call 61; refine (hlow _).mono ?_; rintro e w5 ⟨rfl, hb⟩
               have c0 : w5.cell? ⟨w.heap.size + 1 + 1, 0, none⟩ = some (.int .i64 0) := (hb.cell (p := ⟨w.heap.size + 1 + 1, 0, none⟩) (by simp)).trans (by go_simp)
               have c1 : w5.cell? ⟨w.heap.size + 1 + 1, 1, none⟩ = some (.int .i64 0) := (hb.cell (p := ⟨w.heap.size + 1 + 1, 1, none⟩) (by simp)).trans (by go_simp)
               have f0 : w5.frozen? ⟨w.heap.size + 1 + 1, 0, none⟩ = false := (hb.frozen (p := ⟨w.heap.size + 1 + 1, 0, none⟩) (by simp)).trans (by go_simp)
               have f1 : w5.frozen? ⟨w.heap.size + 1 + 1, 1, none⟩ = false := (hb.frozen (p := ⟨w.heap.size + 1 + 1, 1, none⟩) (by simp)).trans (by go_simp)
               have hbk : Below w.heap.size w w5 := ((((Below.refl _ w).alloc (Nat.le_refl _) _).alloc (by simp) _).alloc (by simp; omega) _).trans (hb.mono (by simp; omega))
               clear hb)
  refine bodyPost_ret (v := .agg #[.int .i64 x, .int .i64 y]) (by simp [results, Try.results64, go_sem]; go_simp) rfl ?_
  exact ⟨rfl, (hbk.setCell (p := ⟨w.heap.size + 1 + 1, 0, none⟩) (by simp; omega) _).setCell (p := ⟨w.heap.size + 1 + 1, 1, none⟩) (by simp; omega) _⟩
set_option maxHeartbeats 1000000 in
theorem refAdd_any {a b c d : Int} (h1 : termB a b = true) (h2 : termB c d = true) (w : World) :
    Calls Try.prog 47 #[fracV a b, fracV c d] w fun e w' => e = .returned (fracV (redN (sumN a b c d) (sumD b d)) (redD (sumN a b c d) (sumD b d))) ∧ Below w.heap.size w w' := by
  obtain ⟨k1, k2, k3, k4, k5, k6, k7, k8⟩ := sum_bounds h1 h2
  have e1 : IntKind.i64.wrap (a * d) = a * d := IntWalk.i64_in _ (by omega)
  have e2 : IntKind.i64.wrap (c * b) = c * b := IntWalk.i64_in _ (by omega)
  obtain ⟨S, hS⟩ : ∃ S, Keep (sumN a b c d = S) := ⟨_, ⟨rfl⟩⟩
  obtain ⟨D, hD⟩ : ∃ D, Keep (sumD b d = D) := ⟨_, ⟨rfl⟩⟩
  have e3 : IntKind.i64.wrap (a * d + c * b) = S := by rw [← hS.out]; exact IntWalk.i64_in _ (by unfold sumN at k1 k2; omega)
  have e4 : IntKind.i64.wrap (b * d) = D := by rw [← hD.out]; exact IntWalk.i64_in _ (by unfold sumD at k3 k4; omega)
  rw [hS.out] at k1 k2 ⊢
  rw [hD.out] at k3 k4 ⊢
  obtain ⟨x, hx⟩ : ∃ x, redN S D = x := ⟨_, rfl⟩
  obtain ⟨y, hy⟩ : ∃ y, redD S D = y := ⟨_, rfl⟩
  have hlow := fun w => reduced_any S D (by omega) (by omega) k3 (by omega) w
  rw [hx, hy] at hlow ⊢
  clear k5 k6 k7 k8
  unfold fracV at hlow ⊢
  go_enter Try.func47, Try.ntmps47
  go_wp2_with (go_at_call 22; refine (hlow _).mono ?_; rintro e w5 ⟨rfl, hb⟩
               have c0 : w5.cell? ⟨w.heap.size + 1 + 1, 0, none⟩ = some (.int .i64 0) := (hb.cell (p := ⟨w.heap.size + 1 + 1, 0, none⟩) (by simp)).trans (by go_simp)
               have c1 : w5.cell? ⟨w.heap.size + 1 + 1, 1, none⟩ = some (.int .i64 0) := (hb.cell (p := ⟨w.heap.size + 1 + 1, 1, none⟩) (by simp)).trans (by go_simp)
               have f0 : w5.frozen? ⟨w.heap.size + 1 + 1, 0, none⟩ = false := (hb.frozen (p := ⟨w.heap.size + 1 + 1, 0, none⟩) (by simp)).trans (by go_simp)
               have f1 : w5.frozen? ⟨w.heap.size + 1 + 1, 1, none⟩ = false := (hb.frozen (p := ⟨w.heap.size + 1 + 1, 1, none⟩) (by simp)).trans (by go_simp)
               have hbk : Below w.heap.size w w5 := ((((Below.refl _ w).alloc (Nat.le_refl _) _).alloc (by simp) _).alloc (by simp; omega) _).trans (hb.mono (by simp; omega))
               clear hb)
  refine bodyPost_ret (v := .agg #[.int .i64 x, .int .i64 y]) (by simp [results, Try.results47, go_sem]; go_simp) rfl ?_
  exact ⟨rfl, (hbk.setCell (p := ⟨w.heap.size + 1 + 1, 0, none⟩) (by simp; omega) _).setCell (p := ⟨w.heap.size + 1 + 1, 1, none⟩) (by simp; omega) _⟩
set_option maxHeartbeats 1000000 in
theorem add_no {a b c d : Int} (hab : In64 a ∧ In64 b) (hcd : In64 c ∧ In64 d) (hno : termB a b = false ∨ termB c d = false) (w : World) :
    Calls Try.prog 45 #[fracV a b, fracV c d] w fun e w' => e = .returned (.tuple #[fracV 0 0, .int .i64 2]) ∧ Below w.heap.size w w' := by
  have q1 := fun w => isTerm_any hab.1 hab.2 w
  have q2 := fun w => isTerm_any hcd.1 hcd.2 w
  unfold fracV at q1 q2 ⊢
  by_cases h1 : termB a b = true
  · have h2 : termB c d = false := by rcases hno with h | h; rw [h1] at h; cases h; exact h
    rw [h1] at q1
    rw [h2] at q2
    clear hno h1 h2
    go_enter Try.func45, Try.ntmps45
    go_wp2_with (first
      | (go_at_call 78; (with_reducible refine (q1 _).mono ?_); rintro e w5 ⟨rfl, hb⟩
         have z0 : w5.cell? ⟨w.heap.size, 0, none⟩ = some (.int .i64 a) := (hb.cell (p := ⟨w.heap.size, 0, none⟩) (by simp; try omega)).trans (by go_simp)
         have z1 : w5.cell? ⟨w.heap.size, 1, none⟩ = some (.int .i64 b) := (hb.cell (p := ⟨w.heap.size, 1, none⟩) (by simp; try omega)).trans (by go_simp)
         have c0 : w5.cell? ⟨w.heap.size + 1, 0, none⟩ = some (.int .i64 c) := (hb.cell (p := ⟨w.heap.size + 1, 0, none⟩) (by simp; try omega)).trans (by go_simp)
         have c1 : w5.cell? ⟨w.heap.size + 1, 1, none⟩ = some (.int .i64 d) := (hb.cell (p := ⟨w.heap.size + 1, 1, none⟩) (by simp; try omega)).trans (by go_simp)
         have g0 : w5.cell? ⟨w.heap.size + 1 + 1, 0, none⟩ = some (.int .i64 0) := (hb.cell (p := ⟨w.heap.size + 1 + 1, 0, none⟩) (by simp; try omega)).trans (by go_simp)
         have g1 : w5.cell? ⟨w.heap.size + 1 + 1, 1, none⟩ = some (.int .i64 0) := (hb.cell (p := ⟨w.heap.size + 1 + 1, 1, none⟩) (by simp; try omega)).trans (by go_simp)
         have f0 : w5.frozen? ⟨w.heap.size + 1 + 1, 0, none⟩ = false := (hb.frozen (p := ⟨w.heap.size + 1 + 1, 0, none⟩) (by simp; try omega)).trans (by go_simp)
         have f1 : w5.frozen? ⟨w.heap.size + 1 + 1, 1, none⟩ = false := (hb.frozen (p := ⟨w.heap.size + 1 + 1, 1, none⟩) (by simp; try omega)).trans (by go_simp)
         have hbk : Below w.heap.size w w5 := ((((Below.refl _ w).alloc (Nat.le_refl _) _).alloc (by simp) _).alloc (by simp; omega) _).trans (hb.mono (by simp; omega))
         have hsz : w.heap.size + 3 ≤ w5.heap.size := by have := hb.size; simp at this; omega
         clear hb q1)
      | (go_at_call 78; (with_reducible refine (q2 _).mono ?_); rintro e w6 ⟨rfl, hb⟩
         have z0 : w6.cell? ⟨w.heap.size, 0, none⟩ = some (.int .i64 a) := (hb.cell (p := ⟨w.heap.size, 0, none⟩) (by show w.heap.size < _; omega)).trans z0
         have z1 : w6.cell? ⟨w.heap.size, 1, none⟩ = some (.int .i64 b) := (hb.cell (p := ⟨w.heap.size, 1, none⟩) (by show w.heap.size < _; omega)).trans z1
         have c0 : w6.cell? ⟨w.heap.size + 1, 0, none⟩ = some (.int .i64 c) := (hb.cell (p := ⟨w.heap.size + 1, 0, none⟩) (by show w.heap.size + 1 < _; omega)).trans c0
         have c1 : w6.cell? ⟨w.heap.size + 1, 1, none⟩ = some (.int .i64 d) := (hb.cell (p := ⟨w.heap.size + 1, 1, none⟩) (by show w.heap.size + 1 < _; omega)).trans c1
         have g0 : w6.cell? ⟨w.heap.size + 1 + 1, 0, none⟩ = some (.int .i64 0) := (hb.cell (p := ⟨w.heap.size + 1 + 1, 0, none⟩) (by show w.heap.size + 1 + 1 < _; omega)).trans g0
         have g1 : w6.cell? ⟨w.heap.size + 1 + 1, 1, none⟩ = some (.int .i64 0) := (hb.cell (p := ⟨w.heap.size + 1 + 1, 1, none⟩) (by show w.heap.size + 1 + 1 < _; omega)).trans g1
         have f0 : w6.frozen? ⟨w.heap.size + 1 + 1, 0, none⟩ = false := (hb.frozen (p := ⟨w.heap.size + 1 + 1, 0, none⟩) (by show w.heap.size + 1 + 1 < _; omega)).trans f0
         have f1 : w6.frozen? ⟨w.heap.size + 1 + 1, 1, none⟩ = false := (hb.frozen (p := ⟨w.heap.size + 1 + 1, 1, none⟩) (by show w.heap.size + 1 + 1 < _; omega)).trans f1
         have hbk : Below w.heap.size w w6 := hbk.trans (hb.mono (by omega))
         have hsz : w.heap.size + 3 ≤ w6.heap.size := by have := hb.size; omega
         clear hb q2))
    refine bodyPost_ret (v := .tuple #[.agg #[.int .i64 0, .int .i64 0], .int .i64 2]) (by simp [results, Try.results45, go_sem]; go_simp) rfl ?_
    exact ⟨rfl, (hbk.setCell (p := ⟨w.heap.size + 1 + 1, 0, none⟩) (by simp; omega) _).setCell (p := ⟨w.heap.size + 1 + 1, 1, none⟩) (by simp; omega) _⟩
  · have h1 : termB a b = false := by simpa using h1
    rw [h1] at q1
    clear hno h1
    go_enter Try.func45, Try.ntmps45
    go_wp2_with (first
      | (go_at_call 78; (with_reducible refine (q1 _).mono ?_); rintro e w5 ⟨rfl, hb⟩
         have z0 : w5.cell? ⟨w.heap.size, 0, none⟩ = some (.int .i64 a) := (hb.cell (p := ⟨w.heap.size, 0, none⟩) (by simp; try omega)).trans (by go_simp)
         have z1 : w5.cell? ⟨w.heap.size, 1, none⟩ = some (.int .i64 b) := (hb.cell (p := ⟨w.heap.size, 1, none⟩) (by simp; try omega)).trans (by go_simp)
         have c0 : w5.cell? ⟨w.heap.size + 1, 0, none⟩ = some (.int .i64 c) := (hb.cell (p := ⟨w.heap.size + 1, 0, none⟩) (by simp; try omega)).trans (by go_simp)
         have c1 : w5.cell? ⟨w.heap.size + 1, 1, none⟩ = some (.int .i64 d) := (hb.cell (p := ⟨w.heap.size + 1, 1, none⟩) (by simp; try omega)).trans (by go_simp)
         have g0 : w5.cell? ⟨w.heap.size + 1 + 1, 0, none⟩ = some (.int .i64 0) := (hb.cell (p := ⟨w.heap.size + 1 + 1, 0, none⟩) (by simp; try omega)).trans (by go_simp)
         have g1 : w5.cell? ⟨w.heap.size + 1 + 1, 1, none⟩ = some (.int .i64 0) := (hb.cell (p := ⟨w.heap.size + 1 + 1, 1, none⟩) (by simp; try omega)).trans (by go_simp)
         have f0 : w5.frozen? ⟨w.heap.size + 1 + 1, 0, none⟩ = false := (hb.frozen (p := ⟨w.heap.size + 1 + 1, 0, none⟩) (by simp; try omega)).trans (by go_simp)
         have f1 : w5.frozen? ⟨w.heap.size + 1 + 1, 1, none⟩ = false := (hb.frozen (p := ⟨w.heap.size + 1 + 1, 1, none⟩) (by simp; try omega)).trans (by go_simp)
         have hbk : Below w.heap.size w w5 := ((((Below.refl _ w).alloc (Nat.le_refl _) _).alloc (by simp) _).alloc (by simp; omega) _).trans (hb.mono (by simp; omega))
         have hsz : w.heap.size + 3 ≤ w5.heap.size := by have := hb.size; simp at this; omega
         clear hb q1)
      | (go_at_call 78; (with_reducible refine (q2 _).mono ?_); rintro e w6 ⟨rfl, hb⟩
         have z0 : w6.cell? ⟨w.heap.size, 0, none⟩ = some (.int .i64 a) := (hb.cell (p := ⟨w.heap.size, 0, none⟩) (by show w.heap.size < _; omega)).trans z0
         have z1 : w6.cell? ⟨w.heap.size, 1, none⟩ = some (.int .i64 b) := (hb.cell (p := ⟨w.heap.size, 1, none⟩) (by show w.heap.size < _; omega)).trans z1
         have c0 : w6.cell? ⟨w.heap.size + 1, 0, none⟩ = some (.int .i64 c) := (hb.cell (p := ⟨w.heap.size + 1, 0, none⟩) (by show w.heap.size + 1 < _; omega)).trans c0
         have c1 : w6.cell? ⟨w.heap.size + 1, 1, none⟩ = some (.int .i64 d) := (hb.cell (p := ⟨w.heap.size + 1, 1, none⟩) (by show w.heap.size + 1 < _; omega)).trans c1
         have g0 : w6.cell? ⟨w.heap.size + 1 + 1, 0, none⟩ = some (.int .i64 0) := (hb.cell (p := ⟨w.heap.size + 1 + 1, 0, none⟩) (by show w.heap.size + 1 + 1 < _; omega)).trans g0
         have g1 : w6.cell? ⟨w.heap.size + 1 + 1, 1, none⟩ = some (.int .i64 0) := (hb.cell (p := ⟨w.heap.size + 1 + 1, 1, none⟩) (by show w.heap.size + 1 + 1 < _; omega)).trans g1
         have f0 : w6.frozen? ⟨w.heap.size + 1 + 1, 0, none⟩ = false := (hb.frozen (p := ⟨w.heap.size + 1 + 1, 0, none⟩) (by show w.heap.size + 1 + 1 < _; omega)).trans f0
         have f1 : w6.frozen? ⟨w.heap.size + 1 + 1, 1, none⟩ = false := (hb.frozen (p := ⟨w.heap.size + 1 + 1, 1, none⟩) (by show w.heap.size + 1 + 1 < _; omega)).trans f1
         have hbk : Below w.heap.size w w6 := hbk.trans (hb.mono (by omega))
         have hsz : w.heap.size + 3 ≤ w6.heap.size := by have := hb.size; omega
         clear hb q2))
    refine bodyPost_ret (v := .tuple #[.agg #[.int .i64 0, .int .i64 0], .int .i64 2]) (by simp [results, Try.results45, go_sem]; go_simp) rfl ?_
    exact ⟨rfl, (hbk.setCell (p := ⟨w.heap.size + 1 + 1, 0, none⟩) (by simp; omega) _).setCell (p := ⟨w.heap.size + 1 + 1, 1, none⟩) (by simp; omega) _⟩
set_option maxHeartbeats 1000000 in
theorem add_any {a b c d : Int} (hab : In64 a ∧ In64 b) (hcd : In64 c ∧ In64 d) (h1 : termB a b = true) (h2 : termB c d = true) (w : World) :
    Calls Try.prog 45 #[fracV a b, fracV c d] w fun e w' => e = .returned (.tuple #[fracV (redN (sumN a b c d) (sumD b d)) (redD (sumN a b c d) (sumD b d)), .int .i64 0]) ∧ Below w.heap.size w w' := by
  have q1 := fun w => isTerm_any hab.1 hab.2 w
  have q2 := fun w => isTerm_any hcd.1 hcd.2 w
  have q3 := fun w => sum_any h1 h2 w
  rw [h1] at q1
  rw [h2] at q2
  obtain ⟨x, hx⟩ : ∃ x, redN (sumN a b c d) (sumD b d) = x := ⟨_, rfl⟩
  obtain ⟨y, hy⟩ : ∃ y, redD (sumN a b c d) (sumD b d) = y := ⟨_, rfl⟩
  rw [hx, hy] at q3 ⊢
  clear hx hy h1 h2
  unfold fracV at q1 q2 q3 ⊢
  go_enter Try.func45, Try.ntmps45
  go_wp2_with (first
    | (go_at_call 78; (with_reducible refine (q1 _).mono ?_); rintro e w5 ⟨rfl, hb⟩
       have z0 : w5.cell? ⟨w.heap.size, 0, none⟩ = some (.int .i64 a) := (hb.cell (p := ⟨w.heap.size, 0, none⟩) (by simp; try omega)).trans (by go_simp)
       have z1 : w5.cell? ⟨w.heap.size, 1, none⟩ = some (.int .i64 b) := (hb.cell (p := ⟨w.heap.size, 1, none⟩) (by simp; try omega)).trans (by go_simp)
       have c0 : w5.cell? ⟨w.heap.size + 1, 0, none⟩ = some (.int .i64 c) := (hb.cell (p := ⟨w.heap.size + 1, 0, none⟩) (by simp; try omega)).trans (by go_simp)
       have c1 : w5.cell? ⟨w.heap.size + 1, 1, none⟩ = some (.int .i64 d) := (hb.cell (p := ⟨w.heap.size + 1, 1, none⟩) (by simp; try omega)).trans (by go_simp)
       have g0 : w5.cell? ⟨w.heap.size + 1 + 1, 0, none⟩ = some (.int .i64 0) := (hb.cell (p := ⟨w.heap.size + 1 + 1, 0, none⟩) (by simp; try omega)).trans (by go_simp)
       have g1 : w5.cell? ⟨w.heap.size + 1 + 1, 1, none⟩ = some (.int .i64 0) := (hb.cell (p := ⟨w.heap.size + 1 + 1, 1, none⟩) (by simp; try omega)).trans (by go_simp)
       have f0 : w5.frozen? ⟨w.heap.size + 1 + 1, 0, none⟩ = false := (hb.frozen (p := ⟨w.heap.size + 1 + 1, 0, none⟩) (by simp; try omega)).trans (by go_simp)
       have f1 : w5.frozen? ⟨w.heap.size + 1 + 1, 1, none⟩ = false := (hb.frozen (p := ⟨w.heap.size + 1 + 1, 1, none⟩) (by simp; try omega)).trans (by go_simp)
       have hbk : Below w.heap.size w w5 := ((((Below.refl _ w).alloc (Nat.le_refl _) _).alloc (by simp) _).alloc (by simp; omega) _).trans (hb.mono (by simp; omega))
       have hsz : w.heap.size + 3 ≤ w5.heap.size := by have := hb.size; simp at this; omega
       clear hb q1)
    | (go_at_call 78; (with_reducible refine (q2 _).mono ?_); rintro e w6 ⟨rfl, hb⟩
       have z0 : w6.cell? ⟨w.heap.size, 0, none⟩ = some (.int .i64 a) := (hb.cell (p := ⟨w.heap.size, 0, none⟩) (by show w.heap.size < _; omega)).trans z0
       have z1 : w6.cell? ⟨w.heap.size, 1, none⟩ = some (.int .i64 b) := (hb.cell (p := ⟨w.heap.size, 1, none⟩) (by show w.heap.size < _; omega)).trans z1
       have c0 : w6.cell? ⟨w.heap.size + 1, 0, none⟩ = some (.int .i64 c) := (hb.cell (p := ⟨w.heap.size + 1, 0, none⟩) (by show w.heap.size + 1 < _; omega)).trans c0
       have c1 : w6.cell? ⟨w.heap.size + 1, 1, none⟩ = some (.int .i64 d) := (hb.cell (p := ⟨w.heap.size + 1, 1, none⟩) (by show w.heap.size + 1 < _; omega)).trans c1
       have g0 : w6.cell? ⟨w.heap.size + 1 + 1, 0, none⟩ = some (.int .i64 0) := (hb.cell (p := ⟨w.heap.size + 1 + 1, 0, none⟩) (by show w.heap.size + 1 + 1 < _; omega)).trans g0
       have g1 : w6.cell? ⟨w.heap.size + 1 + 1, 1, none⟩ = some (.int .i64 0) := (hb.cell (p := ⟨w.heap.size + 1 + 1, 1, none⟩) (by show w.heap.size + 1 + 1 < _; omega)).trans g1
       have f0 : w6.frozen? ⟨w.heap.size + 1 + 1, 0, none⟩ = false := (hb.frozen (p := ⟨w.heap.size + 1 + 1, 0, none⟩) (by show w.heap.size + 1 + 1 < _; omega)).trans f0
       have f1 : w6.frozen? ⟨w.heap.size + 1 + 1, 1, none⟩ = false := (hb.frozen (p := ⟨w.heap.size + 1 + 1, 1, none⟩) (by show w.heap.size + 1 + 1 < _; omega)).trans f1
       have hbk : Below w.heap.size w w6 := hbk.trans (hb.mono (by omega))
       have hsz : w.heap.size + 3 ≤ w6.heap.size := by have := hb.size; omega
       clear hb q2)
    | (go_at_call 64; (with_reducible refine (q3 _).mono ?_); rintro e w7 ⟨rfl, hb⟩
       have z0 : w7.cell? ⟨w.heap.size, 0, none⟩ = some (.int .i64 a) := (hb.cell (p := ⟨w.heap.size, 0, none⟩) (by show w.heap.size < _; omega)).trans z0
       have z1 : w7.cell? ⟨w.heap.size, 1, none⟩ = some (.int .i64 b) := (hb.cell (p := ⟨w.heap.size, 1, none⟩) (by show w.heap.size < _; omega)).trans z1
       have c0 : w7.cell? ⟨w.heap.size + 1, 0, none⟩ = some (.int .i64 c) := (hb.cell (p := ⟨w.heap.size + 1, 0, none⟩) (by show w.heap.size + 1 < _; omega)).trans c0
       have c1 : w7.cell? ⟨w.heap.size + 1, 1, none⟩ = some (.int .i64 d) := (hb.cell (p := ⟨w.heap.size + 1, 1, none⟩) (by show w.heap.size + 1 < _; omega)).trans c1
       have g0 : w7.cell? ⟨w.heap.size + 1 + 1, 0, none⟩ = some (.int .i64 0) := (hb.cell (p := ⟨w.heap.size + 1 + 1, 0, none⟩) (by show w.heap.size + 1 + 1 < _; omega)).trans g0
       have g1 : w7.cell? ⟨w.heap.size + 1 + 1, 1, none⟩ = some (.int .i64 0) := (hb.cell (p := ⟨w.heap.size + 1 + 1, 1, none⟩) (by show w.heap.size + 1 + 1 < _; omega)).trans g1
       have f0 : w7.frozen? ⟨w.heap.size + 1 + 1, 0, none⟩ = false := (hb.frozen (p := ⟨w.heap.size + 1 + 1, 0, none⟩) (by show w.heap.size + 1 + 1 < _; omega)).trans f0
       have f1 : w7.frozen? ⟨w.heap.size + 1 + 1, 1, none⟩ = false := (hb.frozen (p := ⟨w.heap.size + 1 + 1, 1, none⟩) (by show w.heap.size + 1 + 1 < _; omega)).trans f1
       have hbk : Below w.heap.size w w7 := hbk.trans (hb.mono (by omega))
       have hsz : w.heap.size + 3 ≤ w7.heap.size := by have := hb.size; omega
       clear hb q3))
  refine bodyPost_ret (v := .tuple #[.agg #[.int .i64 x, .int .i64 y], .int .i64 0]) (by simp [results, Try.results45, go_sem]; go_simp) rfl ?_
  exact ⟨rfl, (hbk.setCell (p := ⟨w.heap.size + 1 + 1, 0, none⟩) (by simp; omega) _).setCell (p := ⟨w.heap.size + 1 + 1, 1, none⟩) (by simp; omega) _⟩
end Go.Proofs.Ytifbiamfandjnaa
