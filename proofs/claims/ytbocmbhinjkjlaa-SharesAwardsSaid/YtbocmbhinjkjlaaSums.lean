/- Sums, differences, comparisons and validity of fractions: the program's and the reference's. -/
import Derived.Test.YtbocmbhinjkjlaaFrac
set_option linter.unusedSimpArgs false
set_option linter.unusedVariables false
namespace Go.Proofs.Ytbocmbhinjkjlaa
open Go Go.Proofs Go.RowKit
structure SumOk (a b c d : Int) : Prop where
  p1 : -9223372036854775808 ≤ a * d ∧ a * d < 9223372036854775808
  p2 : -9223372036854775808 ≤ c * b ∧ c * b < 9223372036854775808
  p3 : -9223372036854775808 < a * d + c * b
  p4 : a * d + c * b < 9223372036854775808
  p5 : 1 ≤ b * d
  p6 : b * d < 9223372036854775808
structure SubOk (a b c d : Int) : Prop where
  p1 : -9223372036854775808 ≤ a * d ∧ a * d < 9223372036854775808
  p2 : -9223372036854775808 ≤ c * b ∧ c * b < 9223372036854775808
  p3 : -9223372036854775808 < a * d - c * b
  p4 : a * d - c * b < 9223372036854775808
  p5 : 1 ≤ b * d
  p6 : b * d < 9223372036854775808
set_option maxHeartbeats 1000000 in
theorem sum_any {a b c d : Int} (h : SumOk a b c d) (w : World) :
    Calls Try.prog 85 #[fracV a b, fracV c d] w fun e w' => e = .returned (fracV (redN (a * d + c * b) (b * d)) (redD (a * d + c * b) (b * d))) ∧ Below w.heap.size w w' := by
  obtain ⟨⟨k1, k2⟩, ⟨k3, k4⟩, k5, k6, k7, k8⟩ := h
  have e1 : IntKind.i64.wrap (a * d) = a * d := IntWalk.i64_in _ ⟨k1, by omega⟩
  have e2 : IntKind.i64.wrap (c * b) = c * b := IntWalk.i64_in _ ⟨k3, by omega⟩
  obtain ⟨S, hS⟩ : ∃ S, Keep (a * d + c * b = S) := ⟨_, ⟨rfl⟩⟩
  obtain ⟨D, hD⟩ : ∃ D, Keep (b * d = D) := ⟨_, ⟨rfl⟩⟩
  have e3 : IntKind.i64.wrap (a * d + c * b) = S := by rw [← hS.out]; exact IntWalk.i64_in _ (by omega)
  have e4 : IntKind.i64.wrap (b * d) = D := by rw [← hD.out]; exact IntWalk.i64_in _ (by omega)
  rw [hS.out] at k5 k6 ⊢
  rw [hD.out] at k7 k8 ⊢
  obtain ⟨x, hx⟩ : ∃ x, redN S D = x := ⟨_, rfl⟩
  obtain ⟨y, hy⟩ : ∃ y, redD S D = y := ⟨_, rfl⟩
  have hlow := fun w => lowest_any S D (by omega) (by omega) k7 (by omega) w
  rw [hx, hy] at hlow ⊢
  clear k1 k2 k3 k4 k5 k6 k7 k8
  unfold fracV at hlow ⊢
  go_enter Try.func85, Try.ntmps85
  go_wp2_with (go_at_call 96; refine (hlow _).mono ?_; rintro e w5 ⟨rfl, hb⟩
               have c0 : w5.cell? ⟨w.heap.size + 1 + 1, 0, none⟩ = some (.int .i64 0) := (hb.cell (p := ⟨w.heap.size + 1 + 1, 0, none⟩) (by simp)).trans (by go_simp)
               have c1 : w5.cell? ⟨w.heap.size + 1 + 1, 1, none⟩ = some (.int .i64 0) := (hb.cell (p := ⟨w.heap.size + 1 + 1, 1, none⟩) (by simp)).trans (by go_simp)
               have f0 : w5.frozen? ⟨w.heap.size + 1 + 1, 0, none⟩ = false := (hb.frozen (p := ⟨w.heap.size + 1 + 1, 0, none⟩) (by simp)).trans (by go_simp)
               have f1 : w5.frozen? ⟨w.heap.size + 1 + 1, 1, none⟩ = false := (hb.frozen (p := ⟨w.heap.size + 1 + 1, 1, none⟩) (by simp)).trans (by go_simp)
               have hbk : Below w.heap.size w w5 := ((((Below.refl _ w).alloc (Nat.le_refl _) _).alloc (by simp) _).alloc (by simp; omega) _).trans (hb.mono (by simp; omega))
               clear hb)
  refine bodyPost_ret (v := .agg #[.int .i64 x, .int .i64 y]) (by simp [results, Try.results85, go_sem]; go_simp) rfl ?_
  exact ⟨rfl, (hbk.setCell (p := ⟨w.heap.size + 1 + 1, 0, none⟩) (by simp; omega) _).setCell (p := ⟨w.heap.size + 1 + 1, 1, none⟩) (by simp; omega) _⟩
set_option maxHeartbeats 1000000 in
theorem refAdd_any {a b c d : Int} (h : SumOk a b c d) (w : World) :
    Calls Try.prog 52 #[fracV a b, fracV c d] w fun e w' => e = .returned (fracV (redN (a * d + c * b) (b * d)) (redD (a * d + c * b) (b * d))) ∧ Below w.heap.size w w' := by
  obtain ⟨⟨k1, k2⟩, ⟨k3, k4⟩, k5, k6, k7, k8⟩ := h
  have e1 : IntKind.i64.wrap (a * d) = a * d := IntWalk.i64_in _ ⟨k1, by omega⟩
  have e2 : IntKind.i64.wrap (c * b) = c * b := IntWalk.i64_in _ ⟨k3, by omega⟩
  obtain ⟨S, hS⟩ : ∃ S, Keep (a * d + c * b = S) := ⟨_, ⟨rfl⟩⟩
  obtain ⟨D, hD⟩ : ∃ D, Keep (b * d = D) := ⟨_, ⟨rfl⟩⟩
  have e3 : IntKind.i64.wrap (a * d + c * b) = S := by rw [← hS.out]; exact IntWalk.i64_in _ (by omega)
  have e4 : IntKind.i64.wrap (b * d) = D := by rw [← hD.out]; exact IntWalk.i64_in _ (by omega)
  rw [hS.out] at k5 k6 ⊢
  rw [hD.out] at k7 k8 ⊢
  obtain ⟨x, hx⟩ : ∃ x, redN S D = x := ⟨_, rfl⟩
  obtain ⟨y, hy⟩ : ∃ y, redD S D = y := ⟨_, rfl⟩
  have hlow := fun w => reduced_any S D (by omega) (by omega) k7 (by omega) w
  rw [hx, hy] at hlow ⊢
  clear k1 k2 k3 k4 k5 k6 k7 k8
  unfold fracV at hlow ⊢
  go_enter Try.func52, Try.ntmps52
  go_wp2_with (go_at_call 60; refine (hlow _).mono ?_; rintro e w5 ⟨rfl, hb⟩
               have c0 : w5.cell? ⟨w.heap.size + 1 + 1, 0, none⟩ = some (.int .i64 0) := (hb.cell (p := ⟨w.heap.size + 1 + 1, 0, none⟩) (by simp)).trans (by go_simp)
               have c1 : w5.cell? ⟨w.heap.size + 1 + 1, 1, none⟩ = some (.int .i64 0) := (hb.cell (p := ⟨w.heap.size + 1 + 1, 1, none⟩) (by simp)).trans (by go_simp)
               have f0 : w5.frozen? ⟨w.heap.size + 1 + 1, 0, none⟩ = false := (hb.frozen (p := ⟨w.heap.size + 1 + 1, 0, none⟩) (by simp)).trans (by go_simp)
               have f1 : w5.frozen? ⟨w.heap.size + 1 + 1, 1, none⟩ = false := (hb.frozen (p := ⟨w.heap.size + 1 + 1, 1, none⟩) (by simp)).trans (by go_simp)
               have hbk : Below w.heap.size w w5 := ((((Below.refl _ w).alloc (Nat.le_refl _) _).alloc (by simp) _).alloc (by simp; omega) _).trans (hb.mono (by simp; omega))
               clear hb)
  refine bodyPost_ret (v := .agg #[.int .i64 x, .int .i64 y]) (by simp [results, Try.results52, go_sem]; go_simp) rfl ?_
  exact ⟨rfl, (hbk.setCell (p := ⟨w.heap.size + 1 + 1, 0, none⟩) (by simp; omega) _).setCell (p := ⟨w.heap.size + 1 + 1, 1, none⟩) (by simp; omega) _⟩
set_option maxHeartbeats 1000000 in
theorem refSub_any {a b c d : Int} (h : SubOk a b c d) (w : World) :
    Calls Try.prog 58 #[fracV a b, fracV c d] w fun e w' => e = .returned (fracV (redN (a * d - c * b) (b * d)) (redD (a * d - c * b) (b * d))) ∧ Below w.heap.size w w' := by
  obtain ⟨⟨k1, k2⟩, ⟨k3, k4⟩, k5, k6, k7, k8⟩ := h
  have e1 : IntKind.i64.wrap (a * d) = a * d := IntWalk.i64_in _ ⟨k1, by omega⟩
  have e2 : IntKind.i64.wrap (c * b) = c * b := IntWalk.i64_in _ ⟨k3, by omega⟩
  obtain ⟨S, hS⟩ : ∃ S, Keep (a * d - c * b = S) := ⟨_, ⟨rfl⟩⟩
  obtain ⟨D, hD⟩ : ∃ D, Keep (b * d = D) := ⟨_, ⟨rfl⟩⟩
  have e3 : IntKind.i64.wrap (a * d - c * b) = S := by rw [← hS.out]; exact IntWalk.i64_in _ (by omega)
  have e4 : IntKind.i64.wrap (b * d) = D := by rw [← hD.out]; exact IntWalk.i64_in _ (by omega)
  rw [hS.out] at k5 k6 ⊢
  rw [hD.out] at k7 k8 ⊢
  obtain ⟨x, hx⟩ : ∃ x, redN S D = x := ⟨_, rfl⟩
  obtain ⟨y, hy⟩ : ∃ y, redD S D = y := ⟨_, rfl⟩
  have hlow := fun w => reduced_any S D (by omega) (by omega) k7 (by omega) w
  rw [hx, hy] at hlow ⊢
  clear k1 k2 k3 k4 k5 k6 k7 k8
  unfold fracV at hlow ⊢
  go_enter Try.func58, Try.ntmps58
  go_wp2_with (go_at_call 60; refine (hlow _).mono ?_; rintro e w5 ⟨rfl, hb⟩
               have c0 : w5.cell? ⟨w.heap.size + 1 + 1, 0, none⟩ = some (.int .i64 0) := (hb.cell (p := ⟨w.heap.size + 1 + 1, 0, none⟩) (by simp)).trans (by go_simp)
               have c1 : w5.cell? ⟨w.heap.size + 1 + 1, 1, none⟩ = some (.int .i64 0) := (hb.cell (p := ⟨w.heap.size + 1 + 1, 1, none⟩) (by simp)).trans (by go_simp)
               have f0 : w5.frozen? ⟨w.heap.size + 1 + 1, 0, none⟩ = false := (hb.frozen (p := ⟨w.heap.size + 1 + 1, 0, none⟩) (by simp)).trans (by go_simp)
               have f1 : w5.frozen? ⟨w.heap.size + 1 + 1, 1, none⟩ = false := (hb.frozen (p := ⟨w.heap.size + 1 + 1, 1, none⟩) (by simp)).trans (by go_simp)
               have hbk : Below w.heap.size w w5 := ((((Below.refl _ w).alloc (Nat.le_refl _) _).alloc (by simp) _).alloc (by simp; omega) _).trans (hb.mono (by simp; omega))
               clear hb)
  refine bodyPost_ret (v := .agg #[.int .i64 x, .int .i64 y]) (by simp [results, Try.results58, go_sem]; go_simp) rfl ?_
  exact ⟨rfl, (hbk.setCell (p := ⟨w.heap.size + 1 + 1, 0, none⟩) (by simp; omega) _).setCell (p := ⟨w.heap.size + 1 + 1, 1, none⟩) (by simp; omega) _⟩
theorem isNaN_any (a : Int) (w : World) : Calls Try.prog 121 #[.int .i64 a] w fun e w' => e = .returned (.bool false) ∧ w' = w := by
  go_enter Try.func121, Try.ntmps121
  go_wp2
  go_ret
  exact ⟨by simp, rfl⟩
def cmpI (a b : Int) : Int := if a < b then -1 else if b < a then 1 else 0
theorem cmp_any (a b : Int) (w : World) : Calls Try.prog 110 #[.int .i64 a, .int .i64 b] w fun e w' => e = .returned (.int .i64 (cmpI a b)) ∧ w' = w := by
  obtain ⟨R, hR⟩ : ∃ R, Keep (cmpI a b = R) := ⟨_, ⟨rfl⟩⟩
  rw [hR.out]
  have q := fun (x : Int) w => isNaN_any x w
  unfold cmpI at hR
  go_enter Try.func110, Try.ntmps110
  by_cases h1 : a < b
  · have hr := hR.out
    rw [if_pos h1] at hr
    subst hr
    go_wp2_with (go_at_call 121; refine (q _ _).mono ?_; rintro e w5 ⟨rfl, rfl⟩)
    go_ret
    exact ⟨rfl, rfl⟩
  · by_cases h2 : b < a
    · have hr := hR.out
      rw [if_neg h1, if_pos h2] at hr
      subst hr
      go_wp2_with (go_at_call 121; refine (q _ _).mono ?_; rintro e w5 ⟨rfl, rfl⟩)
      go_ret
      exact ⟨rfl, rfl⟩
    · have hr := hR.out
      rw [if_neg h1, if_neg h2] at hr
      subst hr
      go_wp2_with (go_at_call 121; refine (q _ _).mono ?_; rintro e w5 ⟨rfl, rfl⟩)
      go_ret
      exact ⟨rfl, rfl⟩
theorem compare_any {a b c d : Int} (k1 : In64 (a * d)) (k2 : In64 (c * b)) (w : World) :
    Calls Try.prog 87 #[fracV a b, fracV c d] w fun e w' => e = .returned (.int .i64 (cmpI (a * d) (c * b))) ∧ Below w.heap.size w w' := by
  have e1 : IntKind.i64.wrap (a * d) = a * d := IntWalk.i64_in _ ⟨k1.1, by have := k1.2; omega⟩
  have e2 : IntKind.i64.wrap (c * b) = c * b := IntWalk.i64_in _ ⟨k2.1, by have := k2.2; omega⟩
  have q := fun w => cmp_any (a * d) (c * b) w
  generalize cmpI (a * d) (c * b) = R at q ⊢
  clear k1 k2
  unfold fracV
  go_enter Try.func87, Try.ntmps87
  go_wp2_with (go_at_call 110; refine (q _).mono ?_; rintro e w5 ⟨rfl, rfl⟩)
  go_ret
  exact ⟨rfl, ((Below.refl _ w).alloc (Nat.le_refl _) _).alloc (by simp) _⟩
theorem refLess_any {a b c d : Int} (k1 : In64 (a * d)) (k2 : In64 (c * b)) (w : World) :
    Calls Try.prog 53 #[fracV a b, fracV c d] w fun e w' => e = .returned (.bool (decide (a * d < c * b))) ∧ Below w.heap.size w w' := by
  have e1 : IntKind.i64.wrap (a * d) = a * d := IntWalk.i64_in _ ⟨k1.1, by have := k1.2; omega⟩
  have e2 : IntKind.i64.wrap (c * b) = c * b := IntWalk.i64_in _ ⟨k2.1, by have := k2.2; omega⟩
  clear k1 k2
  obtain ⟨D, hD⟩ : ∃ D, Keep (decide (a * d < c * b) = D) := ⟨_, ⟨rfl⟩⟩
  rw [hD.out]
  unfold fracV
  go_enter Try.func53, Try.ntmps53
  go_wp2
  go_ret
  exact ⟨by rw [← hD.out]; rfl, ((Below.refl _ w).alloc (Nat.le_refl _) _).alloc (by simp) _⟩
theorem half_any {a b : Int} (h1 : -9223372036854775808 < a) (h2 : a < 9223372036854775808) (h3 : 1 ≤ 2 * b) (h4 : 2 * b < 9223372036854775808) (w : World) :
    Calls Try.prog 67 #[fracV a b] w fun e w' => e = .returned (fracV (redN a (2 * b)) (redD a (2 * b))) ∧ Below w.heap.size w w' := by
  have e1 : IntKind.i64.wrap (2 * b) = 2 * b := IntWalk.i64_in _ (by omega)
  have hlow := fun w => reduced_any a (2 * b) h1 h2 h3 h4 w
  obtain ⟨x, hx⟩ : ∃ x, redN a (2 * b) = x := ⟨_, rfl⟩
  obtain ⟨y, hy⟩ : ∃ y, redD a (2 * b) = y := ⟨_, rfl⟩
  rw [hx, hy] at hlow ⊢
  unfold fracV at hlow ⊢
  go_enter Try.func67, Try.ntmps67
  go_wp2_with (go_at_call 60; refine (hlow _).mono ?_; rintro e w5 ⟨rfl, hb⟩
               have o2 := (Own2.at (W := w.alloc (.cells #[.int .i64 a, .int .i64 b] 37)) (g := w.heap.size + 1) (by simp) (.int .i64 0) (.int .i64 0) 37).after hb
               obtain ⟨c0, c1, f0, f1⟩ := o2
               have hbk : Below w.heap.size w w5 := (((Below.refl _ w).alloc (Nat.le_refl _) _).alloc (by simp) _).trans (hb.mono (by simp; omega))
               clear hb)
  refine bodyPost_ret (v := .agg #[.int .i64 x, .int .i64 y]) (by simp [results, Try.results67, go_sem]; go_simp) rfl ?_
  exact ⟨rfl, (hbk.setCell (p := ⟨w.heap.size + 1, 0, none⟩) (by simp) _).setCell (p := ⟨w.heap.size + 1, 1, none⟩) (by simp) _⟩
def validB (n d : Int) : Bool := decide (1 ≤ d ∧ Int.gcd n d = 1)
theorem isValid_any {n d : Int} (hn : In64 n) (hd0 : In64 d) (w : World) :
    Calls Try.prog 97 #[fracV n d] w fun e w' => e = .returned (.bool (validB n d)) ∧ Below w.heap.size w w' := by
  obtain ⟨h1, h2⟩ := hn
  obtain ⟨h3, h4⟩ := hd0
  obtain ⟨D, hD⟩ : ∃ D, Keep (validB n d = D) := ⟨_, ⟨rfl⟩⟩
  rw [hD.out]
  unfold fracV
  go_enter Try.func97, Try.ntmps97
  by_cases hd : 1 ≤ d
  · obtain ⟨G, hG⟩ : ∃ G : Nat, Keep (Int.gcd n d = G) := ⟨_, ⟨rfl⟩⟩
    have hDG : Keep (((G : Int) == 1) = D) := ⟨by
      rw [← hD.out, ← hG.out]; unfold validB
      by_cases h : Int.gcd n d = 1
      · rw [h, decide_eq_true ⟨hd, rfl⟩]; rfl
      · rw [decide_eq_false (fun hh => h hh.2), beq_eq_false_iff_ne]; omega⟩
    go_wp2_with (go_at_call 114; refine (gcd_any n d h1 h2 hd h4 _).mono ?_; rintro e w5 ⟨rfl, m, rfl⟩; rw [hG.out])
    go_ret
    exact ⟨by rw [← hDG.out]; rfl, below_drewN ((Below.refl _ _).alloc (Nat.le_refl _) _) _⟩
  · have hDf : Keep (D = false) := ⟨by rw [← hD.out]; unfold validB; rw [decide_eq_false (fun h => hd h.1)]⟩
    go_wp2
    go_ret
    exact ⟨by rw [hDf.out]; rfl, (Below.refl _ _).alloc (Nat.le_refl _) _⟩
def withinB (n d lo hi den : Int) : Bool := decide (1 ≤ d ∧ d ≤ den ∧ lo ≤ n ∧ n ≤ hi ∧ Int.gcd n d = 1)
set_option maxHeartbeats 1000000 in
theorem within_any {n d : Int} (hn : In64 n) (hd0 : In64 d) (lo hi den : Int) (hlo : -9223372036854775808 < lo) (w : World) :
    Calls Try.prog 72 #[fracV n d, .int .i64 lo, .int .i64 hi, .int .i64 den] w fun e w' => e = .returned (.bool (withinB n d lo hi den)) ∧ Below w.heap.size w w' := by
  obtain ⟨h1, h2⟩ := hn
  obtain ⟨h3, h4⟩ := hd0
  obtain ⟨D, hD⟩ : ∃ D, Keep (withinB n d lo hi den = D) := ⟨_, ⟨rfl⟩⟩
  rw [hD.out]
  unfold fracV
  go_enter Try.func72, Try.ntmps72
  by_cases k1 : 1 ≤ d
  case neg =>
    have hDf : Keep (D = false) := ⟨by rw [← hD.out]; unfold withinB; exact decide_eq_false (fun h => k1 h.1)⟩
    go_wp2
    go_ret
    exact ⟨by rw [hDf.out]; rfl, (Below.refl _ _).alloc (Nat.le_refl _) _⟩
  by_cases k2 : d ≤ den
  case neg =>
    have hDf : Keep (D = false) := ⟨by rw [← hD.out]; unfold withinB; exact decide_eq_false (fun h => k2 h.2.1)⟩
    go_wp2
    go_ret
    exact ⟨by rw [hDf.out]; rfl, (Below.refl _ _).alloc (Nat.le_refl _) _⟩
  by_cases k3 : lo ≤ n
  case neg =>
    have hDf : Keep (D = false) := ⟨by rw [← hD.out]; unfold withinB; exact decide_eq_false (fun h => k3 h.2.2.1)⟩
    go_wp2
    go_ret
    exact ⟨by rw [hDf.out]; rfl, (Below.refl _ _).alloc (Nat.le_refl _) _⟩
  by_cases k4 : n ≤ hi
  case neg =>
    have hDf : Keep (D = false) := ⟨by rw [← hD.out]; unfold withinB; exact decide_eq_false (fun h => k4 h.2.2.2.1)⟩
    go_wp2
    go_ret
    exact ⟨by rw [hDf.out]; rfl, (Below.refl _ _).alloc (Nat.le_refl _) _⟩
  obtain ⟨G, hG⟩ : ∃ G : Nat, Keep (Int.gcd n d = G) := ⟨_, ⟨rfl⟩⟩
  have hDG : Keep (((G : Int) == 1) = D) := ⟨by
    rw [← hD.out, ← hG.out]; unfold withinB
    by_cases h : Int.gcd n d = 1
    · rw [h, decide_eq_true ⟨k1, k2, k3, k4, rfl⟩]; rfl
    · rw [decide_eq_false (fun hh => h hh.2.2.2.2), beq_eq_false_iff_ne]; omega⟩
  have hng : IntKind.i64.wrap (-n) = -n := IntWalk.i64_in _ (by omega)
  have hgk := gcd_nat n d
  rw [hG.out] at hgk
  have hq : ∀ w, Calls Try.prog 89 #[.int .i64 ((n.natAbs : Nat) : Int), .int .i64 ((d.natAbs : Nat) : Int)] w fun e w' => e = .returned (.int .i64 G) ∧ w' = w := by
    intro w; rw [← hgk]; exact refgcd_any _ _ (by omega) (by omega) w
  have hbn : ((d.natAbs : Nat) : Int) = d := by omega
  rw [hbn] at hq
  clear hbn hgk
  by_cases hs : n < -n
  · have han : ((n.natAbs : Nat) : Int) = -n := by omega
    rw [han] at hq
    clear han
    go_wp2_with (go_at_call 89; refine (hq _).mono ?_; rintro e w5 ⟨rfl, rfl⟩)
    go_ret
    exact ⟨by rw [← hDG.out]; rfl, (Below.refl _ _).alloc (Nat.le_refl _) _⟩
  · have han : ((n.natAbs : Nat) : Int) = n := by omega
    rw [han] at hq
    clear han
    go_wp2_with (go_at_call 89; refine (hq _).mono ?_; rintro e w5 ⟨rfl, rfl⟩)
    go_ret
    exact ⟨by rw [← hDG.out]; rfl, (Below.refl _ _).alloc (Nat.le_refl _) _⟩
theorem small_any {n d : Int} (hn : In64 n) (hd : In64 d) (w : World) :
    Calls Try.prog 51 #[fracV n d] w fun e w' => e = .returned (.bool (withinB n d (-1000000) 1000000 20)) ∧ Below w.heap.size w w' := by
  have q := fun w => within_any hn hd (-1000000) 1000000 20 (by omega) w
  generalize withinB n d (-1000000) 1000000 20 = B at q ⊢
  unfold fracV at q ⊢
  go_enter Try.func51, Try.ntmps51
  go_wp2_with (go_at_call 72; refine (q _).mono ?_; rintro e w5 ⟨rfl, hb⟩)
  go_ret
  exact ⟨rfl, ((Below.refl _ w).alloc (Nat.le_refl _) _).trans (hb.mono (by simp))⟩
end Go.Proofs.Ytbocmbhinjkjlaa
