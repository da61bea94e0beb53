import Derived.Test.YtbmfipjnfbnjgaaEnoughFn
set_option linter.unusedSimpArgs false
set_option linter.unusedVariables false
namespace Go.Proofs.Ytbmfipjnfbnjgaa
open Go Go.Proofs Go.RowKit Go.Sample Go.Seq
set_option maxHeartbeats 1000000 in
set_option maxRecDepth 100000 in
theorem plan_no0 {N good bad a1 b1 a2 b2 : Int} (hno : N < 1 ∨ 36 < N) (w : World) :
    Calls Try.prog 37 #[.int .i64 N, .int .i64 good, .int .i64 bad, fracV a1 b1, fracV a2 b2] w fun e w' => e = .returned (.tuple #[.int .i64 0, .int .i64 0, .int .i64 2]) ∧ Below w.heap.size w w' := by
  have hr := fun w => readBad_no (z := bad) hno w
  have hO1 : Own2 (w.alloc (.cells #[.int .i64 a1, .int .i64 b1] 27)) w.heap.size (.int .i64 a1) (.int .i64 b1) := Own2.new _ _ _ _
  obtain ⟨wa, hwa⟩ : ∃ wa, w.alloc (.cells #[.int .i64 a1, .int .i64 b1] 27) = wa := ⟨_, rfl⟩
  obtain ⟨w0, hw0⟩ : ∃ w0, wa.alloc (.cells #[.int .i64 a2, .int .i64 b2] 27) = w0 := ⟨_, rfl⟩
  have sa : wa.heap.size = w.heap.size + 1 := by rw [← hwa]; simp
  have s0 : w0.heap.size = w.heap.size + 2 := by rw [← hw0]; simp [sa]
  have ba : Below w.heap.size w wa := by rw [← hwa]; exact (Below.refl _ _).alloc (Nat.le_refl _) _
  have b0 : Below wa.heap.size wa w0 := by rw [← hw0]; exact (Below.refl _ _).alloc (Nat.le_refl _) _
  rw [hwa] at hO1
  have hO1 := hO1.after b0
  have hO2 : Own2 w0 (w.heap.size + 1) (.int .i64 a2) (.int .i64 b2) := by
    rw [← hw0, ← sa]; exact Own2.new wa _ _ _
  have bw0 : Below w.heap.size w w0 := ba.trans (b0.mono (by omega))
  have hw0' : (w.alloc (.cells #[.int .i64 a1, .int .i64 b1] 27)).alloc (.cells #[.int .i64 a2, .int .i64 b2] 27) = w0 := by rw [hwa, hw0]
  have hr0 := hr w0
  try rw [s0] at hr0
  have s0k := Keep.mk s0
  clear hwa hw0 sa ba b0 hr s0
  unfold fracV at *
  go_enter Try.func37, Try.ntmps37
  go_wp2
  go_step3
  try rw [hw0']
  go_wp2_with (first
    | (go_at_call 52; refine hr0.mono ?_; rintro e w5 ⟨rfl, rfl⟩))
  all_goals try rw [Exit.noGoto_ret]
  all_goals refine bodyPost_ret (v := .tuple #[.int .i64 0, .int .i64 0, .int .i64 2]) (by simp [results, Try.results37, go_sem]; try go_simp) rfl ?_
  all_goals exact ⟨rfl, bw0⟩
set_option maxHeartbeats 1000000 in
set_option maxRecDepth 100000 in
theorem plan_no1 {N : Nat} {good bad a1 b1 a2 b2 : Int} (h1 : 1 ≤ N) (h36 : N ≤ 36) (hzb : In64 bad) (hb : ¬ (0 ≤ bad ∧ bad ≤ (N : Int))) (w : World) :
    Calls Try.prog 37 #[.int .i64 N, .int .i64 good, .int .i64 bad, fracV a1 b1, fracV a2 b2] w fun e w' => e = .returned (.tuple #[.int .i64 0, .int .i64 0, .int .i64 2]) ∧ Below w.heap.size w w' := by
  have hr := fun w => readBad_any (z := bad) h1 h36 hzb w
  rw [decide_eq_false hb] at hr
  have hO1 : Own2 (w.alloc (.cells #[.int .i64 a1, .int .i64 b1] 27)) w.heap.size (.int .i64 a1) (.int .i64 b1) := Own2.new _ _ _ _
  obtain ⟨wa, hwa⟩ : ∃ wa, w.alloc (.cells #[.int .i64 a1, .int .i64 b1] 27) = wa := ⟨_, rfl⟩
  obtain ⟨w0, hw0⟩ : ∃ w0, wa.alloc (.cells #[.int .i64 a2, .int .i64 b2] 27) = w0 := ⟨_, rfl⟩
  have sa : wa.heap.size = w.heap.size + 1 := by rw [← hwa]; simp
  have s0 : w0.heap.size = w.heap.size + 2 := by rw [← hw0]; simp [sa]
  have ba : Below w.heap.size w wa := by rw [← hwa]; exact (Below.refl _ _).alloc (Nat.le_refl _) _
  have b0 : Below wa.heap.size wa w0 := by rw [← hw0]; exact (Below.refl _ _).alloc (Nat.le_refl _) _
  rw [hwa] at hO1
  have hO1 := hO1.after b0
  have hO2 : Own2 w0 (w.heap.size + 1) (.int .i64 a2) (.int .i64 b2) := by
    rw [← hw0, ← sa]; exact Own2.new wa _ _ _
  have bw0 : Below w.heap.size w w0 := ba.trans (b0.mono (by omega))
  have hw0' : (w.alloc (.cells #[.int .i64 a1, .int .i64 b1] 27)).alloc (.cells #[.int .i64 a2, .int .i64 b2] 27) = w0 := by rw [hwa, hw0]
  have hr0 := hr w0
  try rw [s0] at hr0
  have s0k := Keep.mk s0
  clear hwa hw0 sa ba b0 hr s0
  unfold fracV at *
  go_enter Try.func37, Try.ntmps37
  go_wp2
  go_step3
  try rw [hw0']
  go_wp2_with (first
    | (go_at_call 52; refine hr0.mono ?_; rintro e w5 ⟨rfl, hb5, hP5⟩
       rw [← s0k.out] at hb5
       obtain ⟨o0, o1, o2, o3⟩ := hO1.after hb5
       obtain ⟨p0, p1, p2, p3⟩ := hO2.after hb5
       have hbw5 := bw0.trans (hb5.mono bw0.size)
       clear hb5 hr0))
  all_goals try rw [Exit.noGoto_ret]
  all_goals refine bodyPost_ret (v := .tuple #[.int .i64 0, .int .i64 0, .int .i64 2]) (by simp [results, Try.results37, go_sem]; try go_simp) rfl ?_
  all_goals exact ⟨rfl, hbw5⟩
set_option maxHeartbeats 1000000 in
set_option maxRecDepth 100000 in
theorem plan_no2 {N : Nat} {good bad a1 b1 a2 b2 : Int} (h1 : 1 ≤ N) (h36 : N ≤ 36) (hzb : In64 bad) (hb : 0 ≤ bad ∧ bad ≤ (N : Int)) (hzg : In64 good) (hg : ¬ (0 ≤ good ∧ good ≤ (N : Int))) (w : World) :
    Calls Try.prog 37 #[.int .i64 N, .int .i64 good, .int .i64 bad, fracV a1 b1, fracV a2 b2] w fun e w' => e = .returned (.tuple #[.int .i64 0, .int .i64 0, .int .i64 2]) ∧ Below w.heap.size w w' := by
  have hr := fun w => readBad_any (z := bad) h1 h36 hzb w
  rw [decide_eq_true hb] at hr
  have hhas := fun W (h : Pieces W (w.heap.size + 2) N) => has_any (z := good) h hzg
  have ed : decide (0 ≤ good ∧ good ≤ (N : Int)) = false := decide_eq_false hg
  simp only [ed] at hhas
  have hO1 : Own2 (w.alloc (.cells #[.int .i64 a1, .int .i64 b1] 27)) w.heap.size (.int .i64 a1) (.int .i64 b1) := Own2.new _ _ _ _
  obtain ⟨wa, hwa⟩ : ∃ wa, w.alloc (.cells #[.int .i64 a1, .int .i64 b1] 27) = wa := ⟨_, rfl⟩
  obtain ⟨w0, hw0⟩ : ∃ w0, wa.alloc (.cells #[.int .i64 a2, .int .i64 b2] 27) = w0 := ⟨_, rfl⟩
  have sa : wa.heap.size = w.heap.size + 1 := by rw [← hwa]; simp
  have s0 : w0.heap.size = w.heap.size + 2 := by rw [← hw0]; simp [sa]
  have ba : Below w.heap.size w wa := by rw [← hwa]; exact (Below.refl _ _).alloc (Nat.le_refl _) _
  have b0 : Below wa.heap.size wa w0 := by rw [← hw0]; exact (Below.refl _ _).alloc (Nat.le_refl _) _
  rw [hwa] at hO1
  have hO1 := hO1.after b0
  have hO2 : Own2 w0 (w.heap.size + 1) (.int .i64 a2) (.int .i64 b2) := by
    rw [← hw0, ← sa]; exact Own2.new wa _ _ _
  have bw0 : Below w.heap.size w w0 := ba.trans (b0.mono (by omega))
  have hw0' : (w.alloc (.cells #[.int .i64 a1, .int .i64 b1] 27)).alloc (.cells #[.int .i64 a2, .int .i64 b2] 27) = w0 := by rw [hwa, hw0]
  have hr0 := hr w0
  try rw [s0] at hr0
  have s0k := Keep.mk s0
  clear hwa hw0 sa ba b0 hr s0
  unfold fracV at *
  go_enter Try.func37, Try.ntmps37
  go_wp2
  go_step3
  try rw [hw0']
  go_wp2_with (first
    | (go_at_call 52; refine hr0.mono ?_; rintro e w5 ⟨rfl, hb5, hP5⟩
       rw [← s0k.out] at hb5
       obtain ⟨o0, o1, o2, o3⟩ := hO1.after hb5
       obtain ⟨p0, p1, p2, p3⟩ := hO2.after hb5
       have hbw5 := bw0.trans (hb5.mono bw0.size)
       clear hb5 hr0)
    | (go_at_call 54; refine (hhas _ hP5).mono ?_; rintro e w6 ⟨rfl, rfl⟩))
  all_goals try rw [Exit.noGoto_ret]
  all_goals refine bodyPost_ret (v := .tuple #[.int .i64 0, .int .i64 0, .int .i64 2]) (by simp [results, Try.results37, go_sem]; try go_simp) rfl ?_
  all_goals exact ⟨rfl, hbw5⟩
set_option maxHeartbeats 1000000 in
set_option maxRecDepth 100000 in
theorem plan_no3 {N : Nat} {good bad a1 b1 a2 b2 : Int} (h1 : 1 ≤ N) (h36 : N ≤ 36) (hzb : In64 bad) (hb : 0 ≤ bad ∧ bad ≤ (N : Int)) (hzg : In64 good) (hg : 0 ≤ good ∧ good ≤ (N : Int)) (hn1 : In64 a1) (hd1 : In64 b1) (hs1 : ¬ ShareOk a1 b1) (w : World) :
    Calls Try.prog 37 #[.int .i64 N, .int .i64 good, .int .i64 bad, fracV a1 b1, fracV a2 b2] w fun e w' => e = .returned (.tuple #[.int .i64 0, .int .i64 0, .int .i64 2]) ∧ Below w.heap.size w w' := by
  have hr := fun w => readBad_any (z := bad) h1 h36 hzb w
  rw [decide_eq_true hb] at hr
  have hhas := fun W (h : Pieces W (w.heap.size + 2) N) => has_any (z := good) h hzg
  have ed : decide (0 ≤ good ∧ good ≤ (N : Int)) = true := decide_eq_true hg
  simp only [ed] at hhas
  have hc1 := fun w => isChance_any (n := a1) (d := b1) hn1 hd1 w
  rw [decide_eq_false hs1] at hc1
  have hO1 : Own2 (w.alloc (.cells #[.int .i64 a1, .int .i64 b1] 27)) w.heap.size (.int .i64 a1) (.int .i64 b1) := Own2.new _ _ _ _
  obtain ⟨wa, hwa⟩ : ∃ wa, w.alloc (.cells #[.int .i64 a1, .int .i64 b1] 27) = wa := ⟨_, rfl⟩
  obtain ⟨w0, hw0⟩ : ∃ w0, wa.alloc (.cells #[.int .i64 a2, .int .i64 b2] 27) = w0 := ⟨_, rfl⟩
  have sa : wa.heap.size = w.heap.size + 1 := by rw [← hwa]; simp
  have s0 : w0.heap.size = w.heap.size + 2 := by rw [← hw0]; simp [sa]
  have ba : Below w.heap.size w wa := by rw [← hwa]; exact (Below.refl _ _).alloc (Nat.le_refl _) _
  have b0 : Below wa.heap.size wa w0 := by rw [← hw0]; exact (Below.refl _ _).alloc (Nat.le_refl _) _
  rw [hwa] at hO1
  have hO1 := hO1.after b0
  have hO2 : Own2 w0 (w.heap.size + 1) (.int .i64 a2) (.int .i64 b2) := by
    rw [← hw0, ← sa]; exact Own2.new wa _ _ _
  have bw0 : Below w.heap.size w w0 := ba.trans (b0.mono (by omega))
  have hw0' : (w.alloc (.cells #[.int .i64 a1, .int .i64 b1] 27)).alloc (.cells #[.int .i64 a2, .int .i64 b2] 27) = w0 := by rw [hwa, hw0]
  have hr0 := hr w0
  try rw [s0] at hr0
  have s0k := Keep.mk s0
  clear hwa hw0 sa ba b0 hr s0
  unfold fracV at *
  go_enter Try.func37, Try.ntmps37
  go_wp2
  go_step3
  try rw [hw0']
  go_wp2_with (first
    | (go_at_call 52; refine hr0.mono ?_; rintro e w5 ⟨rfl, hb5, hP5⟩
       rw [← s0k.out] at hb5
       obtain ⟨o0, o1, o2, o3⟩ := hO1.after hb5
       obtain ⟨p0, p1, p2, p3⟩ := hO2.after hb5
       have hbw5 := bw0.trans (hb5.mono bw0.size)
       clear hb5 hr0)
    | (go_at_call 54; refine (hhas _ hP5).mono ?_; rintro e w6 ⟨rfl, rfl⟩)
    | (go_at_call 67; (with_reducible refine (hc1 _).mono ?_); rintro e w7 ⟨rfl, hb7⟩
       obtain ⟨o0, o1, o2, o3⟩ := (⟨o0, o1, o2, o3⟩ : Own2 _ w.heap.size _ _).after hb7
       obtain ⟨p0, p1, p2, p3⟩ := (⟨p0, p1, p2, p3⟩ : Own2 _ (w.heap.size + 1) _ _).after hb7
       have hbw7 := hbw5.trans (hb7.mono hbw5.size)
       have hP7 := hP5.below hb7 hP5.lt
       clear hb7 hc1))
  all_goals try rw [Exit.noGoto_ret]
  all_goals refine bodyPost_ret (v := .tuple #[.int .i64 0, .int .i64 0, .int .i64 2]) (by simp [results, Try.results37, go_sem]; try go_simp) rfl ?_
  all_goals exact ⟨rfl, hbw7⟩
set_option maxHeartbeats 1000000 in
set_option maxRecDepth 100000 in
theorem plan_no4 {N : Nat} {good bad a1 b1 a2 b2 : Int} (h1 : 1 ≤ N) (h36 : N ≤ 36) (hzb : In64 bad) (hb : 0 ≤ bad ∧ bad ≤ (N : Int)) (hzg : In64 good) (hg : 0 ≤ good ∧ good ≤ (N : Int)) (hn1 : In64 a1) (hd1 : In64 b1) (hs1 : ShareOk a1 b1) (hn2 : In64 a2) (hd2 : In64 b2) (hs2 : ¬ ShareOk a2 b2) (w : World) :
    Calls Try.prog 37 #[.int .i64 N, .int .i64 good, .int .i64 bad, fracV a1 b1, fracV a2 b2] w fun e w' => e = .returned (.tuple #[.int .i64 0, .int .i64 0, .int .i64 2]) ∧ Below w.heap.size w w' := by
  have hr := fun w => readBad_any (z := bad) h1 h36 hzb w
  rw [decide_eq_true hb] at hr
  have hhas := fun W (h : Pieces W (w.heap.size + 2) N) => has_any (z := good) h hzg
  have ed : decide (0 ≤ good ∧ good ≤ (N : Int)) = true := decide_eq_true hg
  simp only [ed] at hhas
  have hc1 := fun w => isChance_any (n := a1) (d := b1) hn1 hd1 w
  rw [decide_eq_true hs1] at hc1
  have hc2 := fun w => isChance_any (n := a2) (d := b2) hn2 hd2 w
  rw [decide_eq_false hs2] at hc2
  have hO1 : Own2 (w.alloc (.cells #[.int .i64 a1, .int .i64 b1] 27)) w.heap.size (.int .i64 a1) (.int .i64 b1) := Own2.new _ _ _ _
  obtain ⟨wa, hwa⟩ : ∃ wa, w.alloc (.cells #[.int .i64 a1, .int .i64 b1] 27) = wa := ⟨_, rfl⟩
  obtain ⟨w0, hw0⟩ : ∃ w0, wa.alloc (.cells #[.int .i64 a2, .int .i64 b2] 27) = w0 := ⟨_, rfl⟩
  have sa : wa.heap.size = w.heap.size + 1 := by rw [← hwa]; simp
  have s0 : w0.heap.size = w.heap.size + 2 := by rw [← hw0]; simp [sa]
  have ba : Below w.heap.size w wa := by rw [← hwa]; exact (Below.refl _ _).alloc (Nat.le_refl _) _
  have b0 : Below wa.heap.size wa w0 := by rw [← hw0]; exact (Below.refl _ _).alloc (Nat.le_refl _) _
  rw [hwa] at hO1
  have hO1 := hO1.after b0
  have hO2 : Own2 w0 (w.heap.size + 1) (.int .i64 a2) (.int .i64 b2) := by
    rw [← hw0, ← sa]; exact Own2.new wa _ _ _
  have bw0 : Below w.heap.size w w0 := ba.trans (b0.mono (by omega))
  have hw0' : (w.alloc (.cells #[.int .i64 a1, .int .i64 b1] 27)).alloc (.cells #[.int .i64 a2, .int .i64 b2] 27) = w0 := by rw [hwa, hw0]
  have hr0 := hr w0
  try rw [s0] at hr0
  have s0k := Keep.mk s0
  clear hwa hw0 sa ba b0 hr s0
  unfold fracV at *
  go_enter Try.func37, Try.ntmps37
  go_wp2
  go_step3
  try rw [hw0']
  go_wp2_with (first
    | (go_at_call 52; refine hr0.mono ?_; rintro e w5 ⟨rfl, hb5, hP5⟩
       rw [← s0k.out] at hb5
       obtain ⟨o0, o1, o2, o3⟩ := hO1.after hb5
       obtain ⟨p0, p1, p2, p3⟩ := hO2.after hb5
       have hbw5 := bw0.trans (hb5.mono bw0.size)
       clear hb5 hr0)
    | (go_at_call 54; refine (hhas _ hP5).mono ?_; rintro e w6 ⟨rfl, rfl⟩)
    | (go_at_call 67; (with_reducible refine (hc1 _).mono ?_); rintro e w7 ⟨rfl, hb7⟩
       obtain ⟨o0, o1, o2, o3⟩ := (⟨o0, o1, o2, o3⟩ : Own2 _ w.heap.size _ _).after hb7
       obtain ⟨p0, p1, p2, p3⟩ := (⟨p0, p1, p2, p3⟩ : Own2 _ (w.heap.size + 1) _ _).after hb7
       have hbw7 := hbw5.trans (hb7.mono hbw5.size)
       have hP7 := hP5.below hb7 hP5.lt
       clear hb7 hc1)
    | (go_at_call 67; (with_reducible refine (hc2 _).mono ?_); rintro e w8 ⟨rfl, hb8⟩
       have o8 := (⟨o0, o1, o2, o3⟩ : Own2 _ w.heap.size _ _).after hb8
       have p8 := (⟨p0, p1, p2, p3⟩ : Own2 _ (w.heap.size + 1) _ _).after hb8
       have hbw8 := hbw7.trans (hb8.mono hbw7.size)
       have hP8 := hP7.below hb8 hP7.lt
       clear hb8 hc2))
  all_goals try rw [Exit.noGoto_ret]
  all_goals refine bodyPost_ret (v := .tuple #[.int .i64 0, .int .i64 0, .int .i64 2]) (by simp [results, Try.results37, go_sem]; try go_simp) rfl ?_
  all_goals exact ⟨rfl, hbw8⟩
theorem plan_none {N good bad a1 b1 a2 b2 : Int} (hzb : In64 bad) (hzg : In64 good) (hn1 : In64 a1) (hd1 : In64 b1) (hn2 : In64 a2) (hd2 : In64 b2) (hno : ¬ (LotOk N good ∧ LotOk N bad ∧ ShareOk a1 b1 ∧ ShareOk a2 b2)) (w : World) :
    Calls Try.prog 37 #[.int .i64 N, .int .i64 good, .int .i64 bad, fracV a1 b1, fracV a2 b2] w fun e w' => e = .returned (.tuple #[.int .i64 0, .int .i64 0, .int .i64 2]) ∧ Below w.heap.size w w' := by
  by_cases h0 : N < 1 ∨ 36 < N
  · exact plan_no0 h0 w
  · obtain ⟨N', rfl⟩ : ∃ k : Nat, N = (k : Int) := ⟨N.toNat, by omega⟩
    have h1 : 1 ≤ N' := by omega
    have h36 : N' ≤ 36 := by omega
    by_cases hb : 0 ≤ bad ∧ bad ≤ (N' : Int)
    · by_cases hg : 0 ≤ good ∧ good ≤ (N' : Int)
      · by_cases hs1 : ShareOk a1 b1
        · by_cases hs2 : ShareOk a2 b2
          · exact absurd ⟨⟨by omega, by omega, hg.1, hg.2⟩, ⟨by omega, by omega, hb.1, hb.2⟩, hs1, hs2⟩ hno
          · exact plan_no4 h1 h36 hzb hb hzg hg hn1 hd1 hs1 hn2 hd2 hs2 w
        · exact plan_no3 h1 h36 hzb hb hzg hg hn1 hd1 hs1 w
      · exact plan_no2 h1 h36 hzb hb hzg hg w
    · exact plan_no1 h1 h36 hzb hb w
end Go.Proofs.Ytbmfipjnfbnjgaa
