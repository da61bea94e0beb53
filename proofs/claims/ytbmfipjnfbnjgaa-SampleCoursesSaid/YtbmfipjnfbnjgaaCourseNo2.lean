import Derived.Test.YtbmfipjnfbnjgaaCourseNos
set_option linter.unusedSimpArgs false
set_option linter.unusedVariables false
namespace Go.Proofs.Ytbmfipjnfbnjgaa
open Go Go.Proofs Go.RowKit Go.Seq Go.Sample
set_option maxHeartbeats 2000000 in
set_option maxRecDepth 100000 in
theorem course_no {N d : Int} (hd : In64 d) {va vr : Value} {za zr : List Int} {w : World} (ha : IntsO w va za) (hr : IntsO w vr zr) (hla : za.length ≤ 100000) (hlr : zr.length ≤ 100000) (hno : ¬ ((1 ≤ N ∧ N ≤ 36) ∧ (0 ≤ d ∧ d ≤ N) ∧ FitOk N za zr)) :
    Calls Try.prog 33 #[.int .i64 N, .int .i64 d, .agg #[va, vr]] w fun e w' => e = .returned (.tuple #[.agg #[.int .i64 0, .int .i64 0], .agg #[.int .i64 0, .int .i64 0], .int .i64 2]) ∧ Below w.heap.size w w' := by
  obtain ⟨wa, hwa⟩ : ∃ wa, w.alloc (.cells #[va, vr] 42) = wa := ⟨_, rfl⟩
  obtain ⟨wb, hwb⟩ : ∃ wb, wa.alloc (.cells #[.int .i64 0, .int .i64 0] 27) = wb := ⟨_, rfl⟩
  obtain ⟨wc, hwc⟩ : ∃ wc, wb.alloc (.cells #[.int .i64 0, .int .i64 0] 27) = wc := ⟨_, rfl⟩
  have sa : wa.heap.size = w.heap.size + 1 := by rw [← hwa]; simp
  have sb : wb.heap.size = w.heap.size + 1 + 1 := by rw [← hwb]; simp [sa]
  have ba : Below w.heap.size w wa := by rw [← hwa]; exact (Below.refl _ _).alloc (Nat.le_refl _) _
  have bb : Below wa.heap.size wa wb := by rw [← hwb]; exact (Below.refl _ _).alloc (Nat.le_refl _) _
  have bc : Below wb.heap.size wb wc := by rw [← hwc]; exact (Below.refl _ _).alloc (Nat.le_refl _) _
  have o5 : Own2 wc w.heap.size va vr := by
    have : Own2 wa w.heap.size va vr := by rw [← hwa]; exact Own2.new _ _ _ _
    exact (this.after bb).after bc
  have o6 : Own2 wc (w.heap.size + 1) (.int .i64 0) (.int .i64 0) := by
    have : Own2 wb (w.heap.size + 1) (.int .i64 0) (.int .i64 0) := by rw [← sa, ← hwb]; exact Own2.new _ _ _ _
    exact this.after bc
  have o7 : Own2 wc (w.heap.size + 1 + 1) (.int .i64 0) (.int .i64 0) := by rw [← sb, ← hwc]; exact Own2.new _ _ _ _
  have bw := (ba.trans (bb.mono (by omega))).trans (bc.mono (by omega))
  have ha0 := intsO_below ha bw
  have hr0 := intsO_below hr bw
  have hwab : ((w.alloc (.cells #[va, vr] 42)).alloc (.cells #[.int .i64 0, .int .i64 0] 27)).alloc (.cells #[.int .i64 0, .int .i64 0] 27) = wc := by rw [hwa, hwb, hwc]
  clear hwa hwb hwc sa sb ba bb bc
  obtain ⟨A, cap, rfl, _⟩ := id ha
  obtain ⟨A', cap', rfl, _⟩ := id hr
  by_cases hN : 1 ≤ N ∧ N ≤ 36
  · obtain ⟨n, rfl⟩ : ∃ n : Nat, N = (n : Int) := ⟨N.toNat, by omega⟩
    have q52 := fun w => readBad_any (N := n) (z := d) (by omega) (by omega) hd w
    by_cases hdd : 0 ≤ d ∧ d ≤ (n : Int)
    · have hf : ¬ FitOk n za zr := fun h => hno ⟨hN, hdd, h⟩
      have q63 := fun W b (h : Pieces W b n) (ha : IntsO W (.slice A za.length cap) za) (hr : IntsO W (.slice A' zr.length cap') zr) => isCourse_no h ha hr hla hlr hf
      simp only [decide_eq_true hdd] at q52
      clear hf hno hN hdd hd ha hr hla hlr
      go_enter Try.func33, Try.ntmps33
      go_wp2_with (first
        | (go_at_call 52; (with_reducible refine (q52 _).mono ?_); rintro e w5 ⟨rfl, hb5, hP5⟩
           have o6 := o6.after hb5
           have o7 := o7.after hb5
           have ha0 := intsO_below ha0 hb5
           have hr0 := intsO_below hr0 hb5
           have bw := bw.trans (hb5.mono bw.size)
           have l6 := o6.lt
           have l7 := o7.lt
           obtain ⟨r0, r1, r2, r3⟩ := o5.after hb5
           obtain ⟨s0, s1, s2, s3⟩ := id o6
           obtain ⟨t0, t1, t2, t3⟩ := id o7
           clear hb5 q52)
        | (go_at_call 63; refine (q63 _ _ hP5 ha0 hr0).mono ?_; rintro e w6 ⟨rfl, hb6⟩
           have o6 := o6.after hb6
           have o7 := o7.after hb6
           have bw := bw.trans (hb6.mono bw.size)
           have l6 := o6.lt
           have l7 := o7.lt
           obtain ⟨s0, s1, s2, s3⟩ := id o6
           obtain ⟨t0, t1, t2, t3⟩ := id o7
           clear hb6))
      refine bodyPost_ret (v := .tuple #[.agg #[.int .i64 0, .int .i64 0], .agg #[.int .i64 0, .int .i64 0], .int .i64 2]) (by simp [results, Try.results33, go_sem]; try go_simp) rfl ?_
      exact ⟨rfl, below_set2 bw (by omega) (by omega) _ _ _ _⟩
    · simp only [decide_eq_false hdd] at q52
      clear hno hN hdd hd ha hr hla hlr
      go_enter Try.func33, Try.ntmps33
      go_wp2_with (first
        | (go_at_call 52; (with_reducible refine (q52 _).mono ?_); rintro e w5 ⟨rfl, hb5, hP5⟩
           have o6 := o6.after hb5
           have o7 := o7.after hb5
           have ha0 := intsO_below ha0 hb5
           have hr0 := intsO_below hr0 hb5
           have bw := bw.trans (hb5.mono bw.size)
           have l6 := o6.lt
           have l7 := o7.lt
           obtain ⟨r0, r1, r2, r3⟩ := o5.after hb5
           obtain ⟨s0, s1, s2, s3⟩ := id o6
           obtain ⟨t0, t1, t2, t3⟩ := id o7
           clear hb5 q52))
      refine bodyPost_ret (v := .tuple #[.agg #[.int .i64 0, .int .i64 0], .agg #[.int .i64 0, .int .i64 0], .int .i64 2]) (by simp [results, Try.results33, go_sem]; try go_simp) rfl ?_
      exact ⟨rfl, below_set2 bw (by omega) (by omega) _ _ _ _⟩
  · have q52 := fun w => readBad_no (n := N) (z := d) (by omega) w
    clear hno hN hd ha hr hla hlr
    have l6 := o6.lt
    have l7 := o7.lt
    obtain ⟨r0, r1, r2, r3⟩ := id o5
    obtain ⟨s0, s1, s2, s3⟩ := id o6
    obtain ⟨t0, t1, t2, t3⟩ := id o7
    go_enter Try.func33, Try.ntmps33
    go_wp2_with (first
      | (go_at_call 52; (with_reducible refine (q52 _).mono ?_); rintro e w5 ⟨rfl, hw5⟩; rw [hw5]; clear hw5 w5 q52))
    refine bodyPost_ret (v := .tuple #[.agg #[.int .i64 0, .int .i64 0], .agg #[.int .i64 0, .int .i64 0], .int .i64 2]) (by simp [results, Try.results33, go_sem]; try go_simp) rfl ?_
    exact ⟨rfl, below_set2 bw (by omega) (by omega) _ _ _ _⟩
set_option maxHeartbeats 2000000 in
set_option maxRecDepth 100000 in
theorem chances_no {N d : Int} (hd : In64 d) {va vr : Value} {za zr : List Int} {w : World} (ha : IntsO w va za) (hr : IntsO w vr zr) (hla : za.length ≤ 100000) (hlr : zr.length ≤ 100000) (hno : ¬ ((1 ≤ N ∧ N ≤ 36) ∧ (0 ≤ d ∧ d ≤ N) ∧ FitOk N za zr)) :
    Calls Try.prog 34 #[.int .i64 N, .int .i64 d, .agg #[va, vr]] w fun e w' => e = .returned (.tuple #[.slice none 0 0, .slice none 0 0, .int .i64 2]) ∧ Below w.heap.size w w' := by
  obtain ⟨wa, hwa⟩ : ∃ wa, w.alloc (.cells #[.int .i64 d] 3) = wa := ⟨_, rfl⟩
  obtain ⟨wb, hwb⟩ : ∃ wb, wa.alloc (.cells #[va, vr] 42) = wb := ⟨_, rfl⟩
  have sa : wa.heap.size = w.heap.size + 1 := by rw [← hwa]; simp
  have sb : wb.heap.size = w.heap.size + 1 + 1 := by rw [← hwb]; simp [sa]
  have ba : Below w.heap.size w wa := by rw [← hwa]; exact (Below.refl _ _).alloc (Nat.le_refl _) _
  have bb : Below wa.heap.size wa wb := by rw [← hwb]; exact (Below.refl _ _).alloc (Nat.le_refl _) _
  have o5 : Own2 wb (w.heap.size + 1) va vr := by rw [← sa, ← hwb]; exact Own2.new _ _ _ _
  have c4 : wb.cell? ⟨w.heap.size, 0, none⟩ = some (.int .i64 d) := by
    have : wb.heap[w.heap.size]? = some (.cells #[.int .i64 d] 3 (0, 0)) := by rw [bb.block _ (by omega), ← hwa]; exact World.alloc_heap_new _ _
    simp [World.cell?, this]
  have bw := ba.trans (bb.mono (by omega))
  have ha0 := intsO_below ha bw
  have hr0 := intsO_below hr bw
  have hwab : (w.alloc (.cells #[.int .i64 d] 3)).alloc (.cells #[va, vr] 42) = wb := by rw [hwa, hwb]
  clear hwa hwb sa ba bb
  obtain ⟨A, cap, rfl, _⟩ := id ha
  obtain ⟨A', cap', rfl, _⟩ := id hr
  refine (callsIn_wide (n := 0)).1 ?_
  refine callsIn_of_wp_marks Try.func34 rfl trivial ?_ rfl
  simp only [Try.ntmps34, List.size_toArray, List.length_cons, List.length_nil, Nat.reduceAdd, Nat.reduceSub, Array.replicate_succ, Array.replicate_zero, List.push_toArray, List.append_toArray, List.nil_append, List.cons_append]
  refine wpIn_wide.2 ?_
  obtain ⟨r0, r1, r2, r3⟩ := id o5
  by_cases hN : 1 ≤ N ∧ N ≤ 36
  · obtain ⟨n, rfl⟩ : ∃ n : Nat, N = (n : Int) := ⟨N.toNat, by omega⟩
    have q52 := fun w => readBad_any (N := n) (z := d) (by omega) (by omega) hd w
    by_cases hdd : 0 ≤ d ∧ d ≤ (n : Int)
    · have hf : ¬ FitOk n za zr := fun h => hno ⟨hN, hdd, h⟩
      have q63 := fun W b (h : Pieces W b n) (ha : IntsO W (.slice A za.length cap) za) (hr : IntsO W (.slice A' zr.length cap') zr) => isCourse_no h ha hr hla hlr hf
      simp only [decide_eq_true hdd] at q52
      clear hf hno hN hdd hd ha hr hla hlr
      go_wp2_with (first
        | (go_at_call 52; (with_reducible refine (q52 _).mono ?_); rintro e w5 ⟨rfl, hb5, hP5⟩
           have o5 := o5.after hb5
           have c4 := cell_below c4 hb5
           have ha0 := intsO_below ha0 hb5
           have hr0 := intsO_below hr0 hb5
           have bw := bw.trans (hb5.mono bw.size)
           obtain ⟨w6, hw6⟩ : ∃ w6, w5.alloc (.cells #[.pointer (some ⟨wb.heap.size, 0, none⟩)] 88) = w6 := ⟨_, rfl⟩
           have b6 : Below w5.heap.size w5 w6 := by rw [← hw6]; exact (Below.refl _ _).alloc (Nat.le_refl _) _
           have c9 : w6.cell? ⟨w5.heap.size, 0, none⟩ = some (.pointer (some ⟨wb.heap.size, 0, none⟩)) := by
             have : w6.heap[w5.heap.size]? = some (.cells #[.pointer (some ⟨wb.heap.size, 0, none⟩)] 88 (0, 0)) := by rw [← hw6]; exact World.alloc_heap_new w5 _
             simp [World.cell?, this]
           have hP6 := hP5.below b6 hP5.lt
           have ha0 := intsO_below ha0 b6
           have hr0 := intsO_below hr0 b6
           have bw := bw.trans (b6.mono bw.size)
           obtain ⟨r0, r1, r2, r3⟩ := o5.after b6
           rw [sb] at c9 hP6 hw6
           (try rw [sb])
           clear hb5 b6 q52 hP5)
        | (go_at_call 63; refine (q63 _ _ hP6 ha0 hr0).mono ?_; rintro e w7 ⟨rfl, hb7⟩
           have bw := bw.trans (hb7.mono bw.size)
           clear hb7))
      refine leaves_marks (lo := w7.heap.size) [] w7 (Laid.nil _ _) fun w' hb' => ⟨.tuple #[.slice none 0 0, .slice none 0 0, .int .i64 2], by simp [results, Try.results34, go_sem]; try go_simp, rfl, bw.trans (hb'.mono bw.size)⟩
    · simp only [decide_eq_false hdd] at q52
      clear hno hN hdd hd ha hr hla hlr
      go_wp2_with (first
        | (go_at_call 52; (with_reducible refine (q52 _).mono ?_); rintro e w5 ⟨rfl, hb5, hP5⟩
           have o5 := o5.after hb5
           have c4 := cell_below c4 hb5
           have ha0 := intsO_below ha0 hb5
           have hr0 := intsO_below hr0 hb5
           have bw := bw.trans (hb5.mono bw.size)
           obtain ⟨w6, hw6⟩ : ∃ w6, w5.alloc (.cells #[.pointer (some ⟨wb.heap.size, 0, none⟩)] 88) = w6 := ⟨_, rfl⟩
           have b6 : Below w5.heap.size w5 w6 := by rw [← hw6]; exact (Below.refl _ _).alloc (Nat.le_refl _) _
           have c9 : w6.cell? ⟨w5.heap.size, 0, none⟩ = some (.pointer (some ⟨wb.heap.size, 0, none⟩)) := by
             have : w6.heap[w5.heap.size]? = some (.cells #[.pointer (some ⟨wb.heap.size, 0, none⟩)] 88 (0, 0)) := by rw [← hw6]; exact World.alloc_heap_new w5 _
             simp [World.cell?, this]
           have hP6 := hP5.below b6 hP5.lt
           have ha0 := intsO_below ha0 b6
           have hr0 := intsO_below hr0 b6
           have bw := bw.trans (b6.mono bw.size)
           obtain ⟨r0, r1, r2, r3⟩ := o5.after b6
           rw [sb] at c9 hP6 hw6
           (try rw [sb])
           clear hb5 b6 q52 hP5))
      refine leaves_marks (lo := w6.heap.size) [] w6 (Laid.nil _ _) fun w' hb' => ⟨.tuple #[.slice none 0 0, .slice none 0 0, .int .i64 2], by simp [results, Try.results34, go_sem]; try go_simp, rfl, bw.trans (hb'.mono bw.size)⟩
  · have q52 := fun w => readBad_no (n := N) (z := d) (by omega) w
    obtain ⟨w6, hw6⟩ : ∃ w6, wb.alloc (.cells #[.pointer none] 88) = w6 := ⟨_, rfl⟩
    have b6 : Below wb.heap.size wb w6 := by rw [← hw6]; exact (Below.refl _ _).alloc (Nat.le_refl _) _
    have t9 : w6.heap[w.heap.size + 1 + 1]? = some (.cells #[.pointer none] 88 (0, 0)) := by rw [← sb, ← hw6]; exact World.alloc_heap_new wb _
    have c9 : w6.cell? ⟨w.heap.size + 1 + 1, 0, none⟩ = some (.pointer none) := by simp [World.cell?, t9]
    have f9 : w6.frozen? ⟨w.heap.size + 1 + 1, 0, none⟩ = false := by simp [World.frozen?, t9]
    have c8 : (w6.setCell ⟨w.heap.size + 1 + 1, 0, none⟩ (.pointer none)).cell? ⟨w.heap.size + 1 + 1, 0, none⟩ = some (.pointer none) := by go_simp
    obtain ⟨w7, hw7⟩ : ∃ w7, w6.setCell ⟨w.heap.size + 1 + 1, 0, none⟩ (.pointer none) = w7 := ⟨_, rfl⟩
    have bw := (bw.trans (b6.mono bw.size)).setCell (p := ⟨w.heap.size + 1 + 1, 0, none⟩) (by show w.heap.size ≤ w.heap.size + 1 + 1; omega) (.pointer none)
    rw [hw7] at bw
    rw [hw7] at c8
    clear hno hN hd ha hr hla hlr b6 t9
    go_wp2_with (first
      | (go_at_call 52; (with_reducible refine (q52 _).mono ?_); rintro e w5 ⟨rfl, hw5⟩; rw [hw5]; clear hw5 w5 q52))
    try rw [hw7]
    refine leaves_marks (lo := w7.heap.size) [] w7 (Laid.nil _ _) fun w' hb' => ⟨.tuple #[.slice none 0 0, .slice none 0 0, .int .i64 2], by simp [results, Try.results34, go_sem]; try go_simp, rfl, bw.trans (hb'.mono bw.size)⟩
end Go.Proofs.Ytbmfipjnfbnjgaa
