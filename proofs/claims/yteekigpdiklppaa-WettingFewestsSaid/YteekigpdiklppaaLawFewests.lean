import Derived.Test.YteekigpdiklppaaWShW
set_option linter.unusedSimpArgs false
set_option linter.unusedVariables false
namespace Go.Proofs.Yteekigpdiklppaa
open Go Go.Proofs Go.RowKit Go.Seq
attribute [local go_sem] Oper.semAt_some
set_option maxRecDepth 100000 in
set_option maxHeartbeats 2000000 in
theorem Shared_no {r : Int} {n : Int} {v : Value} {ps : Pts} {w : World} (hv : PairsOf w v ps) (hl : ps.length ≤ 200) (hno : ¬ GrOk n ps) :
    Calls Try.prog 40 #[.int .i64 n, v, .int .i64 r] w fun e w' => e = .returned (.tuple #[.bool false, .int .i64 2]) ∧ Below w.heap.size w w' := by
  obtain ⟨wa, hwa⟩ : ∃ wa, w.alloc (.cells #[.int .i64 r] 3) = wa := ⟨_, rfl⟩
  obtain ⟨wb, hwb⟩ : ∃ wb, wa.alloc (.cells #[.bool false] 4) = wb := ⟨_, rfl⟩
  obtain ⟨wc, hwc⟩ : ∃ wc, wb.alloc (.cells #[.int .i64 0] 26) = wc := ⟨_, rfl⟩
  have sa : wa.heap.size = w.heap.size + 1 := by rw [← hwa]; simp
  have sb : wb.heap.size = w.heap.size + 1 + 1 := by rw [← hwb]; simp [sa]
  have ss : wc.heap.size = w.heap.size + 1 + 1 + 1 := by rw [← hwc]; simp [sb]
  have ba : Below w.heap.size w wa := by rw [← hwa]; exact (Below.refl _ _).alloc (Nat.le_refl _) _
  have bb : Below wa.heap.size wa wb := by rw [← hwb]; exact (Below.refl _ _).alloc (Nat.le_refl _) _
  have bc : Below wb.heap.size wb wc := by rw [← hwc]; exact (Below.refl _ _).alloc (Nat.le_refl _) _
  have fa : wa.heap[w.heap.size]? = some (.cells #[.int .i64 r] 3 (0, 0)) := by rw [← hwa]; exact World.alloc_heap_new w _
  have fb : wb.heap[w.heap.size + 1]? = some (.cells #[.bool false] 4 (0, 0)) := by rw [← sa, ← hwb]; exact World.alloc_heap_new wa _
  have fc : wc.heap[w.heap.size + 1 + 1]? = some (.cells #[.int .i64 0] 26 (0, 0)) := by rw [← sb, ← hwc]; exact World.alloc_heap_new wb _
  have bbc := bb.trans (bc.mono bb.size)
  have bw := ba.trans (bbc.mono ba.size)
  have hvc := pairsOf_below hv bw
  have q69 := readGraph_no hvc hl hno
  have hw : ((w.alloc (.cells #[.int .i64 r] 3)).alloc (.cells #[.bool false] 4)).alloc (.cells #[.int .i64 0] 26) = wc := by rw [hwa, hwb, hwc]
  have hcw := Keep.mk (And.intro ((bbc.block _ (by omega)).trans fa) (And.intro ((bc.block _ (by omega)).trans fb) (And.intro fc bw)))
  rw [ss] at q69
  clear hwa hwb hwc ba bb bc fa fb fc bbc bw hv hvc sa sb
  go_enter Try.func40, Try.ntmps40
  go_wp2
  go_step3
  go_wp2_with (first
    | (go_at_call 69; (with_reducible refine q69.mono ?_); rintro e w5 ⟨rfl, hb5⟩
       obtain ⟨W7, hW7⟩ : ∃ W7, w5.alloc (.cells #[.pointer none] 77) = W7 := ⟨_, rfl⟩
       have g8 : W7.heap[w5.heap.size]? = some (.cells #[.pointer none] 77 (0, 0)) := by rw [← hW7]; exact World.alloc_heap_new w5 _
       have c8 : W7.cell? ⟨w5.heap.size, 0, none⟩ = some (.pointer none) := by simp [World.cell?, g8]
       have f8 : W7.frozen? ⟨w5.heap.size, 0, none⟩ = false := by simp [World.frozen?, g8]
       obtain ⟨W8, hW8⟩ : ∃ W8, W7.setCell ⟨w5.heap.size, 0, none⟩ (.pointer none) = W8 := ⟨_, rfl⟩
       have hb8 : Below w5.heap.size w5 W8 := by rw [← hW8, ← hW7]; exact ((Below.refl _ _).alloc (Nat.le_refl _) _).setCell (by exact Nat.le_refl _) _
       have hs5 := hb5.size
       rw [ss] at hs5
       have h5 : W8.heap[w.heap.size]? = some (.cells #[.int .i64 r] 3 (0, 0)) := (hb8.block _ (by omega)).trans ((hb5.block _ (by omega)).trans hcw.out.1)
       have h6 : W8.heap[w.heap.size + 1]? = some (.cells #[.bool false] 4 (0, 0)) := (hb8.block _ (by omega)).trans ((hb5.block _ (by omega)).trans hcw.out.2.1)
       have h7 : W8.heap[w.heap.size + 1 + 1]? = some (.cells #[.int .i64 0] 26 (0, 0)) := (hb8.block _ (by omega)).trans ((hb5.block _ (by omega)).trans hcw.out.2.2.1)
       have c5 : W8.cell? ⟨w.heap.size, 0, none⟩ = some (.int .i64 r) := by simp [World.cell?, h5]
       have c6 : W8.cell? ⟨w.heap.size + 1, 0, none⟩ = some (.bool false) := by simp [World.cell?, h6]
       have f6 : W8.frozen? ⟨w.heap.size + 1, 0, none⟩ = false := by simp [World.frozen?, h6]
       have c7 : W8.cell? ⟨w.heap.size + 1 + 1, 0, none⟩ = some (.int .i64 0) := by simp [World.cell?, h7]
       have f7 : W8.frozen? ⟨w.heap.size + 1 + 1, 0, none⟩ = false := by simp [World.frozen?, h7]
       have k6 := heap_set h6 (i := 0) (.bool false)
       have k7 : ((W8.setCell ⟨w.heap.size + 1, 0, none⟩ (.bool false)).setCell ⟨w.heap.size + 1 + 1, 0, none⟩ (.int .i64 2)).heap[w.heap.size + 1 + 1]? = some (.cells #[.int .i64 2] 26 (0, 0)) := heap_set ((Below.heap_setCell _ _ _ _ (by show w.heap.size + 1 + 1 ≠ w.heap.size + 1; omega)).trans h7) _
       have k8 : ((W8.setCell ⟨w.heap.size + 1, 0, none⟩ (.bool false)).setCell ⟨w.heap.size + 1 + 1, 0, none⟩ (.int .i64 2)).heap[w.heap.size + 1]? = some (.cells #[.bool false] 4 (0, 0)) := (Below.heap_setCell _ _ _ _ (by show w.heap.size + 1 ≠ w.heap.size + 1 + 1; omega)).trans (heap_set h6 _)
       have hbF : Below w.heap.size w ((W8.setCell ⟨w.heap.size + 1, 0, none⟩ (.bool false)).setCell ⟨w.heap.size + 1 + 1, 0, none⟩ (.int .i64 2)) := ((hcw.out.2.2.2.trans ((hb5.trans (hb8.mono (by omega))).mono (by omega))).setCell (by show w.heap.size ≤ w.heap.size + 1; omega) _).setCell (by show w.heap.size ≤ w.heap.size + 1 + 1; omega) _
       have hF := Keep.mk (And.intro k7 (And.intro k8 hbF))
       clear hb5 hb8 hs5 h5 h6 h7 k6 k7 k8 hbF q69))
  try rw [Exit.noGoto_ret]
  refine bodyPost_ret (v := .tuple #[.bool false, .int .i64 2]) (by
    have d7 := hF.out.1
    have d6 := hF.out.2.1
    simp [results, Try.results40, go_sem, World.cell?, d6, d7]) rfl ?_
  exact ⟨rfl, hF.out.2.2⟩
set_option maxRecDepth 100000 in
set_option maxHeartbeats 2000000 in
theorem Shared_nor {r : Int} {n : Nat} {v : Value} {ps : Pts} {w : World} (hv : PairsOf w v ps) (hok : GrOk n ps) (hl : ps.length ≤ 200) (hno : ¬ (1 ≤ r ∧ r ≤ 6)) :
    Calls Try.prog 40 #[.int .i64 n, v, .int .i64 r] w fun e w' => e = .returned (.tuple #[.bool false, .int .i64 2]) ∧ Below w.heap.size w w' := by
  have q66 := threshold_any r
  rw [decide_eq_false hno] at q66
  obtain ⟨wa, hwa⟩ : ∃ wa, w.alloc (.cells #[.int .i64 r] 3) = wa := ⟨_, rfl⟩
  obtain ⟨wb, hwb⟩ : ∃ wb, wa.alloc (.cells #[.bool false] 4) = wb := ⟨_, rfl⟩
  obtain ⟨wc, hwc⟩ : ∃ wc, wb.alloc (.cells #[.int .i64 0] 26) = wc := ⟨_, rfl⟩
  have sa : wa.heap.size = w.heap.size + 1 := by rw [← hwa]; simp
  have sb : wb.heap.size = w.heap.size + 1 + 1 := by rw [← hwb]; simp [sa]
  have ss : wc.heap.size = w.heap.size + 1 + 1 + 1 := by rw [← hwc]; simp [sb]
  have ba : Below w.heap.size w wa := by rw [← hwa]; exact (Below.refl _ _).alloc (Nat.le_refl _) _
  have bb : Below wa.heap.size wa wb := by rw [← hwb]; exact (Below.refl _ _).alloc (Nat.le_refl _) _
  have bc : Below wb.heap.size wb wc := by rw [← hwc]; exact (Below.refl _ _).alloc (Nat.le_refl _) _
  have fa : wa.heap[w.heap.size]? = some (.cells #[.int .i64 r] 3 (0, 0)) := by rw [← hwa]; exact World.alloc_heap_new w _
  have fb : wb.heap[w.heap.size + 1]? = some (.cells #[.bool false] 4 (0, 0)) := by rw [← sa, ← hwb]; exact World.alloc_heap_new wa _
  have fc : wc.heap[w.heap.size + 1 + 1]? = some (.cells #[.int .i64 0] 26 (0, 0)) := by rw [← sb, ← hwc]; exact World.alloc_heap_new wb _
  have bbc := bb.trans (bc.mono bb.size)
  have bw := ba.trans (bbc.mono ba.size)
  have hvc := pairsOf_below hv bw
  have q69 := readGraph_yes hvc hok hl
  have hw : ((w.alloc (.cells #[.int .i64 r] 3)).alloc (.cells #[.bool false] 4)).alloc (.cells #[.int .i64 0] 26) = wc := by rw [hwa, hwb, hwc]
  have hcw := Keep.mk (And.intro ((bbc.block _ (by omega)).trans fa) (And.intro ((bc.block _ (by omega)).trans fb) (And.intro fc bw)))
  rw [ss] at q69
  clear hwa hwb hwc ba bb bc fa fb fc bbc bw hv hvc sa sb
  go_enter Try.func40, Try.ntmps40
  go_wp2
  go_step3
  go_wp2_with (first
    | (go_at_call 69; (with_reducible refine q69.mono ?_); rintro e w5 ⟨rfl, hg5, hb5⟩
       obtain ⟨W8, hW8⟩ : ∃ W8, w5.alloc (.cells #[.pointer (some ⟨w.heap.size + 1 + 1 + 1, 0, none⟩)] 77) = W8 := ⟨_, rfl⟩
       have hb8 : Below w5.heap.size w5 W8 := by rw [← hW8]; exact (Below.refl _ _).alloc (Nat.le_refl _) _
       have hs5 := hb5.size
       rw [ss] at hs5
       have h5 : W8.heap[w.heap.size]? = some (.cells #[.int .i64 r] 3 (0, 0)) := (hb8.block _ (by omega)).trans ((hb5.block _ (by omega)).trans hcw.out.1)
       have h6 : W8.heap[w.heap.size + 1]? = some (.cells #[.bool false] 4 (0, 0)) := (hb8.block _ (by omega)).trans ((hb5.block _ (by omega)).trans hcw.out.2.1)
       have h7 : W8.heap[w.heap.size + 1 + 1]? = some (.cells #[.int .i64 0] 26 (0, 0)) := (hb8.block _ (by omega)).trans ((hb5.block _ (by omega)).trans hcw.out.2.2.1)
       have c5 : W8.cell? ⟨w.heap.size, 0, none⟩ = some (.int .i64 r) := by simp [World.cell?, h5]
       have c6 : W8.cell? ⟨w.heap.size + 1, 0, none⟩ = some (.bool false) := by simp [World.cell?, h6]
       have f6 : W8.frozen? ⟨w.heap.size + 1, 0, none⟩ = false := by simp [World.frozen?, h6]
       have c7 : W8.cell? ⟨w.heap.size + 1 + 1, 0, none⟩ = some (.int .i64 0) := by simp [World.cell?, h7]
       have f7 : W8.frozen? ⟨w.heap.size + 1 + 1, 0, none⟩ = false := by simp [World.frozen?, h7]
       have k6 := heap_set h6 (i := 0) (.bool false)
       have k7 : ((W8.setCell ⟨w.heap.size + 1, 0, none⟩ (.bool false)).setCell ⟨w.heap.size + 1 + 1, 0, none⟩ (.int .i64 2)).heap[w.heap.size + 1 + 1]? = some (.cells #[.int .i64 2] 26 (0, 0)) := heap_set ((Below.heap_setCell _ _ _ _ (by show w.heap.size + 1 + 1 ≠ w.heap.size + 1; omega)).trans h7) _
       have k8 : ((W8.setCell ⟨w.heap.size + 1, 0, none⟩ (.bool false)).setCell ⟨w.heap.size + 1 + 1, 0, none⟩ (.int .i64 2)).heap[w.heap.size + 1]? = some (.cells #[.bool false] 4 (0, 0)) := (Below.heap_setCell _ _ _ _ (by show w.heap.size + 1 ≠ w.heap.size + 1 + 1; omega)).trans (heap_set h6 _)
       have hbF : Below w.heap.size w ((W8.setCell ⟨w.heap.size + 1, 0, none⟩ (.bool false)).setCell ⟨w.heap.size + 1 + 1, 0, none⟩ (.int .i64 2)) := ((hcw.out.2.2.2.trans ((hb5.trans (hb8.mono (by omega))).mono (by omega))).setCell (by show w.heap.size ≤ w.heap.size + 1; omega) _).setCell (by show w.heap.size ≤ w.heap.size + 1 + 1; omega) _
       have hF := Keep.mk (And.intro k7 (And.intro k8 hbF))
       clear hb5 hg5 hb8 hs5 h5 h6 h7 k6 k7 k8 hbF q69)
    | (go_at_call 66; (with_reducible refine (q66 _).mono ?_); rintro e w7 ⟨rfl, he7⟩; rw [he7]; clear he7 w7))
  try rw [Exit.noGoto_ret]
  refine bodyPost_ret (v := .tuple #[.bool false, .int .i64 2]) (by
    have d7 := hF.out.1
    have d6 := hF.out.2.1
    simp [results, Try.results40, go_sem, World.cell?, d6, d7]) rfl ?_
  exact ⟨rfl, hF.out.2.2⟩
set_option maxRecDepth 100000 in
theorem oFewSl2 {N : Nat} {E : Pts} (hG : GOk N E) {r : Int} (hr1 : 1 ≤ r) (hr6 : r ≤ 6) {F : Nat → Bool} (hF : leastOf N (soaking N E r) = F) {l : Nat} (hl : sz F = l) (W : World) (ve : Value) (he : PairsOf W ve E) :
    Calls Try.prog 39 #[.int .i64 N, ve, .int .i64 r] W fun e w' => ∃ X c, e = .returned (.tuple #[.slice X l c, .int .i64 0]) ∧ IntsO w' (.slice X l c) (zsOf F) ∧ Below W.heap.size W w' := by
  refine (oFewest hG hr1 hr6 hF W ve he).mono ?_
  rintro e w' ⟨lv, rfl, h1, h2⟩
  obtain ⟨X, c, rfl⟩ := intsO_slice' h1
  have hz : (zsOf F).length = l := by rw [zsOf_len]; exact hl
  rw [hz] at h1 ⊢
  exact ⟨X, c, rfl, h1, h2⟩
set_option maxHeartbeats 8000000 in
set_option maxRecDepth 100000 in
theorem fewests_any (n r : Int) {v1 : Value} {ps : Pts} {w : World} (hv : ArgP w v1 ps) :
    Calls Try.prog 6 #[.int .i64 n, v1, .int .i64 r] w fun e w' => e = .returned (.bool true) ∧ Below w.heap.size w w' := by
  have q17 := pairs_arg hv
  obtain ⟨E, hE⟩ : ∃ E, ps.take 80 = E := ⟨_, rfl⟩
  have hEl : E.length ≤ 200 := by rw [← hE, List.length_take]; omega
  rw [hE] at q17
  have q32 := fun W => thr_any r W
  clear hv hE
  by_cases hok : GrOk n E
  · obtain ⟨N, rfl⟩ : ∃ N : Nat, n = N := ⟨n.toNat, by have := hok.n1; omega⟩
    have q36 : Keep (∀ (W : World) (ve : Value), PairsOf W ve E → Calls Try.prog 36 #[.int .i64 N, ve] W fun e w' => e = .returned (.bool true) ∧ Below W.heap.size W w') := ⟨fun W ve he => (refGraph_run he hEl (R := true) ⟨fun _ => hok, fun _ => rfl⟩).mono fun e w' ⟨h1, q, h2⟩ => ⟨h1, by rw [h2]; exact below_dn W q⟩⟩
    by_cases hr : 1 ≤ r ∧ r ≤ 6
    · have hG := gok_of hok
      have hr1 := hr.1
      have hr6 := hr.2
      rw [decide_eq_true hr] at q32
      have q24 := Keep.mk (fun (W : World) (ve : Value) (he : PairsOf W ve E) => near_any hG he)
      have q41 := Keep.mk (fun (W : World) (G : Nat) (hg : NumsAt W G N 3 (nearOf E)) => refFewest_any hr1 hG hg)
      have q42 := Keep.mk (fun (W : World) (G : Nat) (hg : NumsAt W G N 3 (nearOf E)) => refShared_any hr1 hG hg)
      have q40 := Keep.mk (fun (W : World) (ve : Value) (he : PairsOf W ve E) => Shared_yes hG he hr1 hr6)
      obtain ⟨R, hR⟩ : ∃ R, sharedOf N E r = R := ⟨_, rfl⟩
      rw [hR] at q40 q42
      obtain ⟨F, hF⟩ : ∃ F, leastOf N (soaking N E r) = F := ⟨_, rfl⟩
      obtain ⟨lF, hlF⟩ : ∃ l, sz F = l := ⟨_, rfl⟩
      have q39 := Keep.mk (fun (W : World) (ve : Value) (he : PairsOf W ve E) => oFewSl2 hG hr1 hr6 hF hlF W ve he)
      rw [hF] at q41
      have q28 := fun W => oList (N := N) (s := F) rfl W
      obtain ⟨nL, hnL⟩ : ∃ n, num F = n := ⟨_, rfl⟩
      rw [hnL] at q41 q28
      clear hR hF hlF hnL hok hG hr hr1 hr6
      cases R with
      | false =>
        go_enter Try.func6, Try.ntmps6
        go_wp2_with (first
          | (go_at_call 17; (with_reducible refine q17.mono ?_); rintro e w1 ⟨vl, rfl, hr1, hb1⟩
             have hk1 : Keep (Hd w w1 vl E []) := ⟨⟨own_pairs hr1, fun x hx => by simp at hx, hb1⟩⟩
             clear hr1 hb1 q17)
          | (go_at_call 39; have hp := hk1.out.ps; (with_reducible refine (q39.out _ _ hp).mono ?_); rintro e w2 ⟨XL, cL, rfl, hi, hb⟩
             have hk2 := Keep.mk (hk1.out.put hb hi)
             clear hi hb hp hk1 q39)
          | (go_at_call 40; have hp := hk2.out.ps; (with_reducible refine (q40.out _ _ hp).mono ?_); rintro e w3 ⟨rfl, hb⟩
             have hk3 := Keep.mk (hk2.out.keep hb)
             clear hb hp hk2 q40)
          | (go_at_call 36; have hp := hk3.out.ps; (with_reducible refine (q36.out _ _ hp).mono ?_); rintro e w4 ⟨rfl, hb⟩
             have hk4 := Keep.mk (hk3.out.keep hb)
             clear hb hp hk3 q36)
          | (go_at_call 32; (with_reducible refine (q32 _).mono ?_); rintro e wm ⟨rfl, hem⟩; rw [hem]; clear hem wm q32)
          | (go_at_call 24; have hp := hk4.out.ps; (with_reducible refine (q24.out _ _ hp).mono ?_); rintro e w5 ⟨G, rfl, hGn, hGl, hb⟩
             have hk5 := Keep.mk (hk4.out.keep hb)
             have hG5 := Keep.mk hGn
             clear hGn hGl hb hp hk4 q24)
          | (go_at_call 41; have hg := hG5.out; (with_reducible refine (q41.out _ _ hg).mono ?_); rintro e w6 ⟨rfl, hb⟩
             have hk6 := Keep.mk (hk5.out.keep hb)
             have hG6 := Keep.mk (hG5.out.below hb hG5.out.lt)
             clear hb hg hk5 hG5 q41)
          | (go_at_call 28; (with_reducible refine (q28 _).mono ?_); rintro e w7 ⟨vw, rfl, hi7, hb7⟩
             have hk7 := Keep.mk (hk6.out.put hb7 hi7)
             have hG7 := Keep.mk (hG6.out.below hb7 hG6.out.lt)
             clear hi7 hb7 hk6 hG6 q28)
          | (go_at_call 27; have hva := hk7.out.at (v := .slice XL lF cL) (z := zsOf F) (.tail _ (.head _)); have hvb := hk7.out.at (v := vw) (z := zsOf F) (.head _)
             (with_reducible refine (same_any hva hvb (Nat.le_trans (zs_len _) (by omega))).mono ?_); rintro e w8 ⟨rfl, nq, hq⟩
             have hk8 := Keep.mk (hk7.out.dn nq)
             have hG8 := Keep.mk (hG7.out.below (below_dn _ nq) hG7.out.lt)
             rw [← hq] at hk8 hG8
             clear hva hvb hk7 hG7 hq)
          | (go_at_call 42; have hg := hG8.out; (with_reducible refine (q42.out _ _ hg).mono ?_); rintro e w9 ⟨rfl, hb⟩
             have hk9 := Keep.mk (hk8.out.keep hb)
             clear hb hg hk8 hG8 q42)
          | (go_at_call 23; (with_reducible refine (awake_w _).mono ?_); rintro e w10 ⟨rfl, hb⟩
             have hk10 := Keep.mk (hk9.out.keep hb)
             clear hb hk9))
        refine bodyPost_ret (v := .bool true) (by simp [results, Try.results6, go_sem]) rfl ?_
        exact ⟨rfl, hk10.out.2.2⟩
      | true =>
        go_enter Try.func6, Try.ntmps6
        go_wp2_with (first
          | (go_at_call 17; (with_reducible refine q17.mono ?_); rintro e w1 ⟨vl, rfl, hr1, hb1⟩
             have hk1 : Keep (Hd w w1 vl E []) := ⟨⟨own_pairs hr1, fun x hx => by simp at hx, hb1⟩⟩
             clear hr1 hb1 q17)
          | (go_at_call 39; have hp := hk1.out.ps; (with_reducible refine (q39.out _ _ hp).mono ?_); rintro e w2 ⟨XL, cL, rfl, hi, hb⟩
             have hk2 := Keep.mk (hk1.out.put hb hi)
             clear hi hb hp hk1 q39)
          | (go_at_call 40; have hp := hk2.out.ps; (with_reducible refine (q40.out _ _ hp).mono ?_); rintro e w3 ⟨rfl, hb⟩
             have hk3 := Keep.mk (hk2.out.keep hb)
             clear hb hp hk2 q40)
          | (go_at_call 36; have hp := hk3.out.ps; (with_reducible refine (q36.out _ _ hp).mono ?_); rintro e w4 ⟨rfl, hb⟩
             have hk4 := Keep.mk (hk3.out.keep hb)
             clear hb hp hk3 q36)
          | (go_at_call 32; (with_reducible refine (q32 _).mono ?_); rintro e wm ⟨rfl, hem⟩; rw [hem]; clear hem wm q32)
          | (go_at_call 24; have hp := hk4.out.ps; (with_reducible refine (q24.out _ _ hp).mono ?_); rintro e w5 ⟨G, rfl, hGn, hGl, hb⟩
             have hk5 := Keep.mk (hk4.out.keep hb)
             have hG5 := Keep.mk hGn
             clear hGn hGl hb hp hk4 q24)
          | (go_at_call 41; have hg := hG5.out; (with_reducible refine (q41.out _ _ hg).mono ?_); rintro e w6 ⟨rfl, hb⟩
             have hk6 := Keep.mk (hk5.out.keep hb)
             have hG6 := Keep.mk (hG5.out.below hb hG5.out.lt)
             clear hb hg hk5 hG5 q41)
          | (go_at_call 28; (with_reducible refine (q28 _).mono ?_); rintro e w7 ⟨vw, rfl, hi7, hb7⟩
             have hk7 := Keep.mk (hk6.out.put hb7 hi7)
             have hG7 := Keep.mk (hG6.out.below hb7 hG6.out.lt)
             clear hi7 hb7 hk6 hG6 q28)
          | (go_at_call 27; have hva := hk7.out.at (v := .slice XL lF cL) (z := zsOf F) (.tail _ (.head _)); have hvb := hk7.out.at (v := vw) (z := zsOf F) (.head _)
             (with_reducible refine (same_any hva hvb (Nat.le_trans (zs_len _) (by omega))).mono ?_); rintro e w8 ⟨rfl, nq, hq⟩
             have hk8 := Keep.mk (hk7.out.dn nq)
             have hG8 := Keep.mk (hG7.out.below (below_dn _ nq) hG7.out.lt)
             rw [← hq] at hk8 hG8
             clear hva hvb hk7 hG7 hq)
          | (go_at_call 42; have hg := hG8.out; (with_reducible refine (q42.out _ _ hg).mono ?_); rintro e w9 ⟨rfl, hb⟩
             have hk9 := Keep.mk (hk8.out.keep hb)
             clear hb hg hk8 hG8 q42)
          | (go_at_call 23; (with_reducible refine (awake_w _).mono ?_); rintro e w10 ⟨rfl, hb⟩
             have hk10 := Keep.mk (hk9.out.keep hb)
             clear hb hk9))
        refine bodyPost_ret (v := .bool true) (by simp [results, Try.results6, go_sem]) rfl ?_
        exact ⟨rfl, hk10.out.2.2⟩
    · rw [decide_eq_false hr] at q32
      have n39 : Keep (∀ (W : World) (ve : Value), PairsOf W ve E → _) := ⟨fun W ve he => Fewest_nor (r := r) he hok hEl hr⟩
      have n40 : Keep (∀ (W : World) (ve : Value), PairsOf W ve E → _) := ⟨fun W ve he => Shared_nor (r := r) he hok hEl hr⟩
      have n36 := q36
      clear hok hEl hr q36
      go_enter Try.func6, Try.ntmps6
      go_wp2_with (first
        | (go_at_call 17; (with_reducible refine q17.mono ?_); rintro e w1 ⟨vl, rfl, hr1, hb1⟩
           have hk1 : Keep (Hd w w1 vl E []) := ⟨⟨own_pairs hr1, fun x hx => by simp at hx, hb1⟩⟩
           clear hr1 hb1 q17)
        | (go_at_call 39; have hp := hk1.out.ps; (with_reducible refine (n39.out _ _ hp).mono ?_); rintro e w2 ⟨rfl, hb⟩
           have hk2 := Keep.mk (hk1.out.keep hb)
           clear hb hp hk1 n39)
        | (go_at_call 40; have hp := hk2.out.ps; (with_reducible refine (n40.out _ _ hp).mono ?_); rintro e w3 ⟨rfl, hb⟩
           have hk3 := Keep.mk (hk2.out.keep hb)
           clear hb hp hk2 n40)
        | (go_at_call 36; have hp := hk3.out.ps; (with_reducible refine (n36.out _ _ hp).mono ?_); rintro e w4 ⟨rfl, hb⟩
           have hk4 := Keep.mk (hk3.out.keep hb)
           clear hb hp hk3 n36)
        | (go_at_call 32; (with_reducible refine (q32 _).mono ?_); rintro e wm ⟨rfl, hem⟩; rw [hem]; clear hem wm q32)
        | (go_at_call 23; (with_reducible refine (awake_w _).mono ?_); rintro e w5 ⟨rfl, hb⟩
           have hk5 := Keep.mk (hk4.out.keep hb)
           clear hb hk4))
      refine bodyPost_ret (v := .bool true) (by simp [results, Try.results6, go_sem]) rfl ?_
      exact ⟨rfl, hk5.out.2.2⟩
  · have n39 : Keep (∀ (W : World) (ve : Value), PairsOf W ve E → _) := ⟨fun W ve he => Fewest_no (r := r) (n := n) he hEl hok⟩
    have n40 : Keep (∀ (W : World) (ve : Value), PairsOf W ve E → _) := ⟨fun W ve he => Shared_no (r := r) (n := n) he hEl hok⟩
    have n36 : Keep (∀ (W : World) (ve : Value), PairsOf W ve E → Calls Try.prog 36 #[.int .i64 n, ve] W fun e w' => e = .returned (.bool false) ∧ Below W.heap.size W w') := ⟨fun W ve he => (refGraph_run he hEl (R := false) ⟨fun h => absurd h (by decide), fun h => absurd h hok⟩).mono fun e w' ⟨h1, q, h2⟩ => ⟨h1, by rw [h2]; exact below_dn W q⟩⟩
    clear hok hEl q32
    go_enter Try.func6, Try.ntmps6
    go_wp2_with (first
      | (go_at_call 17; (with_reducible refine q17.mono ?_); rintro e w1 ⟨vl, rfl, hr1, hb1⟩
         have hk1 : Keep (Hd w w1 vl E []) := ⟨⟨own_pairs hr1, fun x hx => by simp at hx, hb1⟩⟩
         clear hr1 hb1 q17)
      | (go_at_call 39; have hp := hk1.out.ps; (with_reducible refine (n39.out _ _ hp).mono ?_); rintro e w2 ⟨rfl, hb⟩
         have hk2 := Keep.mk (hk1.out.keep hb)
         clear hb hp hk1 n39)
      | (go_at_call 40; have hp := hk2.out.ps; (with_reducible refine (n40.out _ _ hp).mono ?_); rintro e w3 ⟨rfl, hb⟩
         have hk3 := Keep.mk (hk2.out.keep hb)
         clear hb hp hk2 n40)
      | (go_at_call 36; have hp := hk3.out.ps; (with_reducible refine (n36.out _ _ hp).mono ?_); rintro e w4 ⟨rfl, hb⟩
         have hk4 := Keep.mk (hk3.out.keep hb)
         clear hb hp hk3 n36)
      | (go_at_call 23; (with_reducible refine (awake_w _).mono ?_); rintro e w5 ⟨rfl, hb⟩
         have hk5 := Keep.mk (hk4.out.keep hb)
         clear hb hk4))
    refine bodyPost_ret (v := .bool true) (by simp [results, Try.results6, go_sem]) rfl ?_
    exact ⟨rfl, hk5.out.2.2⟩
end Go.Proofs.Yteekigpdiklppaa
