import Derived.Test.YtbmfipjnfbnjgaaOutcome
set_option linter.unusedSimpArgs false
set_option linter.unusedVariables false
namespace Go.Proofs.Ytbmfipjnfbnjgaa
open Go Go.Proofs Go.RowKit Go.Sample
set_option maxHeartbeats 400000 in
set_option maxRecDepth 100000 in
theorem course_any {N d : Nat} {c : Crs} {w : World} (h1 : 1 ≤ N) (h36 : N ≤ 36) (hd : d ≤ N) (hc : CrsIn w c) (hok : CrsOk c N) :
    Calls Try.prog 33 #[.int .i64 N, .int .i64 d, c.val] w fun e w' => e = .returned (.tuple #[redV (accAll N d c.A c.R c.L) (ch N d), redV (exAll N d c.A c.R c.L) (ch N d), .int .i64 0]) ∧ Below w.heap.size w w' := by
  have hr := fun w => readBad_any (z := (d : Int)) h1 h36 ⟨by omega, by omega⟩ w
  rw [decide_eq_true (by omega)] at hr
  have l1 := hok.l1
  have l2 := hok.l2
  have hga : c.ga < w.heap.size := cell_lt (hc.las 0 (by omega))
  have hgr : c.gr < w.heap.size := cell_lt (hc.lrs 0 (by omega))
  obtain ⟨wa, hwa⟩ : ∃ wa, w.alloc (.cells #[c.sa, c.sr] 42) = wa := ⟨_, rfl⟩
  obtain ⟨wb, hwb⟩ : ∃ wb, wa.alloc (.cells #[.int .i64 0, .int .i64 0] 27) = wb := ⟨_, rfl⟩
  obtain ⟨w0, hw0⟩ : ∃ w0, wb.alloc (.cells #[.int .i64 0, .int .i64 0] 27) = w0 := ⟨_, rfl⟩
  have hw0' : (((w.alloc (.cells #[c.sa, c.sr] 42)).alloc (.cells #[.int .i64 0, .int .i64 0] 27)).alloc (.cells #[.int .i64 0, .int .i64 0] 27)) = w0 := by rw [hwa, hwb, hw0]
  have sa : wa.heap.size = w.heap.size + 1 := by rw [← hwa]; simp
  have sb : wb.heap.size = w.heap.size + 1 + 1 := by rw [← hwb]; simp [sa]
  have s0 : w0.heap.size = w.heap.size + 3 := by rw [← hw0]; simp [sb]
  have ba : Below w.heap.size w wa := by rw [← hwa]; exact (Below.refl _ _).alloc (Nat.le_refl _) _
  have bb : Below wa.heap.size wa wb := by rw [← hwb]; exact (Below.refl _ _).alloc (Nat.le_refl _) _
  have b0 : Below wb.heap.size wb w0 := by rw [← hw0]; exact (Below.refl _ _).alloc (Nat.le_refl _) _
  have bb0 : Below wa.heap.size wa w0 := bb.trans (b0.mono (by omega))
  have bw0 : Below w.heap.size w w0 := ba.trans (bb0.mono (by omega))
  have hB0 : CrsBox w0 w.heap.size c := by
    have := CrsBox.new hc 42
    rw [hwa] at this
    exact this.after bb0
  have hO1 : Own2 w0 (w.heap.size + 1) (.int .i64 0) (.int .i64 0) := by
    have := Own2.new wa (.int .i64 0) (.int .i64 0) 27
    rw [hwb, sa] at this
    exact this.after b0
  have hO2 : Own2 w0 (w.heap.size + 1 + 1) (.int .i64 0) (.int .i64 0) := by
    have := Own2.new wb (.int .i64 0) (.int .i64 0) 27
    rw [hw0, sb] at this
    exact this
  clear hwa hwb hw0 ba bb b0 bb0 sa sb
  have hr0 := hr w0
  rw [s0] at hr0
  have his := fun W (h : Pieces W (w.heap.size + 3) N) (hc : CrsIn W c) => isCourse_yes h hc hok
  have hou := fun W (h : Pieces W (w.heap.size + 3) N) (hc : CrsIn W c) => outcome_any h hd hc l1 l2
  obtain ⟨A, hA⟩ : ∃ A, Keep (accAll N d c.A c.R c.L = A) := ⟨_, ⟨rfl⟩⟩
  obtain ⟨X, hX⟩ : ∃ X, Keep (exAll N d c.A c.R c.L = X) := ⟨_, ⟨rfl⟩⟩
  obtain ⟨D, hD⟩ : ∃ D, Keep (ch N d = D) := ⟨_, ⟨rfl⟩⟩
  rw [hA.out, hX.out, hD.out]
  simp only [hA.out, hX.out, hD.out] at hou
  unfold Crs.sa Crs.sr at hw0'
  unfold Crs.val Crs.sa Crs.sr redV fracV at hou
  unfold Crs.val Crs.sa Crs.sr at his
  unfold Crs.val Crs.sa Crs.sr redV fracV
  go_enter Try.func33, Try.ntmps33
  go_wp2_with (first
    | (go_at_call 52; refine hr0.mono ?_; rintro e w5 ⟨rfl, hb5, hP5⟩
       rw [← s0] at hb5
       have hB5 := hB0.after hb5
       have o5 := hO1.after hb5
       have p5 := hO2.after hb5
       have hbw5 := bw0.trans (hb5.mono bw0.size)
       obtain ⟨⟨d0, d1, _, _⟩, hin5⟩ := hB5
       unfold Crs.sa at d0
       unfold Crs.sr at d1
       clear hb5 hr hr0)
    | (go_at_call 63; refine (his _ hP5 hin5).mono ?_; rintro e w6 ⟨rfl, hb6⟩
       have hP6 := hP5.below hb6 hP5.lt
       have d0 := cell_below d0 hb6
       have d1 := cell_below d1 hb6
       have hin6 := hin5.after hb6
       have o6 := o5.after hb6
       have p6 := p5.after hb6
       have hbw6 := hbw5.trans (hb6.mono hbw5.size)
       clear hb6 his hP5 hin5)
    | (go_at_call 58; refine (hou _ hP6 hin6).mono ?_; rintro e w7 ⟨rfl, hb7⟩
       obtain ⟨x0, x1, x2, x3⟩ := o6.after hb7
       obtain ⟨y0, y1, y2, y3⟩ := p6.after hb7
       have hbw7 := hbw6.trans (hb7.mono hbw6.size)
       have s7 : w.heap.size + 1 + 1 < w7.heap.size := Nat.lt_of_lt_of_le p6.lt hb7.size
       have s7a : w.heap.size + 1 < w7.heap.size := by omega
       clear hb7 hou))
  obtain ⟨W8, hW8⟩ : ∃ W8, ((w7.alloc (.cells #[.int .i64 (rN A D : Nat), .int .i64 (rD A D : Nat)] 27)).alloc (.cells #[.int .i64 (rN X D : Nat), .int .i64 (rD X D : Nat)] 27)) = W8 := ⟨_, rfl⟩
  have hb78 : Below w7.heap.size w7 W8 := by rw [← hW8]; exact ((Below.refl _ _).alloc (Nat.le_refl _) _).alloc (by simp) _
  have hs8 : w7.heap.size + 1 < W8.heap.size := by rw [← hW8]; simp
  obtain ⟨u0, u1, u2, u3⟩ : Own2 W8 w7.heap.size (.int .i64 (rN A D : Nat)) (.int .i64 (rD A D : Nat)) := by
    rw [← hW8]; exact (Own2.new _ _ _ _).after ((Below.refl _ _).alloc (Nat.le_refl _) _)
  obtain ⟨v0, v1, v2, v3⟩ : Own2 W8 (w7.heap.size + 1) (.int .i64 (rN X D : Nat)) (.int .i64 (rD X D : Nat)) := by
    rw [← hW8]
    have := Own2.new (w7.alloc (.cells #[.int .i64 (rN A D : Nat), .int .i64 (rD A D : Nat)] 27)) (.int .i64 (rN X D : Nat)) (.int .i64 (rD X D : Nat)) 27
    rwa [World.size_alloc] at this
  rw [hW8]
  obtain ⟨x0, x1, x2, x3⟩ := (⟨x0, x1, x2, x3⟩ : Own2 w7 (w.heap.size + 1) _ _).after hb78
  obtain ⟨y0, y1, y2, y3⟩ := (⟨y0, y1, y2, y3⟩ : Own2 w7 (w.heap.size + 1 + 1) _ _).after hb78
  have hbw8 : Below w.heap.size w W8 := hbw7.trans (hb78.mono (by omega))
  obtain ⟨g, hg⟩ : ∃ g, w7.heap.size = g := ⟨_, rfl⟩
  rw [hg] at u0 u1 u2 u3 v0 v1 v2 v3 s7 s7a hs8 ⊢
  clear hg hW8 hb78 hbw7
  go_region_with (fail)
  all_goals go_wp2
  all_goals refine bodyPost_ret (v := .tuple #[.agg #[.int .i64 (rN A D : Nat), .int .i64 (rD A D : Nat)], .agg #[.int .i64 (rN X D : Nat), .int .i64 (rD X D : Nat)], .int .i64 0]) (by simp [results, Try.results33, go_sem]; try go_simp) rfl ?_
  all_goals exact ⟨rfl, ((((hbw8.setCell (p := ⟨w.heap.size + 1, 0, none⟩) (by simp) _).setCell (p := ⟨w.heap.size + 1, 1, none⟩) (by simp) _).setCell (p := ⟨w.heap.size + 1 + 1, 0, none⟩) (by simp; omega) _).setCell (p := ⟨w.heap.size + 1 + 1, 1, none⟩) (by simp; omega) _).drew⟩
end Go.Proofs.Ytbmfipjnfbnjgaa
