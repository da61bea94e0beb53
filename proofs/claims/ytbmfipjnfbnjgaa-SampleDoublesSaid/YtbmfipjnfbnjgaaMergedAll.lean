import Derived.Test.YtbmfipjnfbnjgaaMrgFn
import Derived.Test.YtbmfipjnfbnjgaaArrays
import Derived.Test.YtbmfipjnfbnjgaaOpenArgs
set_option linter.unusedSimpArgs false
set_option linter.unusedVariables false
namespace Go.Proofs.Ytbmfipjnfbnjgaa
open Go Go.Proofs Go.RowKit Go.Sample Go.Seq
theorem five_new (w : World) (t : TypeId) (n1 c1 r1 n2 c2 : Nat) : NumsAt (w.alloc (.cells #[.int .i64 n1, .int .i64 c1, .int .i64 r1, .int .i64 n2, .int .i64 c2] t)) w.heap.size 5 t (twF n1 c1 r1 n2 c2) := by
  refine ⟨_, World.alloc_heap_new w _, rfl, fun j hj => ?_⟩
  match j, hj with
  | 0, _ => rfl
  | 1, _ => rfl
  | 2, _ => rfl
  | 3, _ => rfl
  | 4, _ => rfl
  | j + 5, hj => omega
theorem five_at {W : World} {b : Nat} {t : TypeId} {n1 c1 r1 n2 c2 : Nat} (h : NumsAt W b 5 t (twF n1 c1 r1 n2 c2)) : W.cell? ⟨b, 0, none⟩ = some (.int .i64 n1) ∧ W.cell? ⟨b, 1, none⟩ = some (.int .i64 c1) ∧ W.cell? ⟨b, 2, none⟩ = some (.int .i64 r1) ∧ W.cell? ⟨b, 3, none⟩ = some (.int .i64 n2) ∧ W.cell? ⟨b, 4, none⟩ = some (.int .i64 c2) ∧ W.frozen? ⟨b, 0, none⟩ = false ∧ W.frozen? ⟨b, 1, none⟩ = false ∧ W.frozen? ⟨b, 2, none⟩ = false ∧ W.frozen? ⟨b, 3, none⟩ = false ∧ W.frozen? ⟨b, 4, none⟩ = false :=
  ⟨(h.cell (j := 0) (by omega)).1, (h.cell (j := 1) (by omega)).1, (h.cell (j := 2) (by omega)).1, (h.cell (j := 3) (by omega)).1, (h.cell (j := 4) (by omega)).1, (h.cell (j := 0) (by omega)).2, (h.cell (j := 1) (by omega)).2, (h.cell (j := 2) (by omega)).2, (h.cell (j := 3) (by omega)).2, (h.cell (j := 4) (by omega)).2⟩
set_option maxHeartbeats 2000000 in
set_option maxRecDepth 100000 in
theorem readDouble_any {N n1 c1 r1 n2 c2 : Nat} (h1 : 1 ≤ N) (h36 : N ≤ 36) (hok : TwOk N n1 c1 r1 n2 c2) (w : World) :
    Calls Try.prog 57 #[.int .i64 N, twV n1 c1 r1 n2 c2] w fun e w' => ∃ b, e = .returned (.tuple #[.pointer (some ⟨b, 0, none⟩), twV n1 c1 r1 n2 c2, .bool true]) ∧ Below w.heap.size w w' ∧ Pieces w' b N := by
  have hr := fun w => readLot_any h1 h36 w
  have q71 := fun w => isFor_any (N := (N : Int)) (n1 := n1) (c1 := c1) (r1 := r1) (n2 := n2) (c2 := c2) ⟨by omega, by omega⟩ w
  rw [decide_eq_true hok] at q71
  have f3 := five_new w 37 n1 c1 r1 n2 c2
  obtain ⟨wa, hwa⟩ : ∃ wa, w.alloc (.cells #[.int .i64 n1, .int .i64 c1, .int .i64 r1, .int .i64 n2, .int .i64 c2] 37) = wa := ⟨_, rfl⟩
  obtain ⟨wb, hwb⟩ : ∃ wb, wa.alloc (.cells #[.int .i64 0, .int .i64 0, .int .i64 0, .int .i64 0, .int .i64 0] 102) = wb := ⟨_, rfl⟩
  rw [hwa] at f3
  have sa : wa.heap.size = w.heap.size + 1 := by rw [← hwa]; simp
  have ba : Below w.heap.size w wa := by rw [← hwa]; exact (Below.refl _ _).alloc (Nat.le_refl _) _
  have bb : Below wa.heap.size wa wb := by rw [← hwb]; exact (Below.refl _ _).alloc (Nat.le_refl _) _
  have f5 : NumsAt wb (w.heap.size + 1) 5 102 (twF 0 0 0 0 0) := by rw [← sa, ← hwb]; exact five_new wa 102 0 0 0 0 0
  have f3 := f3.below bb f3.lt
  have hl5 := f5.lt
  have bw := ba.trans (bb.mono (by omega))
  have hwab : (w.alloc (.cells #[.int .i64 n1, .int .i64 c1, .int .i64 r1, .int .i64 n2, .int .i64 c2] 37)).alloc (.cells #[.int .i64 0, .int .i64 0, .int .i64 0, .int .i64 0, .int .i64 0] 102) = wb := by rw [hwa, hwb]
  clear hwa hwb sa ba bb
  unfold twV at *
  go_enter Try.func57, Try.ntmps57
  go_wp2_with (first
    | (go_at_call 62; refine (hr _).mono ?_; rintro e w5 ⟨rfl, hb5, hP5⟩
       have f3 := f3.below hb5 f3.lt
       have f5 := f5.below hb5 f5.lt
       have bw := bw.trans (hb5.mono bw.size)
       obtain ⟨x0, x1, x2, x3, x4, _⟩ := five_at f3
       obtain ⟨w6, hw6⟩ : ∃ w6, w5.alloc (.cells #[.int .i64 n1, .int .i64 c1, .int .i64 r1, .int .i64 n2, .int .i64 c2] 102) = w6 := ⟨_, rfl⟩
       have b6 : Below w5.heap.size w5 w6 := by rw [← hw6]; exact (Below.refl _ _).alloc (Nat.le_refl _) _
       have f9 : NumsAt w6 w5.heap.size 5 102 (twF n1 c1 r1 n2 c2) := by rw [← hw6]; exact five_new w5 102 n1 c1 r1 n2 c2
       have f5 := f5.below b6 f5.lt
       have hP6 := hP5.below b6 hP5.lt
       have bw := bw.trans (b6.mono bw.size)
       obtain ⟨y0, y1, y2, y3, y4, z0, z1, z2, z3, z4⟩ := five_at f9
       clear hb5 b6 hr f3)
    | (go_at_call 71; (with_reducible refine (q71 _).mono ?_); rintro e w7 ⟨rfl, hb7⟩
       have f9 := f9.below hb7 f9.lt
       have f5 := f5.below hb7 f5.lt
       have hP7 := hP6.below hb7 hP6.lt
       have bw := bw.trans (hb7.mono bw.size)
       obtain ⟨y0, y1, y2, y3, y4, z0, z1, z2, z3, z4⟩ := five_at f9
       obtain ⟨s0, s1, s2, s3, s4, u0, u1, u2, u3, u4⟩ := five_at f5
       clear hb7 q71))
  go_still_tail 3, (by kernel_rfl)
  change wpList _ _ _ _ _ (World.drew _)
  go_wp2
  refine bodyPost_ret (v := .tuple #[.pointer (some ⟨wb.heap.size, 0, none⟩), .agg #[.int .i64 n1, .int .i64 c1, .int .i64 r1, .int .i64 n2, .int .i64 c2], .bool true]) (by simp [results, Try.results57, go_sem]; try go_simp) rfl ?_
  have hne : wb.heap.size ≠ w.heap.size + 1 := by omega
  exact ⟨wb.heap.size, rfl, (((((bw.setCell (p := ⟨w.heap.size + 1, 0, none⟩) (show w.heap.size ≤ w.heap.size + 1 by omega) _).setCell (p := ⟨w.heap.size + 1, 1, none⟩) (show w.heap.size ≤ w.heap.size + 1 by omega) _).setCell (p := ⟨w.heap.size + 1, 2, none⟩) (show w.heap.size ≤ w.heap.size + 1 by omega) _).setCell (p := ⟨w.heap.size + 1, 3, none⟩) (show w.heap.size ≤ w.heap.size + 1 by omega) _).setCell (p := ⟨w.heap.size + 1, 4, none⟩) (show w.heap.size ≤ w.heap.size + 1 by omega) _).drew, (((((hP7.same (Below.heap_setCell _ ⟨w.heap.size + 1, 0, none⟩ _ _ hne)).same (Below.heap_setCell _ ⟨w.heap.size + 1, 1, none⟩ _ _ hne)).same (Below.heap_setCell _ ⟨w.heap.size + 1, 2, none⟩ _ _ hne)).same (Below.heap_setCell _ ⟨w.heap.size + 1, 3, none⟩ _ _ hne)).same (Below.heap_setCell _ ⟨w.heap.size + 1, 4, none⟩ _ _ hne)).drew⟩
end Go.Proofs.Ytbmfipjnfbnjgaa
set_option linter.unusedSimpArgs false
set_option linter.unusedVariables false
namespace Go.Proofs.Ytbmfipjnfbnjgaa
open Go Go.Proofs Go.RowKit Go.Sample Go.Seq
set_option maxHeartbeats 2000000 in
set_option maxRecDepth 100000 in
theorem merge_any {N n1 c1 r1 n2 c2 : Nat} (h1 : 1 ≤ N) (h36 : N ≤ 36) (hok : TwOk N n1 c1 r1 n2 c2) (w : World) :
    Calls Try.prog 26 #[.int .i64 N, twV n1 c1 r1 n2 c2] w fun e w' => ∃ x : Crs, e = .returned (.tuple #[x.val, .int .i64 0]) ∧ CrsIn w' x ∧ x.L = n1 + n2 ∧ x.A = mrgA n1 c1 c2 (n1 + n2) ∧ x.R = mrgR n1 r1 c2 (n1 + n2) ∧ Below w.heap.size w w' := by
  obtain ⟨k1, k2, k3, k4, k5, k6, k7, k8, k9, k10⟩ := id hok
  have q57 := fun w => readDouble_any h1 h36 hok w
  have q59 := fun w => mrgCourse_any (n1 := n1) (c1 := c1) (r1 := r1) (n2 := n2) (c2 := c2) (by omega) (by omega) (by omega) (by omega) (by omega) (by omega) w
  have f3 := five_new w 37 n1 c1 r1 n2 c2
  obtain ⟨wa, hwa⟩ : ∃ wa, w.alloc (.cells #[.int .i64 n1, .int .i64 c1, .int .i64 r1, .int .i64 n2, .int .i64 c2] 37) = wa := ⟨_, rfl⟩
  obtain ⟨wb, hwb⟩ : ∃ wb, wa.alloc (.cells #[.slice none 0 0, .slice none 0 0] 42) = wb := ⟨_, rfl⟩
  rw [hwa] at f3
  have sa : wa.heap.size = w.heap.size + 1 := by rw [← hwa]; simp
  have ba : Below w.heap.size w wa := by rw [← hwa]; exact (Below.refl _ _).alloc (Nat.le_refl _) _
  have bb : Below wa.heap.size wa wb := by rw [← hwb]; exact (Below.refl _ _).alloc (Nat.le_refl _) _
  have o4 : Own2 wb (w.heap.size + 1) (.slice none 0 0) (.slice none 0 0) := by rw [← sa, ← hwb]; exact Own2.new _ _ _ _
  have f3 := f3.below bb f3.lt
  have bw := ba.trans (bb.mono (by omega))
  have hwab : (w.alloc (.cells #[.int .i64 n1, .int .i64 c1, .int .i64 r1, .int .i64 n2, .int .i64 c2] 37)).alloc (.cells #[.slice none 0 0, .slice none 0 0] 42) = wb := by rw [hwa, hwb]
  clear hwa hwb sa ba bb k1 k2 k3 k4 k5 k6 k7 k8 k9 k10
  obtain ⟨x0, x1, x2, x3, x4, _⟩ := five_at f3
  unfold twV at *
  go_enter Try.func26, Try.ntmps26
  go_wp2_with (first
    | (go_at_call 57; (with_reducible refine (q57 _).mono ?_); rintro e w5 ⟨b, rfl, hb5, hP5⟩
       have o4 := o4.after hb5
       have bw := bw.trans (hb5.mono bw.size)
       obtain ⟨w6, hw6⟩ : ∃ w6, w5.alloc (.cells #[.int .i64 n1, .int .i64 c1, .int .i64 r1, .int .i64 n2, .int .i64 c2] 102) = w6 := ⟨_, rfl⟩
       have b6 : Below w5.heap.size w5 w6 := by rw [← hw6]; exact (Below.refl _ _).alloc (Nat.le_refl _) _
       have f7 : NumsAt w6 w5.heap.size 5 102 (twF n1 c1 r1 n2 c2) := by rw [← hw6]; exact five_new w5 102 n1 c1 r1 n2 c2
       have o4 := o4.after b6
       have bw := bw.trans (b6.mono bw.size)
       obtain ⟨y0, y1, y2, y3, y4, z0, z1, z2, z3, z4⟩ := five_at f7
       clear hb5 b6 q57 f3 hP5)
    | (go_at_call 59; (with_reducible refine (q59 _).mono ?_); rintro e w7 ⟨x, rfl, hx, xL, xA, xR, hb7, xg1, xg2⟩
       have l4 := o4.lt
       have hga : Keep (x.ga ≠ w.heap.size + 1 ∧ x.gr ≠ w.heap.size + 1) := ⟨by omega⟩
       have o4 := o4.after hb7
       have bw := bw.trans (hb7.mono bw.size)
       obtain ⟨s0, s1, s2, s3⟩ := id o4
       unfold Crs.val Crs.sa Crs.sr
       have xk := Keep.mk (And.intro xL (And.intro xA xR))
       clear hb7 q59 xL xA xR xg1 xg2))
  refine bodyPost_ret (v := .tuple #[x.val, .int .i64 0]) (by unfold Crs.val Crs.sa Crs.sr; simp [results, Try.results26, go_sem]; try go_simp) rfl ?_
  have e1 := fun (W : World) (g : Nat) (h : g ≠ w.heap.size + 1) (u u' : Value) => (Below.heap_setCell (W.setCell ⟨w.heap.size + 1, 0, none⟩ u) ⟨w.heap.size + 1, 1, none⟩ u' g h).trans (Below.heap_setCell W ⟨w.heap.size + 1, 0, none⟩ u g h)
  refine ⟨x, rfl, ⟨fun k hk => (World.cell?_of_block (a := ⟨x.ga, x.oa + k, none⟩) (e1 _ _ hga.out.1 _ _)).trans (hx.las k hk), fun k hk => (World.cell?_of_block (a := ⟨x.gr, x.ro + k, none⟩) (e1 _ _ hga.out.2 _ _)).trans (hx.lrs k hk)⟩, xk.out.1, xk.out.2.1, xk.out.2.2, (bw.setCell (p := ⟨w.heap.size + 1, 0, none⟩) (by simp) _).setCell (p := ⟨w.heap.size + 1, 1, none⟩) (by simp) _⟩
end Go.Proofs.Ytbmfipjnfbnjgaa
set_option linter.unusedSimpArgs false
set_option linter.unusedVariables false
namespace Go.Proofs.Ytbmfipjnfbnjgaa
open Go Go.Proofs Go.RowKit Go.Sample Go.Seq
/-- Two results that are stored one after the other. -/
structure DbC (w : World) (g6 g7 g12 g13 : Nat) (a b c d : Value) (x y : Bool) (W : World) : Prop where
  o6 : Own2 W g6 (if x = true then a else .int .i64 0) (if x = true then b else .int .i64 0)
  o7 : Own2 W g7 (if y = true then c else .int .i64 0) (if y = true then d else .int .i64 0)
  o12 : Own2 W g12 a b
  o13 : Own2 W g13 c d
  bw : Below w.heap.size w W
  ne : g6 ≠ g7 ∧ g6 ≠ g12 ∧ g6 ≠ g13 ∧ g7 ≠ g12 ∧ g7 ≠ g13 ∧ w.heap.size ≤ g6 ∧ w.heap.size ≤ g7
section
variable {w W : World} {g6 g7 g12 g13 : Nat} {a b c d : Value} {x y : Bool}
theorem DbC.drew (h : DbC w g6 g7 g12 g13 a b c d x y W) : DbC w g6 g7 g12 g13 a b c d x y W.drew :=
  ⟨⟨h.o6.c0, h.o6.c1, h.o6.f0, h.o6.f1⟩, ⟨h.o7.c0, h.o7.c1, h.o7.f0, h.o7.f1⟩, ⟨h.o12.c0, h.o12.c1, h.o12.f0, h.o12.f1⟩, ⟨h.o13.c0, h.o13.c1, h.o13.f0, h.o13.f1⟩, h.bw.drew, h.ne⟩
theorem DbC.set6 (h : DbC w g6 g7 g12 g13 a b c d false y W) : DbC w g6 g7 g12 g13 a b c d true y ((W.setCell ⟨g6, 0, none⟩ a).setCell ⟨g6, 1, none⟩ b) := by
  obtain ⟨e1, e2, e3, e4, e5, e6, e7⟩ := h.ne
  exact ⟨h.o6.set0.set1, (h.o7.other (Ne.symm e1)).other (Ne.symm e1), (h.o12.other (Ne.symm e2)).other (Ne.symm e2), (h.o13.other (Ne.symm e3)).other (Ne.symm e3), (h.bw.setCell (p := ⟨g6, 0, none⟩) e6 _).setCell (p := ⟨g6, 1, none⟩) e6 _, h.ne⟩
theorem DbC.set7 (h : DbC w g6 g7 g12 g13 a b c d x false W) : DbC w g6 g7 g12 g13 a b c d x true ((W.setCell ⟨g7, 0, none⟩ c).setCell ⟨g7, 1, none⟩ d) := by
  obtain ⟨e1, e2, e3, e4, e5, e6, e7⟩ := h.ne
  exact ⟨(h.o6.other e1).other e1, h.o7.set0.set1, (h.o12.other (Ne.symm e4)).other (Ne.symm e4), (h.o13.other (Ne.symm e5)).other (Ne.symm e5), (h.bw.setCell (p := ⟨g7, 0, none⟩) e7 _).setCell (p := ⟨g7, 1, none⟩) e7 _, h.ne⟩
end
set_option maxHeartbeats 2000000 in
set_option maxRecDepth 100000 in
theorem double_any {N d n1 c1 r1 n2 c2 : Nat} (h1 : 1 ≤ N) (h36 : N ≤ 36) (hd : d ≤ N) (hok : TwOk N n1 c1 r1 n2 c2) (w : World) :
    Calls Try.prog 25 #[.int .i64 N, .int .i64 d, twV n1 c1 r1 n2 c2] w fun e w' => e = .returned (.tuple #[redV (accAll N d (mrgA n1 c1 c2 (n1 + n2)) (mrgR n1 r1 c2 (n1 + n2)) (n1 + n2)) (ch N d), redV (exAll N d (mrgA n1 c1 c2 (n1 + n2)) (mrgR n1 r1 c2 (n1 + n2)) (n1 + n2)) (ch N d), .int .i64 0]) ∧ Below w.heap.size w w' := by
  have hmx : Try.prog.follows .mixedOrders = true := by kernel_rfl
  obtain ⟨k1, k2, k3, k4, k5, k6, k7, k8, k9, k10⟩ := id hok
  have q57 := fun w => readDouble_any h1 h36 hok w
  have q59 := fun w => mrgCourse_any (n1 := n1) (c1 := c1) (r1 := r1) (n2 := n2) (c2 := c2) (by omega) (by omega) (by omega) (by omega) (by omega) (by omega) w
  have q54 := fun W b (h : Pieces W b N) => has_any (z := (d : Int)) h ⟨by omega, by omega⟩
  simp only [show decide ((0 : Int) ≤ (d : Int) ∧ (d : Int) ≤ (N : Int)) = true from decide_eq_true (by omega)] at q54
  have hL1 : 1 ≤ n1 + n2 := by omega
  have hL2 : n1 + n2 ≤ N := by omega
  have q58 := fun (W : World) (b : Nat) (x : Crs) (hP : Pieces W b N) (hc : CrsIn W x) (e : x.L = n1 + n2) => outcome_any hP hd hc (by rw [e]; exact hL1) (by rw [e]; exact hL2)
  obtain ⟨A, hA⟩ : ∃ A, Keep (accAll N d (mrgA n1 c1 c2 (n1 + n2)) (mrgR n1 r1 c2 (n1 + n2)) (n1 + n2) = A) := ⟨_, ⟨rfl⟩⟩
  obtain ⟨M, hM⟩ : ∃ M, Keep (exAll N d (mrgA n1 c1 c2 (n1 + n2)) (mrgR n1 r1 c2 (n1 + n2)) (n1 + n2) = M) := ⟨_, ⟨rfl⟩⟩
  obtain ⟨X, hX⟩ : ∃ X, Keep (ch N d = X) := ⟨_, ⟨rfl⟩⟩
  rw [hA.out, hM.out, hX.out]
  have q58k := Keep.mk q58
  clear q58
  have f3 := five_new w 37 n1 c1 r1 n2 c2
  obtain ⟨wa, hwa⟩ : ∃ wa, w.alloc (.cells #[.int .i64 n1, .int .i64 c1, .int .i64 r1, .int .i64 n2, .int .i64 c2] 37) = wa := ⟨_, rfl⟩
  obtain ⟨wb, hwb⟩ : ∃ wb, wa.alloc (.cells #[.int .i64 0, .int .i64 0] 27) = wb := ⟨_, rfl⟩
  obtain ⟨wc, hwc⟩ : ∃ wc, wb.alloc (.cells #[.int .i64 0, .int .i64 0] 27) = wc := ⟨_, rfl⟩
  rw [hwa] at f3
  have sa : wa.heap.size = w.heap.size + 1 := by rw [← hwa]; simp
  have sb : wb.heap.size = w.heap.size + 1 + 1 := by rw [← hwb]; simp [sa]
  have ba : Below w.heap.size w wa := by rw [← hwa]; exact (Below.refl _ _).alloc (Nat.le_refl _) _
  have bb : Below wa.heap.size wa wb := by rw [← hwb]; exact (Below.refl _ _).alloc (Nat.le_refl _) _
  have bc : Below wb.heap.size wb wc := by rw [← hwc]; exact (Below.refl _ _).alloc (Nat.le_refl _) _
  have o6 : Own2 wc (w.heap.size + 1) (.int .i64 0) (.int .i64 0) := by
    have : Own2 wb (w.heap.size + 1) (.int .i64 0) (.int .i64 0) := by rw [← sa, ← hwb]; exact Own2.new _ _ _ _
    exact this.after bc
  have o7 : Own2 wc (w.heap.size + 1 + 1) (.int .i64 0) (.int .i64 0) := by rw [← sb, ← hwc]; exact Own2.new _ _ _ _
  have f3 := f3.below bb f3.lt
  have f3 := f3.below bc f3.lt
  have bw := (ba.trans (bb.mono (by omega))).trans (bc.mono (by omega))
  have hwab : ((w.alloc (.cells #[.int .i64 n1, .int .i64 c1, .int .i64 r1, .int .i64 n2, .int .i64 c2] 37)).alloc (.cells #[.int .i64 0, .int .i64 0] 27)).alloc (.cells #[.int .i64 0, .int .i64 0] 27) = wc := by rw [hwa, hwb, hwc]
  clear hwa hwb hwc sa sb ba bb bc k1 k2 k3 k4 k5 k6 k7 k8 k9 k10 hL1 hL2
  obtain ⟨x0, x1, x2, x3, x4, _⟩ := five_at f3
  unfold twV redV fracV at *
  go_enter Try.func25, Try.ntmps25
  go_wp2_with (first
    | (go_at_call 57; (with_reducible refine (q57 _).mono ?_); rintro e w5 ⟨b, rfl, hb5, hP5⟩
       have o6 := o6.after hb5
       have o7 := o7.after hb5
       have bw := bw.trans (hb5.mono bw.size)
       obtain ⟨w6, hw6⟩ : ∃ w6, w5.alloc (.cells #[.int .i64 n1, .int .i64 c1, .int .i64 r1, .int .i64 n2, .int .i64 c2] 102) = w6 := ⟨_, rfl⟩
       have b6 : Below w5.heap.size w5 w6 := by rw [← hw6]; exact (Below.refl _ _).alloc (Nat.le_refl _) _
       have f7 : NumsAt w6 w5.heap.size 5 102 (twF n1 c1 r1 n2 c2) := by rw [← hw6]; exact five_new w5 102 n1 c1 r1 n2 c2
       have o6 := o6.after b6
       have o7 := o7.after b6
       have hP6 := hP5.below b6 hP5.lt
       have bw := bw.trans (b6.mono bw.size)
       obtain ⟨y0, y1, y2, y3, y4, z0, z1, z2, z3, z4⟩ := five_at f7
       clear hb5 b6 q57 f3 hP5)
    | (go_at_call 54; refine (q54 _ _ hP6).mono ?_; rintro e w9 ⟨rfl, rfl⟩)
    | (go_at_call 59; (with_reducible refine (q59 _).mono ?_); rintro e w7 ⟨x, rfl, hx, xL, xA, xR, hb7, xg1, xg2⟩
       have o6 := o6.after hb7
       have o7 := o7.after hb7
       have hP7 := hP6.below hb7 hP6.lt
       have bw := bw.trans (hb7.mono bw.size)
       have q58 := q58k.out w7 b x hP7 hx xL
       rw [xL, xA, xR, hA.out, hM.out, hX.out] at q58
       clear hb7 q59 xL xA xR xg1 xg2 hx)
    | (go_at_call 58; refine q58.mono ?_; rintro e w8 ⟨rfl, hb8⟩
       have o6 := o6.after hb8
       have o7 := o7.after hb8
       have bw := bw.trans (hb8.mono bw.size)
       clear hb8 q58))
  obtain ⟨wd, hwd⟩ : ∃ wd, w8.alloc (.cells #[.int .i64 (rN A X : Nat), .int .i64 (rD A X : Nat)] 27) = wd := ⟨_, rfl⟩
  obtain ⟨we, hwe⟩ : ∃ we, wd.alloc (.cells #[.int .i64 (rN M X : Nat), .int .i64 (rD M X : Nat)] 27) = we := ⟨_, rfl⟩
  obtain ⟨g12, hg12⟩ : ∃ g12, w8.heap.size = g12 := ⟨_, rfl⟩
  have sd : wd.heap.size = g12 + 1 := by rw [← hwd, ← hg12]; simp
  have bd : Below w8.heap.size w8 wd := by rw [← hwd]; exact (Below.refl _ _).alloc (Nat.le_refl _) _
  have be : Below wd.heap.size wd we := by rw [← hwe]; exact (Below.refl _ _).alloc (Nat.le_refl _) _
  have l6 := o6.lt
  have l7 := o7.lt
  have p12 : Own2 wd g12 (.int .i64 (rN A X : Nat)) (.int .i64 (rD A X : Nat)) := by rw [← hg12, ← hwd]; exact Own2.new _ _ _ _
  have p13 : Own2 we (g12 + 1) (.int .i64 (rN M X : Nat)) (.int .i64 (rD M X : Nat)) := by rw [← sd, ← hwe]; exact Own2.new _ _ _ _
  have hC0 : DbC w (w.heap.size + 1) (w.heap.size + 1 + 1) g12 (g12 + 1) (.int .i64 (rN A X : Nat)) (.int .i64 (rD A X : Nat)) (.int .i64 (rN M X : Nat)) (.int .i64 (rD M X : Nat)) false false we :=
    ⟨by simpa using (o6.after bd).after be, by simpa using (o7.after bd).after be, p12.after be, p13, (bw.trans (bd.mono bw.size)).trans (be.mono (bw.trans (bd.mono bw.size)).size), by omega⟩
  rw [hwd, hwe]
  try rw [hg12]
  clear hwd hwe hg12 sd bd be l6 l7 p12 p13 o6 o7 bw
  refine (wpIn_wide (n := 0)).1 ?_
  refine Many.region_many (fun s W => DbC w (w.heap.size + 1) (w.heap.size + 1 + 1) g12 (g12 + 1) (.int .i64 (rN A X : Nat)) (.int .i64 (rD A X : Nat)) (.int .i64 (rN M X : Nat)) (.int .i64 (rD M X : Nat)) (s 2) (s 3) W) hmx (by kernel_rfl) (fun s s' W' h hc => by rw [← h 2, ← h 3]; exact hc) (fun s hs => by rw [hs 2 (by decide), hs 3 (by decide)]; exact hC0.drew) ?_
  refine Many.lex_want (by rfl) (Many.tr_read (v := .agg #[.int .i64 (rN A X : Nat), .int .i64 (rD A X : Nat)]) (fun W => ∃ x y, DbC w (w.heap.size + 1) (w.heap.size + 1 + 1) g12 (g12 + 1) (.int .i64 (rN A X : Nat)) (.int .i64 (rD A X : Nat)) (.int .i64 (rN M X : Nat)) (.int .i64 (rD M X : Nat)) x y W) (fun s W h => ⟨_, _, h⟩) (fun s W h => by simpa [Many.upd] using h) (fun W hC => by (obtain ⟨x, y, hC⟩ := hC; obtain ⟨x0, x1, x2, x3⟩ := hC.o12; obtain ⟨y0, y1, y2, y3⟩ := hC.o13; clear hC; go_simp; try rfl))) ?_
  simp only [Act.put, List.setIfInBounds_toArray, List.set_cons_succ, List.set_cons_zero, Nat.reduceAdd]
  refine Many.lex_want (by rfl) (Many.tr_read (v := .agg #[.int .i64 (rN M X : Nat), .int .i64 (rD M X : Nat)]) (fun W => ∃ x y, DbC w (w.heap.size + 1) (w.heap.size + 1 + 1) g12 (g12 + 1) (.int .i64 (rN A X : Nat)) (.int .i64 (rD A X : Nat)) (.int .i64 (rN M X : Nat)) (.int .i64 (rD M X : Nat)) x y W) (fun s W h => ⟨_, _, h⟩) (fun s W h => by simpa [Many.upd] using h) (fun W hC => by (obtain ⟨x, y, hC⟩ := hC; obtain ⟨x0, x1, x2, x3⟩ := hC.o12; obtain ⟨y0, y1, y2, y3⟩ := hC.o13; clear hC; go_simp; try rfl))) ?_
  simp only [Act.put, List.setIfInBounds_toArray, List.set_cons_succ, List.set_cons_zero, Nat.reduceAdd]
  refine Many.lex_want (by rfl) (Many.tr_step (v := undef) (fun s W hs hC => ?_)) ?_
  · rw [hs] at hC
    obtain ⟨x0, x1, x2, x3⟩ := hC.o6
    have hst := hC.set6
    clear hC
    simp only [Bool.false_eq_true, if_false] at x0 x1
    go_simp
    exact ⟨rfl, by simpa [Many.upd] using hst⟩
  simp only [Act.put, List.setIfInBounds_toArray, List.set_cons_succ, List.set_cons_zero, Nat.reduceAdd]
  refine Many.lex_want (by rfl) (Many.tr_step (v := undef) (fun s W hs hC => ?_)) ?_
  · rw [hs] at hC
    obtain ⟨x0, x1, x2, x3⟩ := hC.o7
    have hst := hC.set7
    clear hC
    simp only [Bool.false_eq_true, if_false] at x0 x1
    go_simp
    exact ⟨rfl, by simpa [Many.upd] using hst⟩
  simp only [Act.put, List.setIfInBounds_toArray, List.set_cons_succ, List.set_cons_zero, Nat.reduceAdd]
  refine Many.lex_want (by rfl) (Many.tr_read (v := .int .i64 0) (fun W => ∃ x y, DbC w (w.heap.size + 1) (w.heap.size + 1 + 1) g12 (g12 + 1) (.int .i64 (rN A X : Nat)) (.int .i64 (rD A X : Nat)) (.int .i64 (rN M X : Nat)) (.int .i64 (rD M X : Nat)) x y W) (fun s W h => ⟨_, _, h⟩) (fun s W h => by simpa [Many.upd] using h) (fun W hC => by (obtain ⟨x, y, hC⟩ := hC; obtain ⟨x0, x1, x2, x3⟩ := hC.o12; obtain ⟨y0, y1, y2, y3⟩ := hC.o13; clear hC; go_simp; try rfl))) ?_
  simp only [Act.put, List.setIfInBounds_toArray, List.set_cons_succ, List.set_cons_zero, Nat.reduceAdd]
  refine Many.lex_nil fun s W9 hs hC9 => ?_
  rw [hs 2 (by decide), hs 3 (by decide)] at hC9
  obtain ⟨x0, x1, _, _⟩ := hC9.o6
  obtain ⟨y0, y1, _, _⟩ := hC9.o7
  simp only [if_true] at x0 x1 y0 y1
  go_wp2
  refine bodyPost_ret (v := .tuple #[.agg #[.int .i64 (rN A X : Nat), .int .i64 (rD A X : Nat)], .agg #[.int .i64 (rN M X : Nat), .int .i64 (rD M X : Nat)], .int .i64 0]) (by simp [results, Try.results25, go_sem]; try go_simp) rfl ?_
  exact ⟨rfl, hC9.bw⟩
end Go.Proofs.Ytbmfipjnfbnjgaa
set_option linter.unusedSimpArgs false
set_option linter.unusedVariables false
namespace Go.Proofs.Ytbmfipjnfbnjgaa
open Go Go.Proofs Go.RowKit Go.Sample Go.Seq
set_option maxHeartbeats 2000000 in
set_option maxRecDepth 100000 in
theorem mkDouble (a0 a1 a2 a3 a4 a5 : Int) : ∃ N n1 c1 r1 n2 c2 : Nat, (1 ≤ N ∧ N ≤ 36 ∧ TwOk N n1 c1 r1 n2 c2) ∧ ∀ w, Calls Try.prog 51 #[.agg #[.int .i64 a0, .int .i64 a1, .int .i64 a2, .int .i64 a3, .int .i64 a4, .int .i64 a5]] w fun e w' => e = .returned (.tuple #[.int .i64 N, twV n1 c1 r1 n2 c2]) ∧ Below w.heap.size w w' := by
  have m0 := modN_lt a0 (m := 35) (by omega)
  have q0 : ∀ w, Calls Try.prog 48 #[.int .i64 a0, .int .i64 35] w fun e w' => e = .returned (.int .i64 (modN a0 35 : Nat)) ∧ w' = w := fun w => mod_any a0 (m := 35) (by omega) (by omega) w
  generalize modN a0 35 = z0 at *
  obtain ⟨N, hN⟩ : ∃ N : Nat, N = 2 + z0 := ⟨_, rfl⟩
  obtain ⟨k1, hk1⟩ : ∃ k : Nat, k = N - 1 := ⟨_, rfl⟩
  have m1 := modN_lt a1 (m := k1) (by omega)
  have q1 := fun w => mod_any a1 (m := k1) (by omega) (by omega) w
  generalize modN a1 k1 = z1 at *
  obtain ⟨n1, hn1⟩ : ∃ n : Nat, n = 1 + z1 := ⟨_, rfl⟩
  obtain ⟨k2, hk2⟩ : ∃ k : Nat, k = N - n1 := ⟨_, rfl⟩
  have m2 := modN_lt a2 (m := k2) (by omega)
  have q2 := fun w => mod_any a2 (m := k2) (by omega) (by omega) w
  generalize modN a2 k2 = z2 at *
  obtain ⟨n2, hn2⟩ : ∃ n : Nat, n = 1 + z2 := ⟨_, rfl⟩
  have m3 := modN_lt a3 (m := n1) (by omega)
  have q3 := fun w => mod_any a3 (m := n1) (by omega) (by omega) w
  generalize modN a3 n1 = c1 at *
  obtain ⟨p, hp⟩ : ∃ p : Nat, p = c1 + 2 := ⟨_, rfl⟩
  obtain ⟨k3, hk3⟩ : ∃ k : Nat, k = n1 - c1 := ⟨_, rfl⟩
  have m4 := modN_lt a4 (m := k3) (by omega)
  have q4 := fun w => mod_any a4 (m := k3) (by omega) (by omega) w
  generalize modN a4 k3 = z4 at *
  obtain ⟨r1, hr1⟩ : ∃ r : Nat, r = p + z4 := ⟨_, rfl⟩
  obtain ⟨u, hu⟩ : ∃ u : Nat, u = r1 - 1 := ⟨_, rfl⟩
  obtain ⟨L, hL⟩ : ∃ L : Nat, L = n1 + n2 := ⟨_, rfl⟩
  obtain ⟨v, hv⟩ : ∃ v : Nat, v = L - r1 := ⟨_, rfl⟩
  obtain ⟨k4, hk4⟩ : ∃ k : Nat, k = v + 1 := ⟨_, rfl⟩
  have m5 := modN_lt a5 (m := k4) (by omega)
  have q5 := fun w => mod_any a5 (m := k4) (by omega) (by omega) w
  generalize modN a5 k4 = z5 at *
  obtain ⟨c2, hc2⟩ : ∃ c : Nat, c = u + z5 := ⟨_, rfl⟩
  refine ⟨N, n1, c1, r1, n2, c2, ⟨by omega, by omega, by unfold TwOk; omega⟩, fun w => ?_⟩
  have w1 : IntKind.i64.wrap (2 + (z0 : Int)) = (N : Int) := by rw [IntWalk.i64_in _ (by omega)]; omega
  have w2 : IntKind.i64.wrap ((N : Int) - 1) = (k1 : Int) := by rw [IntWalk.i64_in _ (by omega)]; omega
  have w3 : IntKind.i64.wrap (1 + (z1 : Int)) = (n1 : Int) := by rw [IntWalk.i64_in _ (by omega)]; omega
  have w4 : IntKind.i64.wrap ((N : Int) - (n1 : Int)) = (k2 : Int) := by rw [IntWalk.i64_in _ (by omega)]; omega
  have w5 : IntKind.i64.wrap (1 + (z2 : Int)) = (n2 : Int) := by rw [IntWalk.i64_in _ (by omega)]; omega
  have w6 : IntKind.i64.wrap ((c1 : Int) + 2) = (p : Int) := by rw [IntWalk.i64_in _ (by omega)]; omega
  have w7 : IntKind.i64.wrap ((n1 : Int) - (c1 : Int)) = (k3 : Int) := by rw [IntWalk.i64_in _ (by omega)]; omega
  have w8 : IntKind.i64.wrap ((p : Int) + (z4 : Int)) = (r1 : Int) := by rw [IntWalk.i64_in _ (by omega)]; omega
  have w9 : IntKind.i64.wrap ((r1 : Int) - 1) = (u : Int) := by rw [IntWalk.i64_in _ (by omega)]; omega
  have w10 : IntKind.i64.wrap ((n1 : Int) + (n2 : Int)) = (L : Int) := by rw [IntWalk.i64_in _ (by omega)]; omega
  have w11 : IntKind.i64.wrap ((L : Int) - (r1 : Int)) = (v : Int) := by rw [IntWalk.i64_in _ (by omega)]; omega
  have w12 : IntKind.i64.wrap ((v : Int) + 1) = (k4 : Int) := by rw [IntWalk.i64_in _ (by omega)]; omega
  have w13 : IntKind.i64.wrap ((u : Int) + (z5 : Int)) = (c2 : Int) := by rw [IntWalk.i64_in _ (by omega)]; omega
  clear m0 m1 m2 m3 m4 m5 hN hk1 hn1 hk2 hn2 hp hk3 hr1 hu hL hv hk4 hc2
  unfold twV
  go_enter Try.func51, Try.ntmps51
  go_wp2_with (first
    | (go_at_call 48; (with_reducible refine (q0 _).mono ?_); rintro e v1 ⟨rfl, rfl⟩)
    | (go_at_call 48; (with_reducible refine (q1 _).mono ?_); rintro e v2 ⟨rfl, rfl⟩)
    | (go_at_call 48; (with_reducible refine (q2 _).mono ?_); rintro e v3 ⟨rfl, rfl⟩)
    | (go_at_call 48; (with_reducible refine (q3 _).mono ?_); rintro e v4 ⟨rfl, rfl⟩)
    | (go_at_call 48; (with_reducible refine (q4 _).mono ?_); rintro e v5 ⟨rfl, rfl⟩)
    | (go_at_call 48; (with_reducible refine (q5 _).mono ?_); rintro e v6 ⟨rfl, rfl⟩))
  all_goals refine bodyPost_ret (v := .tuple #[.int .i64 N, .agg #[.int .i64 n1, .int .i64 c1, .int .i64 r1, .int .i64 n2, .int .i64 c2]]) (by simp [results, Try.results51, go_sem]; try go_simp) rfl ?_
  all_goals refine ⟨rfl, ?_⟩
  all_goals exact ((Below.refl _ _).alloc (Nat.le_refl _) _).alloc (by simp) _
end Go.Proofs.Ytbmfipjnfbnjgaa
set_option linter.unusedSimpArgs false
set_option linter.unusedVariables false
namespace Go.Proofs.Ytbmfipjnfbnjgaa
open Go Go.Proofs Go.RowKit Go.Sample Go.Seq
set_option maxHeartbeats 2000000 in
set_option maxRecDepth 100000 in
theorem merged_any (a0 a1 a2 a3 a4 a5 bad : Int) (w : World) : Calls Try.prog 12 #[.agg #[.int .i64 a0, .int .i64 a1, .int .i64 a2, .int .i64 a3, .int .i64 a4, .int .i64 a5], .int .i64 bad] w fun e w' => e = .returned (.bool true) ∧ Below w.heap.size w w' := by
  obtain ⟨N, n1, c1, r1, n2, c2, ⟨h1, h36, hok⟩, hmk⟩ := mkDouble a0 a1 a2 a3 a4 a5
  obtain ⟨k1, k2, k3, k4, k5, k6, k7, k8, k9, k10⟩ := id hok
  have g1 : 1 ≤ n1 := by omega
  have g2 : 1 ≤ n2 := by omega
  have gL : n1 + n2 ≤ N := by omega
  have hd := modN_lt bad (m := N + 1) (by omega)
  have q48 := fun w => mod_any bad (m := N + 1) (by omega) (by omega) w
  obtain ⟨d, hdd⟩ : ∃ d, Keep (modN bad (N + 1) = d) := ⟨_, ⟨rfl⟩⟩
  simp only [hdd.out, Int.natCast_add, Int.cast_ofNat_Int] at q48
  rw [hdd.out] at hd
  have hdN : d ≤ N := by omega
  have q26 := fun w => merge_any h1 h36 hok w
  have q25 := fun w => double_any h1 h36 hdN hok w
  have hcok : ∀ ga oa ca gr ro cr, CrsOk (⟨ga, oa, ca, gr, ro, cr, n1 + n2, mrgA n1 c1 c2 (n1 + n2), mrgR n1 r1 c2 (n1 + n2)⟩ : Crs) N := fun ga oa ca gr ro cr => mrg_ok g1 g2 gL (by omega) (by omega) (by omega)
  have q33 := fun (W : World) (x : Crs) (hc : CrsIn W x) (hok : CrsOk x N) => course_any h1 h36 hdN hc hok
  have m1 := mrg_acc (c1 := c1) (r1 := r1) (c2 := c2) h36 hdN g2 gL
  have m2 := mrg_le (c1 := c1) (r1 := r1) (c2 := c2) h36 hdN g2 gL
  have m3 := mrg_ge (c1 := c1) (r1 := r1) (c2 := c2) h36 hdN g2 gL
  have p1 := ch_pos hdN
  have p2 := ch_le h36 d
  obtain ⟨A, hA⟩ : ∃ A, Keep (accAll N d (mrgA n1 c1 c2 (n1 + n2)) (mrgR n1 r1 c2 (n1 + n2)) (n1 + n2) = A) := ⟨_, ⟨rfl⟩⟩
  obtain ⟨M, hM⟩ : ∃ M, Keep (exAll N d (mrgA n1 c1 c2 (n1 + n2)) (mrgR n1 r1 c2 (n1 + n2)) (n1 + n2) = M) := ⟨_, ⟨rfl⟩⟩
  obtain ⟨X, hX⟩ : ∃ X, Keep (ch N d = X) := ⟨_, ⟨rfl⟩⟩
  simp only [hA.out, hM.out, hX.out] at q25
  rw [hA.out, hX.out] at m1
  rw [hM.out, hX.out] at m2 m3
  rw [hX.out] at p1 p2
  have hLX : (n1 + n2) * X ≤ 36 * 9075135300 := Nat.mul_le_mul (by omega) p2
  have v1 := fun w => valid_any (a := A) (b := X) (by omega) (by omega) p1 w
  have v2 := fun w => valid_any (a := M) (b := X) (by omega) (by omega) p1 w
  obtain ⟨y1, y2⟩ := red_le M X
  have hm := red_mul (a := M) p1
  have s46 := fun w => refLess_any (a := rN M X) (b := rD M X) (c := n1) (d := 1) (by omega) (by omega) (by omega) (by omega) hm.2.2.2 (by omega) w
  have t46 := fun w => refLess_any (a := n1 + n2) (b := 1) (c := rN M X) (d := rD M X) (by omega) (by omega) (by omega) (by omega) (by omega) hm.2.2.2 w
  rw [decide_eq_false (by rw [red_less_left (p := n1) (q := 1) p1]; omega)] at s46
  rw [decide_eq_false (by rw [red_less_right p1]; omega)] at t46
  have hle : ((rN A X : Nat) : Int) ≤ ((rD A X : Nat) : Int) := by have := red_cmp p1 m1; omega
  have e1 := fun w => eq27 (rN A X : Nat) (rD A X : Nat) (rN A X : Nat) (rD A X : Nat) w
  have e2 := fun w => eq27 (rN M X : Nat) (rD M X : Nat) (rN M X : Nat) (rD M X : Nat) w
  simp only [beq_self_eq_true, Bool.and_self] at e1 e2
  have wN : IntKind.i64.wrap ((N : Int) + 1) = (N : Int) + 1 := IntWalk.i64_in _ (by omega)
  have wL : IntKind.i64.wrap ((n1 : Int) + (n2 : Int)) = (n1 : Int) + (n2 : Int) := IntWalk.i64_in _ (by omega)
  simp only [Int.natCast_add, Int.cast_ofNat_Int] at s46 t46
  have q33k := Keep.mk q33
  have hcokk := Keep.mk hcok
  clear q33 hcok m1 m2 m3 p1 p2 hLX y1 y2 hm k1 k2 k3 k4 k5 k6 k7 k8 k9 k10 g1 g2 gL
  unfold twV redV fracV at *
  go_enter Try.func12, Try.ntmps12
  go_wp2_with (first
    | (go_at_call 51; (with_reducible refine (hmk _).mono ?_); rintro e w1 ⟨rfl, hb1⟩
       have bw : Below w.heap.size w w1 := ((Below.refl _ w).alloc (Nat.le_refl _) _).trans (hb1.mono (by simp))
       obtain ⟨w2, hw2⟩ : ∃ w2, w1.alloc (.cells #[.int .i64 n1, .int .i64 c1, .int .i64 r1, .int .i64 n2, .int .i64 c2] 37) = w2 := ⟨_, rfl⟩
       have b2 : Below w1.heap.size w1 w2 := by rw [← hw2]; exact (Below.refl _ _).alloc (Nat.le_refl _) _
       have f6 : NumsAt w2 w1.heap.size 5 37 (twF n1 c1 r1 n2 c2) := by rw [← hw2]; exact five_new w1 37 n1 c1 r1 n2 c2
       have bw := bw.trans (b2.mono bw.size)
       obtain ⟨f0, f1, f2, f3, f4, _⟩ := five_at f6
       clear hb1 b2 hmk)
    | (go_at_call 48; (with_reducible refine (q48 _).mono ?_); rintro e w9 ⟨rfl, rfl⟩)
    | (go_at_call 26; (with_reducible refine (q26 _).mono ?_); rintro e w3 ⟨⟨ga, oa, ca, gr, ro, cr, L', xA, xR⟩, rfl, hx, xL1, xA1, xR1, hb3⟩
       have xL2 : L' = n1 + n2 := xL1
       have xA2 : xA = mrgA n1 c1 c2 (n1 + n2) := xA1
       have xR2 : xR = mrgR n1 r1 c2 (n1 + n2) := xR1
       subst xL2 xA2 xR2
       have f6 := f6.below hb3 f6.lt
       have bw := bw.trans (hb3.mono bw.size)
       simp only [Crs.val, Crs.sa, Crs.sr]
       obtain ⟨w4, hw4⟩ : ∃ w4, w3.alloc (.cells #[.slice (some ⟨ga, oa, none⟩) (n1 + n2) ca, .slice (some ⟨gr, ro, none⟩) (n1 + n2) cr] 42) = w4 := ⟨_, rfl⟩
       have b4 : Below w3.heap.size w3 w4 := by rw [← hw4]; exact (Below.refl _ _).alloc (Nat.le_refl _) _
       have hX4 : XR w3.heap.size (⟨ga, oa, ca, gr, ro, cr, n1 + n2, mrgA n1 c1 c2 (n1 + n2), mrgR n1 r1 c2 (n1 + n2)⟩ : Crs) w4 := ⟨by rw [← hw4]; exact Own2.new _ _ _ _, hx.after b4⟩
       have f6 := f6.below b4 f6.lt
       have bw := bw.trans (b4.mono bw.size)
       obtain ⟨f0, f1, f2, f3, f4, _⟩ := five_at f6
       clear hb3 b4 q26 hx xL1 xA1 xR1)
    | (go_at_call 25; (with_reducible refine (q25 _).mono ?_); rintro e w5 ⟨rfl, hb5⟩
       have f6 := f6.below hb5 f6.lt
       have hX4 := hX4.after hb5
       have bw := bw.trans (hb5.mono bw.size)
       obtain ⟨wz, hwz⟩ : ∃ wz, w5.alloc (.cells #[.int .i64 (rN A X : Nat), .int .i64 (rD A X : Nat)] 27) = wz := ⟨_, rfl⟩
       obtain ⟨w6, hww6⟩ : ∃ w6, wz.alloc (.cells #[.int .i64 (rN M X : Nat), .int .i64 (rD M X : Nat)] 27) = w6 := ⟨_, rfl⟩
       have sz : wz.heap.size = w5.heap.size + 1 := by rw [← hwz]; simp
       have bz : Below w5.heap.size w5 wz := by rw [← hwz]; exact (Below.refl _ _).alloc (Nat.le_refl _) _
       have by_ : Below wz.heap.size wz w6 := by rw [← hww6]; exact (Below.refl _ _).alloc (Nat.le_refl _) _
       have r9 : Own2 w6 w5.heap.size (.int .i64 (rN A X : Nat)) (.int .i64 (rD A X : Nat)) := by
         have : Own2 wz w5.heap.size (.int .i64 (rN A X : Nat)) (.int .i64 (rD A X : Nat)) := by rw [← hwz]; exact Own2.new _ _ _ _
         exact this.after by_
       have r10 : Own2 w6 (w5.heap.size + 1) (.int .i64 (rN M X : Nat)) (.int .i64 (rD M X : Nat)) := by rw [← sz, ← hww6]; exact Own2.new _ _ _ _
       have hzzw6 : (w5.alloc (.cells #[.int .i64 (rN A X : Nat), .int .i64 (rD A X : Nat)] 27)).alloc (.cells #[.int .i64 (rN M X : Nat), .int .i64 (rD M X : Nat)] 27) = w6 := by rw [hwz, hww6]
       have bw := (bw.trans (bz.mono bw.size)).trans (by_.mono (bw.trans (bz.mono bw.size)).size)
       have f6 := (f6.below bz f6.lt)
       have f6 := (f6.below by_ f6.lt)
       have hX4 := (hX4.after bz).after by_
       have q33x := q33k.out w6 _ hX4.c (hcokk.out ga oa ca gr ro cr)
       simp only [Crs.val, Crs.sa, Crs.sr, hA.out, hM.out, hX.out, redV, fracV] at q33x
       obtain ⟨o0, o1, o2, o3⟩ := id hX4.o
       simp only [Crs.sa, Crs.sr] at o0 o1
       clear hb5 bz by_ sz hwz hww6 q25)
    | (go_at_call 33; (with_reducible refine q33x.mono ?_); rintro e w7 ⟨rfl, hb7⟩
       have f6 := f6.below hb7 f6.lt
       have r9 := r9.after hb7
       have r10 := r10.after hb7
       have bw := bw.trans (hb7.mono bw.size)
       obtain ⟨wz, hwz⟩ : ∃ wz, w7.alloc (.cells #[.int .i64 (rN A X : Nat), .int .i64 (rD A X : Nat)] 27) = wz := ⟨_, rfl⟩
       obtain ⟨w8, hww8⟩ : ∃ w8, wz.alloc (.cells #[.int .i64 (rN M X : Nat), .int .i64 (rD M X : Nat)] 27) = w8 := ⟨_, rfl⟩
       have sz : wz.heap.size = w7.heap.size + 1 := by rw [← hwz]; simp
       have bz : Below w7.heap.size w7 wz := by rw [← hwz]; exact (Below.refl _ _).alloc (Nat.le_refl _) _
       have by_ : Below wz.heap.size wz w8 := by rw [← hww8]; exact (Below.refl _ _).alloc (Nat.le_refl _) _
       have r12 : Own2 w8 w7.heap.size (.int .i64 (rN A X : Nat)) (.int .i64 (rD A X : Nat)) := by
         have : Own2 wz w7.heap.size (.int .i64 (rN A X : Nat)) (.int .i64 (rD A X : Nat)) := by rw [← hwz]; exact Own2.new _ _ _ _
         exact this.after by_
       have r13 : Own2 w8 (w7.heap.size + 1) (.int .i64 (rN M X : Nat)) (.int .i64 (rD M X : Nat)) := by rw [← sz, ← hww8]; exact Own2.new _ _ _ _
       have hzzw8 : (w7.alloc (.cells #[.int .i64 (rN A X : Nat), .int .i64 (rD A X : Nat)] 27)).alloc (.cells #[.int .i64 (rN M X : Nat), .int .i64 (rD M X : Nat)] 27) = w8 := by rw [hwz, hww8]
       have bw := (bw.trans (bz.mono bw.size)).trans (by_.mono (bw.trans (bz.mono bw.size)).size)
       have f6 := (f6.below bz f6.lt)
       have f6 := (f6.below by_ f6.lt)
       have r9 := (r9.after bz).after by_
       have r10 := (r10.after bz).after by_
       obtain ⟨x0, x1, x2, x3⟩ := id r9
       obtain ⟨y0, y1, y2, y3⟩ := id r10
       obtain ⟨z0, z1, z2, z3⟩ := id r12
       obtain ⟨u0, u1, u2, u3⟩ := id r13
       clear hb7 bz by_ sz hwz hww8 q33x)
    | (go_at_call 49; (with_reducible refine (v1 _).mono ?_); rintro e wa ⟨rfl, hba⟩
       have f6 := f6.below hba f6.lt
       have r9 := r9.after hba
       have r10 := r10.after hba
       have bw := bw.trans (hba.mono bw.size)
       obtain ⟨x0, x1, x2, x3⟩ := id r9
       obtain ⟨y0, y1, y2, y3⟩ := id r10
       clear hba v1)
    | (go_at_call 49; (with_reducible refine (v2 _).mono ?_); rintro e wb ⟨rfl, hbb⟩
       have f6 := f6.below hbb f6.lt
       have r9 := r9.after hbb
       have r10 := r10.after hbb
       have bw := bw.trans (hbb.mono bw.size)
       obtain ⟨x0, x1, x2, x3⟩ := id r9
       obtain ⟨y0, y1, y2, y3⟩ := id r10
       obtain ⟨f0, f1, f2, f3, f4, _⟩ := five_at f6
       clear hbb v2)
    | (go_at_call 46; (with_reducible refine (s46 _).mono ?_); rintro e wc ⟨rfl, hbc⟩
       have f6 := f6.below hbc f6.lt
       have r10 := r10.after hbc
       have bw := bw.trans (hbc.mono bw.size)
       obtain ⟨y0, y1, y2, y3⟩ := id r10
       obtain ⟨f0, f1, f2, f3, f4, _⟩ := five_at f6
       clear hbc s46)
    | (go_at_call 46; (with_reducible refine (t46 _).mono ?_); rintro e wd ⟨rfl, hbd⟩
       have bw := bw.trans (hbd.mono bw.size)
       clear hbd t46)
    | (go_at_call 20; refine (awake_any _).mono ?_; rintro e we ⟨rfl, hbe⟩
       have bw := bw.trans (hbe.mono bw.size)
       clear hbe))
  go_ret
  exact ⟨rfl, bw⟩
end Go.Proofs.Ytbmfipjnfbnjgaa
set_option linter.unusedSimpArgs false
set_option linter.unusedVariables false
namespace Go.Proofs.Ytbmfipjnfbnjgaa
open Go Go.Proofs Go.RowKit Go.ChangeShapes Go.WideShapes Go.ChangeAt Go.Joins
theorem arr6 {cs : Array Value} (h : cs.size = 6) (hi : ∀ i, i < 6 → ∃ x : Int, cs[i]? = some (.int .i64 x)) : ∃ a b c d e f : Int, cs = #[.int .i64 a, .int .i64 b, .int .i64 c, .int .i64 d, .int .i64 e, .int .i64 f] := by
  obtain ⟨a, ha⟩ := hi 0 (by omega)
  obtain ⟨b, hb⟩ := hi 1 (by omega)
  obtain ⟨c, hc⟩ := hi 2 (by omega)
  obtain ⟨d, hd⟩ := hi 3 (by omega)
  obtain ⟨e, he⟩ := hi 4 (by omega)
  obtain ⟨f, hf⟩ := hi 5 (by omega)
  refine ⟨a, b, c, d, e, f, ?_⟩
  apply Array.ext_getElem?
  intro i
  match i with
  | 0 => simpa using ha
  | 1 => simpa using hb
  | 2 => simpa using hc
  | 3 => simpa using hd
  | 4 => simpa using he
  | 5 => simpa using hf
  | i + 6 => rw [Array.getElem?_eq_none (by omega)]; simp
set_option maxRecDepth 100000 in
theorem arg6 {W : World} {r : Reach} {b0 : Nat} {v : Value} (hval : Value.okWide Try.prog W r b0 81 v) : ∃ a b c d e f : Int, v = .agg #[.int .i64 a, .int .i64 b, .int .i64 c, .int .i64 d, .int .i64 e, .int .i64 f] := by
  obtain ⟨cs, rfl, h1, h2⟩ := arr_ints (n := 6) (m := 6) (k := 3) (by kernel_rfl) (by kernel_rfl) (by kernel_rfl) (by kernel_rfl) hval
  obtain ⟨a, b, c, d, e, f, rfl⟩ := arr6 h1 h2
  exact ⟨a, b, c, d, e, f, rfl⟩
end Go.Proofs.Ytbmfipjnfbnjgaa
