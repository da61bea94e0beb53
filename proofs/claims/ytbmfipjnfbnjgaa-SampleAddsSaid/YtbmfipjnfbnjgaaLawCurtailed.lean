import Derived.Test.YtbmfipjnfbnjgaaLawCurves
import Derived.Test.YtbmfipjnfbnjgaaCutMath
import Derived.Test.YtbmfipjnfbnjgaaCourseFn
set_option linter.unusedSimpArgs false
set_option linter.unusedVariables false
namespace Go.Proofs.Ytbmfipjnfbnjgaa
open Go Go.Proofs Go.RowKit Go.Sample Go.Seq
set_option maxHeartbeats 1000000 in
set_option maxRecDepth 100000 in
theorem fits_any {N : Nat} {c : Crs} {w : World} (h1 : 1 ≤ N) (h36 : N ≤ 36) (hc : CrsIn w c) (hok : CrsOk c N) :
    Calls Try.prog 32 #[.int .i64 N, c.val] w fun e w' => e = .returned (.int .i64 0) ∧ Below w.heap.size w w' := by
  have hr := fun w => readLot_any h1 h36 w
  have his := fun W b (h : Pieces W b N) (hc : CrsIn W c) => isCourse_yes h hc hok
  obtain ⟨w0, hw0⟩ : ∃ w0, w.alloc (.cells #[c.sa, c.sr] 42) = w0 := ⟨_, rfl⟩
  have hb0 : Below w.heap.size w w0 := by rw [← hw0]; exact (Below.refl _ _).alloc (Nat.le_refl _) _
  have hO : Own2 w0 w.heap.size c.sa c.sr := by rw [← hw0]; exact Own2.new _ _ _ _
  have hc0 := hc.after hb0
  unfold Crs.sa Crs.sr at hw0 hO
  unfold Crs.val Crs.sa Crs.sr at his
  unfold Crs.val Crs.sa Crs.sr
  go_enter Try.func32, Try.ntmps32
  go_wp2_with (first
    | (go_at_call 62; refine (hr _).mono ?_; rintro e w5 ⟨rfl, hb5, hP5⟩
       obtain ⟨o0, o1, o2, o3⟩ := hO.after hb5
       have hc5 := hc0.after hb5
       have hbw5 := hb0.trans (hb5.mono hb0.size)
       clear hb5 hr)
    | (go_at_call 63; refine (his _ _ hP5 hc5).mono ?_; rintro e w6 ⟨rfl, hb6⟩
       have hbw6 := hbw5.trans (hb6.mono hbw5.size)
       clear hb6))
  go_ret
  exact ⟨rfl, hbw6⟩
/-- A course in a variable at g, and its lists. -/
structure XR (g : Nat) (x : Crs) (W : World) : Prop where
  o : Own2 W g x.sa x.sr
  c : CrsIn W x
theorem XR.below {g B : Nat} {x : Crs} {W W' : World} (h : XR g x W) (hb : Below B W W') (h1 : g < B) (h2 : x.ga < B) (h3 : x.gr < B) : XR g x W' := ⟨h.o.below hb h1, h.c.below hb h2 h3⟩
theorem XR.after {g : Nat} {x : Crs} {W W' : World} (h : XR g x W) (hb : Below W.heap.size W W') : XR g x W' := ⟨h.o.after hb, h.c.after hb⟩
theorem XR.set {g g' i : Nat} {x : Crs} {W : World} (h : XR g x W) (h1 : g ≠ g') (h2 : x.ga ≠ g') (h3 : x.gr ≠ g') (u : Value) : XR g x (W.setCell ⟨g', i, none⟩ u) :=
  ⟨h.o.other h1, ⟨fun k hk => (World.cell?_of_block (a := ⟨x.ga, x.oa + k, none⟩) (Below.heap_setCell W ⟨g', i, none⟩ u x.ga h2)).trans (h.c.las k hk), fun k hk => (World.cell?_of_block (a := ⟨x.gr, x.ro + k, none⟩) (Below.heap_setCell W ⟨g', i, none⟩ u x.gr h3)).trans (h.c.lrs k hk)⟩⟩
theorem cur_fits {N n c ga oa ca gr ro cr : Nat} (hcn : c < n) (hnN : n ≤ N) : CrsOk ⟨ga, oa, ca, gr, ro, cr, n, curA n c, curR c⟩ N := by
  refine ⟨by show 1 ≤ n; omega, hnN, fun k hk => ?_, ?_⟩
  · have hk' : k < n := hk
    show -1 ≤ curA n c k ∧ curA n c k < curR c k ∧ curR c k ≤ ((n : Nat) : Int) + 1
    unfold curA curR; omega
  · show curR c (n - 1) = curA n c (n - 1) + 1
    unfold curA curR; omega
theorem late_fits {N n c ga oa ca gr ro cr : Nat} (hcn : c < n) (hnN : n ≤ N) : CrsOk ⟨ga, oa, ca, gr, ro, cr, n, lateA (n - 1) c, lateR (n - 1) c⟩ N := by
  refine ⟨by show 1 ≤ n; omega, hnN, fun k hk => ?_, ?_⟩
  · have hk' : k < n := hk
    show -1 ≤ lateA (n - 1) c k ∧ lateA (n - 1) c k < lateR (n - 1) c k ∧ lateR (n - 1) c k ≤ ((n : Nat) : Int) + 1
    unfold lateA lateR
    by_cases e : k = n - 1
    · rw [if_pos e, if_pos e]; omega
    · rw [if_neg e, if_neg e]; omega
  · show lateR (n - 1) c (n - 1) = lateA (n - 1) c (n - 1) + 1
    unfold lateA lateR
    rw [if_pos rfl, if_pos rfl]
theorem red_whole {n X : Nat} (hX : 1 ≤ X) : rN (n * X) X = n ∧ rD (n * X) X = 1 := by
  unfold rN rD
  rw [show Nat.gcd (n * X) X = X from Nat.gcd_mul_left_left n X]
  exact ⟨Nat.mul_div_cancel _ hX, Nat.div_self hX⟩
set_option maxHeartbeats 2000000 in
set_option maxRecDepth 100000 in
theorem curtailed_any (x y z bad : Int) (w : World) : Calls Try.prog 11 #[.agg #[.int .i64 x, .int .i64 y, .int .i64 z], .int .i64 bad] w fun e w' => e = .returned (.bool true) ∧ Below w.heap.size w w' := by
  obtain ⟨i0, hi, hz0, hz1, hz2⟩ := info_parts info3
  obtain ⟨N, n, c, ⟨h1, h36, hcn, hnN⟩, hmk⟩ := mkSingle x y z
  have hn : 1 ≤ n := by omega
  have hd := modN_lt bad (m := N + 1) (by omega)
  have q48 := fun w => mod_any bad (m := N + 1) (by omega) (by omega) w
  obtain ⟨d, hdd⟩ : ∃ d, Keep (modN bad (N + 1) = d) := ⟨_, ⟨rfl⟩⟩
  simp only [hdd.out, Int.natCast_add, Int.cast_ofNat_Int] at q48
  rw [hdd.out] at hd
  have hdN : d ≤ N := by omega
  have q42 := fun w => curtail_any h1 h36 hcn hnN w
  have q18 := fun w => single_any h1 h36 hcn hnN hdN w
  have hmean := cur_mean (c := c) h36 hdN hcn hnN
  have q33 := fun (W : World) (x : Crs) (hc : CrsIn W x) (hok : CrsOk x N) => course_any h1 h36 hdN hc hok
  have hacc : Keep (accAll N d (curA n c) (curR c) n = acc n (N - n) d (c + 1)) := ⟨cur_ok h36 hcn hnN⟩
  have hlacc : Keep (accAll N d (lateA (n - 1) c) (lateR (n - 1) c) n = acc n (N - n) d (c + 1)) := ⟨by
    have := late_ok (N := N) (d := d) (n := n - 1) (c := c) h36 (by omega) (by omega)
    rwa [show n - 1 + 1 = n by omega] at this⟩
  have hlmean : Keep (exAll N d (lateA (n - 1) c) (lateR (n - 1) c) n = n * ch N d) := ⟨by
    have := late_mean (N := N) (d := d) (n := n - 1) (c := c) h36 hdN (by omega) (by omega)
    rwa [show n - 1 + 1 = n by omega] at this⟩
  have p1 := ch_pos hdN
  have p2 := ch_le h36 d
  obtain ⟨M, hM⟩ : ∃ M, Keep (exAll N d (curA n c) (curR c) n = M) := ⟨_, ⟨rfl⟩⟩
  obtain ⟨X, hXk⟩ : ∃ X, Keep (ch N d = X) := ⟨_, ⟨rfl⟩⟩
  obtain ⟨A, hA⟩ : ∃ A, Keep (acc n (N - n) d (c + 1) = A) := ⟨_, ⟨rfl⟩⟩
  rw [hM.out, hXk.out] at hmean
  rw [hXk.out] at p1 p2
  simp only [hA.out, hXk.out] at q18
  have hnX : n * X ≤ 36 * 9075135300 := Nat.mul_le_mul (by omega) p2
  have q49 := fun w => valid_any (a := M) (b := X) (by omega) (by omega) p1 w
  have q46 := fun w => refLess_red (a := n * X) (b := X) (c := M) (d := X) (by omega) (by omega) (by omega) (by omega) p1 p1 (Nat.mul_le_mul_right _ hmean) w
  have hwhole := red_whole (n := n) p1
  have e1 := fun w => eq27 (rN A X : Nat) (rD A X : Nat) (rN A X : Nat) (rD A X : Nat) w
  have e2 := fun w => eq27 (n : Int) 1 (n : Int) 1 w
  simp only [beq_self_eq_true, Bool.and_self] at e1 e2
  have wN : IntKind.i64.wrap ((N : Int) + 1) = (N : Int) + 1 := IntWalk.i64_in _ (by omega)
  have wn : IntKind.i64.wrap ((n : Int) + 1) = (n : Int) + 1 := IntWalk.i64_in _ (by omega)
  have wc : IntKind.i64.wrap ((c : Int) + 1) = (c : Int) + 1 := IntWalk.i64_in _ (by omega)
  clear hmean hnX p1 p2
  unfold redV fracV at q18 q49 q46
  simp only [hwhole.1, hwhole.2, Int.cast_ofNat_Int] at q46
  have hwk := Keep.mk hwhole
  clear hwhole
  have q33k := Keep.mk q33
  clear q33
  go_enter Try.func11, Try.ntmps11
  go_wp2_with (first
    | (go_at_call 47; (with_reducible refine (hmk _).mono ?_); rintro e w1 ⟨rfl, hb1⟩
       have hbw1 : Below w.heap.size w w1 := ((Below.refl _ w).alloc (Nat.le_refl _) _).trans (hb1.mono (by simp))
       clear hb1 hmk)
    | (go_at_call 48; (with_reducible refine (q48 _).mono ?_); rintro e w9 ⟨rfl, rfl⟩)
    | (go_at_call 42; (with_reducible refine (q42 _).mono ?_); rintro e w2 ⟨⟨ga, oa, ca, gr, ro, cr, L, xA, xR⟩, rfl, hx, xL1, xA1, xR1, hb2⟩
       obtain rfl : n = L := Eq.symm xL1
       obtain rfl : curA n c = xA := Eq.symm xA1
       obtain rfl : curR c = xR := Eq.symm xR1
       clear xL1 xA1 xR1
       have hbw2 := hbw1.trans (hb2.mono hbw1.size)
       have hga : ga < w2.heap.size := cell_lt (hx.las 0 hn)
       have hgr : gr < w2.heap.size := cell_lt (hx.lrs 0 hn)
       simp only [Crs.val, Crs.sa, Crs.sr]
       obtain ⟨w3, hw3⟩ : ∃ w3, w2.alloc (.cells #[.slice (some ⟨ga, oa, none⟩) n ca, .slice (some ⟨gr, ro, none⟩) n cr] 42) = w3 := ⟨_, rfl⟩
       have hb3 : Below w2.heap.size w2 w3 := by rw [← hw3]; exact (Below.refl _ _).alloc (Nat.le_refl _) _
       have hX3 : XR w2.heap.size (⟨ga, oa, ca, gr, ro, cr, n, curA n c, curR c⟩ : Crs) w3 := ⟨by rw [← hw3]; exact Own2.new _ _ _ _, hx.after hb3⟩
       have hbw3 := hbw2.trans (hb3.mono hbw2.size)
       have hs3 : w3.heap.size = w2.heap.size + 1 := by rw [← hw3]; simp
       have hs3k := Keep.mk hs3
       have q32 := fits_any h1 h36 hX3.c (cur_fits hcn hnN)
       simp only [Crs.val, Crs.sa, Crs.sr] at q32
       obtain ⟨o0, o1, o2, o3⟩ := id hX3.o
       simp only [Crs.sa, Crs.sr] at o0 o1
       clear hb2 hb3 hx q42 hs3)
    | (go_at_call 32; (with_reducible refine q32.mono ?_); rintro e w4 ⟨rfl, hb4⟩
       have hX4 := hX3.after hb4
       have hbw4 := hbw3.trans (hb4.mono hbw3.size)
       have hs4 := Keep.mk hb4.size
       obtain ⟨o0, o1, o2, o3⟩ := id hX4.o
       simp only [Crs.sa, Crs.sr] at o0 o1
       clear hb4 q32))
  obtain ⟨w0, hw0⟩ : ∃ w0, w4.alloc (.cells #[.slice none 0 0, .slice none 0 0] 42) = w0 := ⟨_, rfl⟩
  obtain ⟨g8, hg8⟩ : ∃ g8, w2.heap.size = g8 := ⟨_, rfl⟩
  obtain ⟨g10, hg10⟩ : ∃ g10, w4.heap.size = g10 := ⟨_, rfl⟩
  obtain ⟨B, hB⟩ : ∃ B, w0.heap.size = B := ⟨_, rfl⟩
  have hs0 : w0.heap.size = w4.heap.size + 1 := by rw [← hw0]; simp
  have hb04 : Below w4.heap.size w4 w0 := by rw [← hw0]; exact (Below.refl _ _).alloc (Nat.le_refl _) _
  have hX0 := hX4.after hb04
  have hbw0 := hbw4.trans (hb04.mono hbw4.size)
  have hO0 : Own2 w0 g10 (.slice none 0 0) (.slice none 0 0) := by rw [← hw0, ← hg10]; exact Own2.new _ _ _ _
  have hbz4 := hbw4.size
  have hgs : Keep (g8 < B ∧ ga < B ∧ gr < B ∧ g8 ≠ g10 ∧ ga ≠ g10 ∧ gr ≠ g10 ∧ w.heap.size ≤ g10) := ⟨by have := hs3k.out; have := hs4.out; omega⟩
  have hmk : Keep (g10 < B) := ⟨by omega⟩
  try rw [hw0]
  rw [hg8] at hX0
  try rw [hg8]
  try rw [hg10]
  have hBk := Keep.mk hB
  clear hw0 hg8 hg10 hB hs0 hb04 hX4 hX3 hbw4 hbw3 hbw2 hbw1 hga hgr hbz4 o0 o1 o2 o3 hs3k hs4
  go_loopw [11] (fun i wr => ∃ k : Nat, k ≤ n ∧ i = .int .i64 ((k : Int) + 1) ∧ ∃ va vr, Two wr B k (lateA (n - 1) c) (lateR (n - 1) c) va vr ∧ Own2 wr g10 va vr ∧ XR g8 (⟨ga, oa, ca, gr, ro, cr, n, curA n c, curR c⟩ : Crs) wr ∧ Below w.heap.size w wr ∧ B ≤ wr.heap.size) (fun i _ => n + 1 - (intOf i).toNat)
  case atStart => exact ⟨0, by omega, rfl, _, _, Two.nil _ _ _ _, hO0, hX0, hbw0, by rw [hBk.out]; exact Nat.le_refl _⟩
  case round =>
    obtain ⟨k, hk, rfl, va, vr, ⟨ta, tr, tap⟩, ⟨o0, o1, o2, o3⟩, hX, hbw, hbz⟩ := hrel
    by_cases hlt : k < n
    · have w4 : IntKind.i64.wrap ((k : Int) + 1 + 1) = (k : Int) + 1 + 1 := IntWalk.i64_in _ (by omega)
      have hle : (k : Int) + 1 ≤ (n : Int) := by omega
      have tak := Keep.mk ta
      have trk := Keep.mk tr
      have tapk := Keep.mk tap
      have hbwk := Keep.mk hbw
      have hbzk := Keep.mk hbz
      clear ta tr tap hbw hbz
      have t1 : Keep True := ⟨trivial⟩
      have hgl : g10 < wr.heap.size := by have := hbzk.out; have := hmk.out; omega
      by_cases hm : (k : Int) + 1 = (n : Int)
      · have hxe : Keep (lateA (n - 1) c k = (c : Int)) := ⟨if_pos (by omega)⟩
        have hye : Keep (lateR (n - 1) c k = (c : Int) + 1) := ⟨if_pos (by omega)⟩
        go_wp2_with (first
          | (at_builtin; go_loud (
             clear t1
             refine wpList_append_own_at _ rfl _ _ 40 rfl B 3 i0 (.int .i64 0) 1 8 ty40 hi hz0 hz1 hz2 rfl (by decide) _ _ _ rfl (tak.out.alloc _) ⟨wr.heap.size, 0, none⟩ 1 1 [.int .i64 ((c : Int))] rfl rfl (cell_one_new _ _ _) (fun x hx => by simp at hx; subst hx; rfl) (by unfold maxLen; omega) (by omega) (by have := hbzk.out; simp; try omega) ?_
             intro v3 w3 hoa3 hgrow3 hnil3 hblk3
             have hb3 : Below B wr w3 := Below.grown ((Below.refl _ wr).alloc hbzk.out _) hgrow3 (by simp; have := hbzk.out; omega) (fun j hj => by have := (tak.out.lt _ hj).1; omega)
             obtain ⟨o0, o1, o2, o3⟩ := (⟨o0, o1, o2, o3⟩ : Own2 wr g10 va vr).below hb3 hmk.out
             have hX3 := hX.below hb3 hgs.out.1 hgs.out.2.1 hgs.out.2.2.1
             have hob3 := Keep.mk ((trk.out.alloc (.cells #[.int .i64 ((c : Int))] 3)).kept hgrow3 (apart_ne tapk.out))
             have hap3 := Keep.mk (apart_new tapk.out hblk3 (fun j hj => by have := (trk.out.lt _ hj).2; simp; omega))
             have hoa3' : w3.ownsRow B 3 1 v3 (k + 1) (rowL (lateA (n - 1) c) (k + 1)) := by rw [rowL_succ, hxe.out]; exact hoa3
             have hoa3k := Keep.mk hoa3'
             obtain ⟨g3, c3, rfl, _⟩ := row_parts (by omega) hoa3'
             have hbw3 := Keep.mk (hbwk.out.trans (hb3.mono (by have := hmk.out; have := hgs.out; omega)))
             have hbz3 := Keep.mk (Nat.le_trans hbzk.out hb3.size)
             have hgl3 : g10 < w3.heap.size := Nat.lt_of_lt_of_le hgl hb3.size
             have t2 : Keep True := ⟨trivial⟩
             clear hgrow3 hnil3 hblk3 hoa3 hoa3' hb3 tak tapk hX))
          | (at_builtin; go_loud (
             clear t2
             refine wpList_append_own_at _ rfl _ _ 40 rfl B 3 i0 (.int .i64 0) 1 8 ty40 hi hz0 hz1 hz2 rfl (by decide) _ _ _ rfl ((ownsRow_setCell_below hob3.out (a := ⟨g10, 0, none⟩) (by exact hmk.out) _).alloc _) ⟨w3.heap.size, 0, none⟩ 1 1 [.int .i64 ((c : Int) + 1)] rfl rfl (cell_one_at (size_setCell _ _ _)) (fun x hx => by simp at hx; subst hx; rfl) (by unfold maxLen; omega) (by omega) (by have := hbz3.out; rw [World.size_alloc, size_setCell]; omega) ?_
             intro v4 w4 hob4 hgrow4 hnil4 hblk4
             have hb4 : Below B (w3.setCell ⟨g10, 0, none⟩ (.slice (some ⟨g3, 0, none⟩) (k + 1) c3)) w4 := Below.grown ((Below.refl _ _).alloc (by rw [size_setCell]; exact hbz3.out) _) hgrow4 (by rw [World.size_alloc, size_setCell]; have := hbz3.out; omega) (fun j hj => by have := (hob3.out.lt _ hj).1; omega)
             obtain ⟨o0, o1, o2, o3⟩ := ((⟨o0, o1, o2, o3⟩ : Own2 w3 g10 (va) vr).set0 (u := .slice (some ⟨g3, 0, none⟩) (k + 1) c3)).below hb4 hmk.out
             have hX4 := (hX3.set (g' := g10) (i := 0) hgs.out.2.2.2.1 hgs.out.2.2.2.2.1 hgs.out.2.2.2.2.2.1 (.slice (some ⟨g3, 0, none⟩) (k + 1) c3)).below hb4 hgs.out.1 hgs.out.2.1 hgs.out.2.2.1
             have hoa4 := ((ownsRow_setCell_below hoa3k.out (a := ⟨g10, 0, none⟩) (by exact hmk.out) (.slice (some ⟨g3, 0, none⟩) (k + 1) c3)).alloc (.cells #[.int .i64 ((c : Int) + 1)] 3)).kept hgrow4 (apart_ne (apart_symm hap3.out))
             have hap4 := apart_symm (apart_new (apart_symm hap3.out) hblk4 (fun j hj => by have := (hoa3k.out.lt _ hj).2; rw [World.size_alloc, size_setCell]; omega))
             have hob4' : w4.ownsRow B 3 1 v4 (k + 1) (rowL (lateR (n - 1) c) (k + 1)) := by rw [rowL_succ, hye.out]; exact hob4
             have hT4 := Keep.mk (Two.mk hoa4 hob4' hap4)
             obtain ⟨g4, c4, rfl, _⟩ := row_parts (by omega) hob4'
             have hbw4 := Keep.mk ((hbw3.out.setCell (p := ⟨g10, 0, none⟩) (show w.heap.size ≤ g10 from hgs.out.2.2.2.2.2.2) (.slice (some ⟨g3, 0, none⟩) (k + 1) c3)).trans (hb4.mono (by have := hmk.out; have := hgs.out.2.2.2.2.2.2; omega)))
             have hbz4 := Keep.mk (Nat.le_trans hbz3.out (by have := hb4.size; rwa [size_setCell] at this))
             have t3 : Keep True := ⟨trivial⟩
             clear hob4 hgrow4 hnil4 hblk4 hoa4 hap4 hob4' hb4 hob3 hap3 hoa3k hX3 hbw3 hbz3)))
        have hO5 := (⟨o0, o1, o2, o3⟩ : Own2 w4 g10 (.slice (some ⟨g3, 0, none⟩) (k + 1) c3) vr).set1 (u := .slice (some ⟨g4, 0, none⟩) (k + 1) c4)
        exact ⟨⟨k + 1, by omega, by go_num, _, _, hT4.out.set hmk.out, hO5, hX4.set hgs.out.2.2.2.1 hgs.out.2.2.2.2.1 hgs.out.2.2.2.2.2.1 _, hbw4.out.setCell (p := ⟨g10, 1, none⟩) (show w.heap.size ≤ g10 from hgs.out.2.2.2.2.2.2) _, by rw [size_setCell]; exact hbz4.out⟩, by simp [intOf]; omega⟩
      · have hxe : Keep (lateA (n - 1) c k = -1) := ⟨if_neg (by omega)⟩
        have hye : Keep (lateR (n - 1) c k = (n : Int) + 1) := ⟨by unfold lateR; rw [if_neg (by omega)]; omega⟩
        go_wp2_with (first
          | (at_builtin; go_loud (
             clear t1
             refine wpList_append_own_at _ rfl _ _ 40 rfl B 3 i0 (.int .i64 0) 1 8 ty40 hi hz0 hz1 hz2 rfl (by decide) _ _ _ rfl (tak.out.alloc _) ⟨wr.heap.size, 0, none⟩ 1 1 [.int .i64 (-1)] rfl rfl (cell_one_new _ _ _) (fun x hx => by simp at hx; subst hx; rfl) (by unfold maxLen; omega) (by omega) (by have := hbzk.out; simp; try omega) ?_
             intro v3 w3 hoa3 hgrow3 hnil3 hblk3
             have hb3 : Below B wr w3 := Below.grown ((Below.refl _ wr).alloc hbzk.out _) hgrow3 (by simp; have := hbzk.out; omega) (fun j hj => by have := (tak.out.lt _ hj).1; omega)
             obtain ⟨o0, o1, o2, o3⟩ := (⟨o0, o1, o2, o3⟩ : Own2 wr g10 va vr).below hb3 hmk.out
             have hX3 := hX.below hb3 hgs.out.1 hgs.out.2.1 hgs.out.2.2.1
             have hob3 := Keep.mk ((trk.out.alloc (.cells #[.int .i64 (-1)] 3)).kept hgrow3 (apart_ne tapk.out))
             have hap3 := Keep.mk (apart_new tapk.out hblk3 (fun j hj => by have := (trk.out.lt _ hj).2; simp; omega))
             have hoa3' : w3.ownsRow B 3 1 v3 (k + 1) (rowL (lateA (n - 1) c) (k + 1)) := by rw [rowL_succ, hxe.out]; exact hoa3
             have hoa3k := Keep.mk hoa3'
             obtain ⟨g3, c3, rfl, _⟩ := row_parts (by omega) hoa3'
             have hbw3 := Keep.mk (hbwk.out.trans (hb3.mono (by have := hmk.out; have := hgs.out; omega)))
             have hbz3 := Keep.mk (Nat.le_trans hbzk.out hb3.size)
             have hgl3 : g10 < w3.heap.size := Nat.lt_of_lt_of_le hgl hb3.size
             have t2 : Keep True := ⟨trivial⟩
             clear hgrow3 hnil3 hblk3 hoa3 hoa3' hb3 tak tapk hX))
          | (at_builtin; go_loud (
             clear t2
             refine wpList_append_own_at _ rfl _ _ 40 rfl B 3 i0 (.int .i64 0) 1 8 ty40 hi hz0 hz1 hz2 rfl (by decide) _ _ _ rfl ((ownsRow_setCell_below hob3.out (a := ⟨g10, 0, none⟩) (by exact hmk.out) _).alloc _) ⟨w3.heap.size, 0, none⟩ 1 1 [.int .i64 ((n : Int) + 1)] rfl rfl (cell_one_at (size_setCell _ _ _)) (fun x hx => by simp at hx; subst hx; rfl) (by unfold maxLen; omega) (by omega) (by have := hbz3.out; rw [World.size_alloc, size_setCell]; omega) ?_
             intro v4 w4 hob4 hgrow4 hnil4 hblk4
             have hb4 : Below B (w3.setCell ⟨g10, 0, none⟩ (.slice (some ⟨g3, 0, none⟩) (k + 1) c3)) w4 := Below.grown ((Below.refl _ _).alloc (by rw [size_setCell]; exact hbz3.out) _) hgrow4 (by rw [World.size_alloc, size_setCell]; have := hbz3.out; omega) (fun j hj => by have := (hob3.out.lt _ hj).1; omega)
             obtain ⟨o0, o1, o2, o3⟩ := ((⟨o0, o1, o2, o3⟩ : Own2 w3 g10 (va) vr).set0 (u := .slice (some ⟨g3, 0, none⟩) (k + 1) c3)).below hb4 hmk.out
             have hX4 := (hX3.set (g' := g10) (i := 0) hgs.out.2.2.2.1 hgs.out.2.2.2.2.1 hgs.out.2.2.2.2.2.1 (.slice (some ⟨g3, 0, none⟩) (k + 1) c3)).below hb4 hgs.out.1 hgs.out.2.1 hgs.out.2.2.1
             have hoa4 := ((ownsRow_setCell_below hoa3k.out (a := ⟨g10, 0, none⟩) (by exact hmk.out) (.slice (some ⟨g3, 0, none⟩) (k + 1) c3)).alloc (.cells #[.int .i64 ((n : Int) + 1)] 3)).kept hgrow4 (apart_ne (apart_symm hap3.out))
             have hap4 := apart_symm (apart_new (apart_symm hap3.out) hblk4 (fun j hj => by have := (hoa3k.out.lt _ hj).2; rw [World.size_alloc, size_setCell]; omega))
             have hob4' : w4.ownsRow B 3 1 v4 (k + 1) (rowL (lateR (n - 1) c) (k + 1)) := by rw [rowL_succ, hye.out]; exact hob4
             have hT4 := Keep.mk (Two.mk hoa4 hob4' hap4)
             obtain ⟨g4, c4, rfl, _⟩ := row_parts (by omega) hob4'
             have hbw4 := Keep.mk ((hbw3.out.setCell (p := ⟨g10, 0, none⟩) (show w.heap.size ≤ g10 from hgs.out.2.2.2.2.2.2) (.slice (some ⟨g3, 0, none⟩) (k + 1) c3)).trans (hb4.mono (by have := hmk.out; have := hgs.out.2.2.2.2.2.2; omega)))
             have hbz4 := Keep.mk (Nat.le_trans hbz3.out (by have := hb4.size; rwa [size_setCell] at this))
             have t3 : Keep True := ⟨trivial⟩
             clear hob4 hgrow4 hnil4 hblk4 hoa4 hap4 hob4' hb4 hob3 hap3 hoa3k hX3 hbw3 hbz3)))
        have hO5 := (⟨o0, o1, o2, o3⟩ : Own2 w4 g10 (.slice (some ⟨g3, 0, none⟩) (k + 1) c3) vr).set1 (u := .slice (some ⟨g4, 0, none⟩) (k + 1) c4)
        exact ⟨⟨k + 1, by omega, by go_num, _, _, hT4.out.set hmk.out, hO5, hX4.set hgs.out.2.2.2.1 hgs.out.2.2.2.2.1 hgs.out.2.2.2.2.2.1 _, hbw4.out.setCell (p := ⟨g10, 1, none⟩) (show w.heap.size ≤ g10 from hgs.out.2.2.2.2.2.2) _, by rw [size_setCell]; exact hbz4.out⟩, by simp [intOf]; omega⟩
    · obtain rfl : n = k := by omega
      have hle : ¬ (n : Int) + 1 ≤ (n : Int) := by omega
      obtain ⟨⟨ya, oya, cya, yr, oyr, cyr, L, yA, yR⟩, rfl, rfl, hy, yL1, yA1, yR1, zga, zgr, _, oa0, ro0, _⟩ := Two.crs ⟨ta, tr, tap⟩ hn
      obtain rfl : n = L := Eq.symm yL1
      obtain rfl : lateA (n - 1) c = yA := Eq.symm yA1
      obtain rfl : lateR (n - 1) c = yR := Eq.symm yR1
      obtain rfl : (0 : Nat) = oya := Eq.symm oa0
      obtain rfl : (0 : Nat) = oyr := Eq.symm ro0
      clear yL1 yA1 yR1 ta tr tap oa0 ro0
      have hY : XR g10 (⟨ya, 0, cya, yr, 0, cyr, n, lateA (n - 1) c, lateR (n - 1) c⟩ : Crs) wr := ⟨⟨o0, o1, o2, o3⟩, hy⟩
      have zga' : B ≤ ya := zga
      have zgr' : B ≤ yr := zgr
      have hyl : ya < wr.heap.size := cell_lt (hy.las 0 hn)
      have hyr : yr < wr.heap.size := cell_lt (hy.lrs 0 hn)
      have hgs' := hgs.out
      have hmk' := hmk.out
      have q33x := fun (W : World) (h : CrsIn W (⟨ga, oa, ca, gr, ro, cr, n, curA n c, curR c⟩ : Crs)) => q33k.out W (⟨ga, oa, ca, gr, ro, cr, n, curA n c, curR c⟩ : Crs) h (cur_fits hcn hnN)
      have q33y := fun (W : World) (h : CrsIn W (⟨ya, 0, cya, yr, 0, cyr, n, lateA (n - 1) c, lateR (n - 1) c⟩ : Crs)) => q33k.out W (⟨ya, 0, cya, yr, 0, cyr, n, lateA (n - 1) c, lateR (n - 1) c⟩ : Crs) h (late_fits hcn hnN)
      simp only [Crs.val, Crs.sa, Crs.sr, redV, fracV, hacc.out, hlacc.out, hlmean.out, hA.out, hM.out, hXk.out, hwk.out.1, hwk.out.2, Int.cast_ofNat_Int] at q33x q33y
      clear q33k o0 o1 o2 o3 hy zga zgr
      have ns : Keep (g8 < wr.heap.size ∧ g10 < wr.heap.size ∧ ga < wr.heap.size ∧ gr < wr.heap.size ∧ ya < wr.heap.size ∧ yr < wr.heap.size ∧ w.heap.size ≤ wr.heap.size) := ⟨by have := hbw.size; omega⟩
      clear hgs' hmk' zga' zgr' hyl hyr hgs hmk hbz
      go_wp2_with (first
        | (go_at_call 18; (with_reducible refine (q18 _).mono ?_); rintro e w5 ⟨rfl, hb5⟩
           have hX := hX.after hb5
           have hY := hY.after hb5
           have hbw := hbw.trans (hb5.mono hbw.size)
           obtain ⟨w6, hw6⟩ : ∃ w6, w5.alloc (.cells #[.int .i64 (rN A X : Nat), .int .i64 (rD A X : Nat)] 27) = w6 := ⟨_, rfl⟩
           have hb6 : Below w5.heap.size w5 w6 := by rw [← hw6]; exact (Below.refl _ _).alloc (Nat.le_refl _) _
           have r14 : Own2 w6 w5.heap.size (.int .i64 (rN A X : Nat)) (.int .i64 (rD A X : Nat)) := by rw [← hw6]; exact Own2.new _ _ _ _
           have hX := hX.after hb6
           have hY := hY.after hb6
           have hbw := hbw.trans (hb6.mono hbw.size)
           have ns : Keep (g8 < w5.heap.size ∧ g10 < w5.heap.size ∧ ga < w5.heap.size ∧ gr < w5.heap.size ∧ ya < w5.heap.size ∧ yr < w5.heap.size ∧ w.heap.size ≤ w5.heap.size) := ⟨by have h1 := ns.out; have h2 := hb5.size; omega⟩
           obtain ⟨o0, o1, o2, o3⟩ := id hX.o
           simp only [Crs.sa, Crs.sr] at o0 o1
           clear hb5 hb6 q18)
        | (go_at_call 33; (with_reducible refine (q33x _ hX.c).mono ?_); rintro e w7 ⟨rfl, hb7⟩
           have hX := hX.after hb7
           have hY := hY.after hb7
           have r14 := r14.after hb7
           have hbw := hbw.trans (hb7.mono hbw.size)
           obtain ⟨wA, hwA⟩ : ∃ wA, w7.alloc (.cells #[.int .i64 0, .int .i64 0] 27) = wA := ⟨_, rfl⟩
           obtain ⟨wB, hwB⟩ : ∃ wB, wA.alloc (.cells #[.int .i64 0, .int .i64 0] 27) = wB := ⟨_, rfl⟩
           have hsA : wA.heap.size = w7.heap.size + 1 := by rw [← hwA]; simp
           have hbA : Below w7.heap.size w7 wA := by rw [← hwA]; exact (Below.refl _ _).alloc (Nat.le_refl _) _
           have hbB : Below wA.heap.size wA wB := by rw [← hwB]; exact (Below.refl _ _).alloc (Nat.le_refl _) _
           have r16 : Own2 wB w7.heap.size (.int .i64 0) (.int .i64 0) := by
             have : Own2 wA w7.heap.size (.int .i64 0) (.int .i64 0) := by rw [← hwA]; exact Own2.new _ _ _ _
             exact this.after hbB
           have r17 : Own2 wB (w7.heap.size + 1) (.int .i64 0) (.int .i64 0) := by rw [← hsA, ← hwB]; exact Own2.new _ _ _ _
           have hX := (hX.after hbA).after hbB
           have hY := (hY.after hbA).after hbB
           have l14 := r14.lt
           have r14 := (r14.after hbA).after hbB
           have hbw := (hbw.trans (hbA.mono hbw.size)).trans (hbB.mono (hbw.trans (hbA.mono hbw.size)).size)
           have ns : Keep (g8 < w7.heap.size ∧ g10 < w7.heap.size ∧ ga < w7.heap.size ∧ gr < w7.heap.size ∧ ya < w7.heap.size ∧ yr < w7.heap.size ∧ w.heap.size ≤ w7.heap.size ∧ w5.heap.size < w7.heap.size) := ⟨by have h1 := ns.out; omega⟩
           have hwAB : (w7.alloc (.cells #[.int .i64 0, .int .i64 0] 27)).alloc (.cells #[.int .i64 0, .int .i64 0] 27) = wB := by rw [hwA, hwB]
           obtain ⟨o0, o1, o2, o3⟩ := id hY.o
           simp only [Crs.sa, Crs.sr] at o0 o1
           obtain ⟨x0, x1, x2, x3⟩ := id r16
           obtain ⟨y0, y1, y2, y3⟩ := id r17
           have n10 : g10 < w7.heap.size := ns.out.2.1
           have n10' : g10 < w7.heap.size + 1 := by omega
           clear hb7 q33x hwA hwB hbA hbB hsA))
      have ns' := ns.out
      have hX := ((((hX.set (g' := w7.heap.size) (i := 0) (by omega) (show ga ≠ w7.heap.size by omega) (show gr ≠ w7.heap.size by omega) (.int .i64 (rN A X : Nat))).set (g' := w7.heap.size) (i := 1) (by omega) (show ga ≠ w7.heap.size by omega) (show gr ≠ w7.heap.size by omega) (.int .i64 (rD A X : Nat))).set (g' := w7.heap.size + 1) (i := 0) (by omega) (show ga ≠ w7.heap.size + 1 by omega) (show gr ≠ w7.heap.size + 1 by omega) (.int .i64 (rN M X : Nat))).set (g' := w7.heap.size + 1) (i := 1) (by omega) (show ga ≠ w7.heap.size + 1 by omega) (show gr ≠ w7.heap.size + 1 by omega) (.int .i64 (rD M X : Nat)))
      have hY := ((((hY.set (g' := w7.heap.size) (i := 0) (by omega) (show ya ≠ w7.heap.size by omega) (show yr ≠ w7.heap.size by omega) (.int .i64 (rN A X : Nat))).set (g' := w7.heap.size) (i := 1) (by omega) (show ya ≠ w7.heap.size by omega) (show yr ≠ w7.heap.size by omega) (.int .i64 (rD A X : Nat))).set (g' := w7.heap.size + 1) (i := 0) (by omega) (show ya ≠ w7.heap.size + 1 by omega) (show yr ≠ w7.heap.size + 1 by omega) (.int .i64 (rN M X : Nat))).set (g' := w7.heap.size + 1) (i := 1) (by omega) (show ya ≠ w7.heap.size + 1 by omega) (show yr ≠ w7.heap.size + 1 by omega) (.int .i64 (rD M X : Nat)))
      have r14 := ((((r14.other (g' := w7.heap.size) (i := 0) (u := (.int .i64 (rN A X : Nat))) (by omega)).other (g' := w7.heap.size) (i := 1) (u := (.int .i64 (rD A X : Nat))) (by omega)).other (g' := w7.heap.size + 1) (i := 0) (u := (.int .i64 (rN M X : Nat))) (by omega)).other (g' := w7.heap.size + 1) (i := 1) (u := (.int .i64 (rD M X : Nat))) (by omega))
      have r16 := ((((r16.set0 (u := (.int .i64 (rN A X : Nat)))).set1 (u := (.int .i64 (rD A X : Nat)))).other (g' := w7.heap.size + 1) (i := 0) (u := (.int .i64 (rN M X : Nat))) (by omega)).other (g' := w7.heap.size + 1) (i := 1) (u := (.int .i64 (rD M X : Nat))) (by omega))
      have r17 := ((((r17.other (g' := w7.heap.size) (i := 0) (u := (.int .i64 (rN A X : Nat))) (by omega)).other (g' := w7.heap.size) (i := 1) (u := (.int .i64 (rD A X : Nat))) (by omega)).set0 (u := (.int .i64 (rN M X : Nat)))).set1 (u := (.int .i64 (rD M X : Nat))))
      have hbw := ((((hbw.setCell (p := ⟨w7.heap.size, 0, none⟩) (show w.heap.size ≤ w7.heap.size by omega) (.int .i64 (rN A X : Nat))).setCell (p := ⟨w7.heap.size, 1, none⟩) (show w.heap.size ≤ w7.heap.size by omega) (.int .i64 (rD A X : Nat))).setCell (p := ⟨w7.heap.size + 1, 0, none⟩) (show w.heap.size ≤ w7.heap.size + 1 by omega) (.int .i64 (rN M X : Nat))).setCell (p := ⟨w7.heap.size + 1, 1, none⟩) (show w.heap.size ≤ w7.heap.size + 1 by omega) (.int .i64 (rD M X : Nat)))
      clear ns' o0 o1 o2 o3 x0 x1 x2 x3 y0 y1 y2 y3 hwAB
      generalize ((((wB.setCell ⟨w7.heap.size, 0, none⟩ (.int .i64 (rN A X : Nat))).setCell ⟨w7.heap.size, 1, none⟩ (.int .i64 (rD A X : Nat))).setCell ⟨w7.heap.size + 1, 0, none⟩ (.int .i64 (rN M X : Nat))).setCell ⟨w7.heap.size + 1, 1, none⟩ (.int .i64 (rD M X : Nat))) = wC at *
      refine Calls.mono (q33y _ hY.c) ?_
      rintro e w8 ⟨rfl, hb8⟩
      have m14 := r14.lt
      have m16 := r16.lt
      have m17 := r17.lt
      have r14 := r14.after hb8
      have r16 := r16.after hb8
      have r17 := r17.after hb8
      have hbw := hbw.trans (hb8.mono hbw.size)
      have n14 : w5.heap.size < w8.heap.size := Nat.lt_of_lt_of_le m14 hb8.size
      have n16 : w7.heap.size < w8.heap.size := Nat.lt_of_lt_of_le m16 hb8.size
      have n17 : w7.heap.size + 1 < w8.heap.size := Nat.lt_of_lt_of_le m17 hb8.size
      have nsw := hbw.size
      obtain ⟨wA, hwA⟩ : ∃ wA, w8.alloc (.cells #[.int .i64 0, .int .i64 0] 27) = wA := ⟨_, rfl⟩
      obtain ⟨wD, hwD⟩ : ∃ wD, wA.alloc (.cells #[.int .i64 0, .int .i64 0] 27) = wD := ⟨_, rfl⟩
      have hsA : wA.heap.size = w8.heap.size + 1 := by rw [← hwA]; simp
      have hbA : Below w8.heap.size w8 wA := by rw [← hwA]; exact (Below.refl _ _).alloc (Nat.le_refl _) _
      have hbB : Below wA.heap.size wA wD := by rw [← hwD]; exact (Below.refl _ _).alloc (Nat.le_refl _) _
      have r19 : Own2 wD w8.heap.size (.int .i64 0) (.int .i64 0) := by
        have : Own2 wA w8.heap.size (.int .i64 0) (.int .i64 0) := by rw [← hwA]; exact Own2.new _ _ _ _
        exact this.after hbB
      have r20 : Own2 wD (w8.heap.size + 1) (.int .i64 0) (.int .i64 0) := by rw [← hsA, ← hwD]; exact Own2.new _ _ _ _
      have r14 := (r14.after hbA).after hbB
      have r16 := (r16.after hbA).after hbB
      have r17 := (r17.after hbA).after hbB
      have hbw := (hbw.trans (hbA.mono hbw.size)).trans (hbB.mono (hbw.trans (hbA.mono hbw.size)).size)
      have hwAB : (w8.alloc (.cells #[.int .i64 0, .int .i64 0] 27)).alloc (.cells #[.int .i64 0, .int .i64 0] 27) = wD := by rw [hwA, hwD]
      obtain ⟨x0, x1, x2, x3⟩ := id r19
      obtain ⟨y0, y1, y2, y3⟩ := id r20
      obtain ⟨o0, o1, o2, o3⟩ := id r14
      obtain ⟨s0, s1, s2, s3⟩ := id r16
      obtain ⟨u0, u1, u2, u3⟩ := id r17
      have n14' : w5.heap.size < w8.heap.size + 1 := by omega
      have n16' : w7.heap.size < w8.heap.size + 1 := by omega
      have n17' : w7.heap.size + 1 < w8.heap.size + 1 := by omega
      clear hb8 hbA hbB hwA hwD hsA m14 m16 m17 hX hY q33y n10 n10' ns
      go_wp2_with (fail)
      have nsw' := nsw
      have r17 := ((((r17.other (g' := w8.heap.size) (i := 0) (u := (.int .i64 (rN A X : Nat))) (by omega)).other (g' := w8.heap.size) (i := 1) (u := (.int .i64 (rD A X : Nat))) (by omega)).other (g' := w8.heap.size + 1) (i := 0) (u := (.int .i64 (n : Int))) (by omega)).other (g' := w8.heap.size + 1) (i := 1) (u := (.int .i64 1)) (by omega))
      have r20 := ((((r20.other (g' := w8.heap.size) (i := 0) (u := (.int .i64 (rN A X : Nat))) (by omega)).other (g' := w8.heap.size) (i := 1) (u := (.int .i64 (rD A X : Nat))) (by omega)).set0 (u := (.int .i64 (n : Int)))).set1 (u := (.int .i64 1)))
      have hbw := ((((hbw.setCell (p := ⟨w8.heap.size, 0, none⟩) (show w.heap.size ≤ w8.heap.size by omega) (.int .i64 (rN A X : Nat))).setCell (p := ⟨w8.heap.size, 1, none⟩) (show w.heap.size ≤ w8.heap.size by omega) (.int .i64 (rD A X : Nat))).setCell (p := ⟨w8.heap.size + 1, 0, none⟩) (show w.heap.size ≤ w8.heap.size + 1 by omega) (.int .i64 (n : Int))).setCell (p := ⟨w8.heap.size + 1, 1, none⟩) (show w.heap.size ≤ w8.heap.size + 1 by omega) (.int .i64 1))
      clear nsw' o0 o1 o2 o3 x0 x1 x2 x3 y0 y1 y2 y3 s0 s1 s2 s3 u0 u1 u2 u3 hwAB
      generalize ((((wD.setCell ⟨w8.heap.size, 0, none⟩ (.int .i64 (rN A X : Nat))).setCell ⟨w8.heap.size, 1, none⟩ (.int .i64 (rD A X : Nat))).setCell ⟨w8.heap.size + 1, 0, none⟩ (.int .i64 (n : Int))).setCell ⟨w8.heap.size + 1, 1, none⟩ (.int .i64 1)) = wE at *
      refine Calls.mono (q49 _) ?_
      rintro e wf ⟨rfl, hbf⟩
      have r17 := r17.after hbf
      have r20 := r20.after hbf
      have hbw := hbw.trans (hbf.mono hbw.size)
      obtain ⟨y0, y1, y2, y3⟩ := id r20
      obtain ⟨u0, u1, u2, u3⟩ := id r17
      clear hbf
      go_wp2_with (fail)
      refine Calls.mono (q46 _) ?_
      rintro e wg ⟨rfl, hbg⟩
      have hbw := hbw.trans (hbg.mono hbw.size)
      clear hbg r17 r20 y0 y1 y2 y3 u0 u1 u2 u3
      go_wp2_with (go_at_call 20; refine (awake_any _).mono ?_; rintro e wz ⟨rfl, hbz⟩
                   have hbw := hbw.trans (hbz.mono hbw.size)
                   clear hbz)
      go_ret
      exact ⟨rfl, hbw⟩
end Go.Proofs.Ytbmfipjnfbnjgaa
