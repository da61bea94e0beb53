import Derived.Test.YteekigpdiklppaaWInts
set_option linter.unusedSimpArgs false
set_option linter.unusedVariables false
namespace Go.Proofs.Yteekigpdiklppaa
open Go Go.Proofs Go.RowKit Go.Seq
attribute [local go_sem] Oper.semAt_some
theorem gr_path : GrOk (4 : Nat) path4 := ⟨by decide, by decide, fun k hk => by
  have hk : k < 3 := hk
  match k, hk with
  | 0, _ => exact ⟨by decide, by decide, by decide, by decide, by decide, by decide⟩
  | 1, _ => exact ⟨by decide, by decide, by decide, by decide, by decide, by decide⟩
  | 2, _ => exact ⟨by decide, by decide, by decide, by decide, by decide, by decide⟩⟩
theorem gr_square : GrOk (4 : Nat) square4 := ⟨by decide, by decide, fun k hk => by
  have hk : k < 4 := hk
  match k, hk with
  | 0, _ => exact ⟨by decide, by decide, by decide, by decide, by decide, by decide⟩
  | 1, _ => exact ⟨by decide, by decide, by decide, by decide, by decide, by decide⟩
  | 2, _ => exact ⟨by decide, by decide, by decide, by decide, by decide, by decide⟩
  | 3, _ => exact ⟨by decide, by decide, by decide, by decide, by decide, by decide⟩⟩
theorem gr_tri : GrOk (3 : Nat) tri3 := ⟨by decide, by decide, fun k hk => by
  have hk : k < 3 := hk
  match k, hk with
  | 0, _ => exact ⟨by decide, by decide, by decide, by decide, by decide, by decide⟩
  | 1, _ => exact ⟨by decide, by decide, by decide, by decide, by decide, by decide⟩
  | 2, _ => exact ⟨by decide, by decide, by decide, by decide, by decide, by decide⟩⟩
theorem pairs_path {W : World} {g c : Nat} (h : W.heap[g]? = some (.cells #[.int .i64 0, .int .i64 1, .int .i64 1, .int .i64 2, .int .i64 2, .int .i64 3] 63 (0, 0))) : PairsOf W (.slice (some ⟨g, 0, none⟩) 3 c) path4 := ⟨_, _, rfl, fun k hk => ⟨g, rfl, by
  have hk : k < 3 := hk
  match k, hk with
  | 0, _ => exact ⟨by simp [World.cell?, h, path4], by simp [World.cell?, h, path4]⟩
  | 1, _ => exact ⟨by simp [World.cell?, h, path4], by simp [World.cell?, h, path4]⟩
  | 2, _ => exact ⟨by simp [World.cell?, h, path4], by simp [World.cell?, h, path4]⟩⟩⟩
theorem pairs_square {W : World} {g c : Nat} (h : W.heap[g]? = some (.cells #[.int .i64 0, .int .i64 1, .int .i64 1, .int .i64 2, .int .i64 2, .int .i64 3, .int .i64 0, .int .i64 3] 63 (0, 0))) : PairsOf W (.slice (some ⟨g, 0, none⟩) 4 c) square4 := ⟨_, _, rfl, fun k hk => ⟨g, rfl, by
  have hk : k < 4 := hk
  match k, hk with
  | 0, _ => exact ⟨by simp [World.cell?, h, square4], by simp [World.cell?, h, square4]⟩
  | 1, _ => exact ⟨by simp [World.cell?, h, square4], by simp [World.cell?, h, square4]⟩
  | 2, _ => exact ⟨by simp [World.cell?, h, square4], by simp [World.cell?, h, square4]⟩
  | 3, _ => exact ⟨by simp [World.cell?, h, square4], by simp [World.cell?, h, square4]⟩⟩⟩
theorem pairs_tri {W : World} {g c : Nat} (h : W.heap[g]? = some (.cells #[.int .i64 0, .int .i64 1, .int .i64 1, .int .i64 2, .int .i64 0, .int .i64 2] 63 (0, 0))) : PairsOf W (.slice (some ⟨g, 0, none⟩) 3 c) tri3 := ⟨_, _, rfl, fun k hk => ⟨g, rfl, by
  have hk : k < 3 := hk
  match k, hk with
  | 0, _ => exact ⟨by simp [World.cell?, h, tri3], by simp [World.cell?, h, tri3]⟩
  | 1, _ => exact ⟨by simp [World.cell?, h, tri3], by simp [World.cell?, h, tri3]⟩
  | 2, _ => exact ⟨by simp [World.cell?, h, tri3], by simp [World.cell?, h, tri3]⟩⟩⟩
theorem ints_one {W : World} {g c : Nat} (a : Int) (h : W.heap[g]? = some (.cells #[.int .i64 a] 3 (0, 0))) : IntsO W (.slice (some ⟨g, 0, none⟩) 1 c) [a] := ⟨_, _, rfl, fun k hk => ⟨g, 0, rfl, by
  have hk : k < 1 := hk
  match k, hk with
  | 0, _ => simp [World.cell?, h]⟩⟩
theorem ints_two {W : World} {g c : Nat} (a b : Int) (h : W.heap[g]? = some (.cells #[.int .i64 a, .int .i64 b] 3 (0, 0))) : IntsO W (.slice (some ⟨g, 0, none⟩) 2 c) [a, b] := ⟨_, _, rfl, fun k hk => ⟨g, 0, rfl, by
  have hk : k < 2 := hk
  match k, hk with
  | 0, _ => simp [World.cell?, h]
  | 1, _ => simp [World.cell?, h]⟩⟩
theorem list_zero : ListOk (4 : Nat) [0] := ⟨fun k hk => by
  have hk : k < 1 := hk
  match k, hk with
  | 0, _ => exact ⟨by decide, by decide, by decide⟩⟩
theorem below_dn' {B : Nat} {w0 W : World} (h : Below B w0 W) (n : Nat) : Below B w0 (W.drewN n) := h.trans ⟨rfl, rfl, rfl, Nat.le_refl _, fun _ _ => rfl⟩
set_option maxHeartbeats 4000000 in
set_option maxRecDepth 100000 in
theorem awake_w (w : World) : Calls Try.prog 23 #[] w fun e w' => e = .returned (.bool true) ∧ Below w.heap.size w w' := by
  obtain ⟨wa, hwa⟩ : ∃ wa, w.alloc (.cells #[.int .i64 0, .int .i64 1, .int .i64 1, .int .i64 2, .int .i64 2, .int .i64 3] 63) = wa := ⟨_, rfl⟩
  obtain ⟨wb, hwb⟩ : ∃ wb, wa.alloc (.cells #[.int .i64 0, .int .i64 1, .int .i64 1, .int .i64 2, .int .i64 2, .int .i64 3, .int .i64 0, .int .i64 3] 63) = wb := ⟨_, rfl⟩
  have sa : wa.heap.size = w.heap.size + 1 := by rw [← hwa]; simp
  have sb : wb.heap.size = w.heap.size + 2 := by rw [← hwb]; simp [sa]
  have ba : Below w.heap.size w wa := by rw [← hwa]; exact (Below.refl _ _).alloc (Nat.le_refl _) _
  have bb : Below wa.heap.size wa wb := by rw [← hwb]; exact (Below.refl _ _).alloc (Nat.le_refl _) _
  have fa : wa.heap[w.heap.size]? = some (.cells #[.int .i64 0, .int .i64 1, .int .i64 1, .int .i64 2, .int .i64 2, .int .i64 3] 63 (0, 0)) := by rw [← hwa]; exact World.alloc_heap_new w _
  have fb : wb.heap[w.heap.size + 1]? = some (.cells #[.int .i64 0, .int .i64 1, .int .i64 1, .int .i64 2, .int .i64 2, .int .i64 3, .int .i64 0, .int .i64 3] 63 (0, 0)) := by rw [← sa, ← hwb]; exact World.alloc_heap_new wa _
  have fa2 := (bb.block _ (by omega)).trans fa
  have hP : Keep (∀ W c, Below wb.heap.size wb W → PairsOf W (.slice (some ⟨w.heap.size, 0, none⟩) 3 c) path4) := ⟨fun W c hb => pairs_path ((hb.block _ (by omega)).trans fa2)⟩
  have hS : Keep (∀ W c, Below wb.heap.size wb W → PairsOf W (.slice (some ⟨w.heap.size + 1, 0, none⟩) 4 c) square4) := ⟨fun W c hb => pairs_square ((hb.block _ (by omega)).trans fb)⟩
  have bw := Keep.mk (ba.trans (bb.mono ba.size))
  clear fa fb fa2 ba bb
  have q34p : Keep (∀ W c, Below wb.heap.size wb W → Calls Try.prog 34 #[.int .i64 4, .slice (some ⟨w.heap.size, 0, none⟩) 3 c] W fun e w' => ∃ lv, e = .returned (.tuple #[lv, .int .i64 0]) ∧ (∃ B, w'.ownsRow B 3 1 lv 1 [.int .i64 0]) ∧ Below W.heap.size W w') := ⟨fun W c hb => (Least_yes (kfOf _) (hP.out W c hb) gr_path (by decide) (stops_kf (infl_force _))).mono fun e w' ⟨lv, h1, h2, h3⟩ => ⟨lv, h1, by
    unfold ListV at h2
    rw [isW_eq (infl_force _), aw_least_path] at h2
    exact ⟨_, h2⟩, h3⟩⟩
  have q34s : Keep (∀ W c, Below wb.heap.size wb W → Calls Try.prog 34 #[.int .i64 4, .slice (some ⟨w.heap.size + 1, 0, none⟩) 4 c] W fun e w' => ∃ lv, e = .returned (.tuple #[lv, .int .i64 0]) ∧ (∃ B, w'.ownsRow B 3 1 lv 2 [.int .i64 0, .int .i64 1]) ∧ Below W.heap.size W w') := ⟨fun W c hb => (Least_yes (kfOf _) (hS.out W c hb) gr_square (by decide) (stops_kf (infl_force _))).mono fun e w' ⟨lv, h1, h2, h3⟩ => ⟨lv, h1, by
    unfold ListV at h2
    rw [isW_eq (infl_force _), aw_least_square] at h2
    exact ⟨_, h2⟩, h3⟩⟩
  have q39 : Keep (∀ W c, Below wb.heap.size wb W → Calls Try.prog 39 #[.int .i64 4, .slice (some ⟨w.heap.size + 1, 0, none⟩) 4 c, .int .i64 2] W fun e w' => ∃ lv, e = .returned (.tuple #[lv, .int .i64 0]) ∧ (∃ B, w'.ownsRow B 3 1 lv 2 [.int .i64 0, .int .i64 2]) ∧ Below W.heap.size W w') := ⟨fun W c hb => (Fewest_yes (r := 2) (kfOf _) (hS.out W c hb) gr_square (by decide) (by decide) (by decide) (stops_kf (infl_soak _ _ _))).mono fun e w' ⟨lv, h1, h2, h3⟩ => ⟨lv, h1, by
    unfold ListV at h2
    rw [isW_eq (infl_soak _ _ _), aw_fewest] at h2
    exact ⟨_, h2⟩, h3⟩⟩
  have q19 : Keep (∀ W c v2, Below wb.heap.size wb W → IntsO W v2 [0] → Calls Try.prog 19 #[.int .i64 4, .slice (some ⟨w.heap.size, 0, none⟩) 3 c, v2] W fun e w' => ∃ lv, e = .returned (.tuple #[lv, .int .i64 3, .int .i64 0]) ∧ Below W.heap.size W w') := ⟨fun W c v2 hb h2 => (close_yes (hP.out W c hb) gr_path (by decide) h2 list_zero (by decide) aw_close_path).mono fun e w' ⟨lv, h1, _, h3⟩ => ⟨lv, h1, h3⟩⟩
  have q35 : Keep (∀ W v, PairsOf W v tri3 → Calls Try.prog 35 #[.int .i64 3, v] W fun e w' => ∃ A c, e = .returned (.tuple #[.slice A 3 c, .int .i64 0]) ∧ Below W.heap.size W w') := ⟨fun W v hv => (Forts_yes hv gr_tri (by decide)).mono fun e w' ⟨lv, svs, h1, h2, h3⟩ => by
    obtain ⟨A, c, rfl, _⟩ := slice_of_row h2.row
    rw [aw_forts] at h1
    exact ⟨A, c, h1, h3⟩⟩
  clear hP hS
  have q27 := fun (a b : Value) (za zb : List Int) (W : World) (ha : IntsO W a za) (hb : IntsO W b zb) (hl : za.length ≤ 100000) => ints_any ha hb hl
  have q27k := Keep.mk q27
  clear q27
  have hbz : Below wb.heap.size wb wb := Below.refl _ _
  have qa := q34p.out wb
  go_enter Try.func23, Try.ntmps23
  go_wp2_with (first
    | (go_at_call 34; (with_reducible refine (qa _ (Below.refl _ _)).mono ?_); rintro e w1 ⟨l1, rfl, ⟨B1, h1⟩, hb1⟩; clear qa
       have i1 := ints_own (l := [0]) h1
       obtain ⟨w2, hw2⟩ : ∃ w2, w1.alloc (.cells #[.int .i64 0] 3) = w2 := ⟨_, rfl⟩
       have b2 : Below w1.heap.size w1 w2 := by rw [← hw2]; exact (Below.refl _ _).alloc (Nat.le_refl _) _
       have c2 : w2.heap[w1.heap.size]? = some (.cells #[.int .i64 0] 3 (0, 0)) := by rw [← hw2]; exact World.alloc_heap_new w1 _
       have B2 := hb1.trans (b2.mono hb1.size)
       have qb := fun c => q19.out w2 c (.slice (some ⟨w1.heap.size, 0, none⟩) 1 1) B2 (ints_one 0 c2)
       have k1 := Keep.mk (And.intro (intsO_below i1 b2) B2)
       clear h1 i1 b2 c2 B2 hb1)
    | (go_at_call 19; (with_reducible refine (qb _).mono ?_); rintro e w3 ⟨l5, rfl, hb3⟩; clear qb
       have k3 := Keep.mk (And.intro (intsO_below k1.out.1 hb3) (k1.out.2.trans (hb3.mono k1.out.2.size)))
       have qc := fun c => q39.out w3 c k3.out.2
       clear hb3 k1)
    | (go_at_call 39; (with_reducible refine (qc _).mono ?_); rintro e w4 ⟨l8, rfl, ⟨B4, h4⟩, hb4⟩; clear qc
       have i4 := ints_own (l := [0, 2]) h4
       have k4 := Keep.mk (And.intro (intsO_below k3.out.1 hb4) (And.intro i4 (k3.out.2.trans (hb4.mono k3.out.2.size))))
       have qd := fun c => q34s.out w4 c k4.out.2.2
       clear h4 i4 hb4 k3)
    | (go_at_call 34; (with_reducible refine (qd _).mono ?_); rintro e w5 ⟨l10, rfl, ⟨B5, h5⟩, hb5⟩; clear qd
       have i5 := ints_own (l := [0, 1]) h5
       obtain ⟨w6, hw6⟩ : ∃ w6, w5.alloc (.cells #[.int .i64 0, .int .i64 1, .int .i64 1, .int .i64 2, .int .i64 0, .int .i64 2] 63) = w6 := ⟨_, rfl⟩
       have b6 : Below w5.heap.size w5 w6 := by rw [← hw6]; exact (Below.refl _ _).alloc (Nat.le_refl _) _
       have c6 : w6.heap[w5.heap.size]? = some (.cells #[.int .i64 0, .int .i64 1, .int .i64 1, .int .i64 2, .int .i64 0, .int .i64 2] 63 (0, 0)) := by rw [← hw6]; exact World.alloc_heap_new w5 _
       have b56 := hb5.trans (b6.mono hb5.size)
       have k6 := Keep.mk (And.intro (intsO_below k4.out.1 b56) (And.intro (intsO_below k4.out.2.1 b56) (And.intro (intsO_below i5 b6) (k4.out.2.2.trans (b56.mono k4.out.2.2.size)))))
       have qe := fun c => q35.out w6 (.slice (some ⟨w5.heap.size, 0, none⟩) 3 c) (pairs_tri c6)
       clear h5 i5 b6 c6 b56 hb5 k4)
    | (go_at_call 35; (with_reducible refine (qe _).mono ?_); rintro e w7 ⟨A7, c7, rfl, hb7⟩; clear qe
       obtain ⟨w8, hw8⟩ : ∃ w8, w7.alloc (.cells #[.int .i64 0] 3) = w8 := ⟨_, rfl⟩
       have b8 : Below w7.heap.size w7 w8 := by rw [← hw8]; exact (Below.refl _ _).alloc (Nat.le_refl _) _
       have c8 : w8.heap[w7.heap.size]? = some (.cells #[.int .i64 0] 3 (0, 0)) := by rw [← hw8]; exact World.alloc_heap_new w7 _
       have b78 := hb7.trans (b8.mono hb7.size)
       have k8 := Keep.mk (And.intro (intsO_below k6.out.1 b78) (And.intro (intsO_below k6.out.2.1 b78) (And.intro (intsO_below k6.out.2.2.1 b78) (k6.out.2.2.2.trans (b78.mono k6.out.2.2.2.size)))))
       have qf := q27k.out _ (.slice (some ⟨w7.heap.size, 0, none⟩) 1 1) _ _ w8 k8.out.1 (ints_one 0 c8) (by decide)
       rw [show decide (([0] : List Int) = [0]) = true by decide] at qf
       clear b8 c8 b78 hb7 k6)
    | (go_at_call 27; (with_reducible refine qf.mono ?_); rintro e w9 ⟨rfl, n9, hn9⟩; clear qf
       obtain ⟨wx, hwx⟩ : ∃ wx, w9.alloc (.cells #[.int .i64 0, .int .i64 2] 3) = wx := ⟨_, rfl⟩
       have b9 : Below w8.heap.size w8 w9 := by rw [hn9]; exact below_dn w8 n9
       have bx : Below w9.heap.size w9 wx := by rw [← hwx]; exact (Below.refl _ _).alloc (Nat.le_refl _) _
       have cx : wx.heap[w9.heap.size]? = some (.cells #[.int .i64 0, .int .i64 2] 3 (0, 0)) := by rw [← hwx]; exact World.alloc_heap_new w9 _
       have b9x := b9.trans (bx.mono b9.size)
       have kx := Keep.mk (And.intro (intsO_below k8.out.2.1 b9x) (And.intro (intsO_below k8.out.2.2.1 b9x) (k8.out.2.2.2.trans (b9x.mono k8.out.2.2.2.size))))
       have qg := q27k.out _ (.slice (some ⟨w9.heap.size, 0, none⟩) 2 2) _ _ wx kx.out.1 (ints_two 0 2 cx) (by decide)
       rw [show decide (([0, 2] : List Int) = [0, 2]) = true by decide] at qg
       clear b9 bx cx b9x hn9 k8)
    | (go_at_call 27; (with_reducible refine qg.mono ?_); rintro e wy ⟨rfl, ny, hny⟩; clear qg
       obtain ⟨wz, hwz⟩ : ∃ wz, wy.alloc (.cells #[.int .i64 0, .int .i64 1] 3) = wz := ⟨_, rfl⟩
       have b9 : Below wx.heap.size wx wy := by rw [hny]; exact below_dn wx ny
       have bx : Below wy.heap.size wy wz := by rw [← hwz]; exact (Below.refl _ _).alloc (Nat.le_refl _) _
       have cx : wz.heap[wy.heap.size]? = some (.cells #[.int .i64 0, .int .i64 1] 3 (0, 0)) := by rw [← hwz]; exact World.alloc_heap_new wy _
       have b9x := b9.trans (bx.mono b9.size)
       have kz := Keep.mk (And.intro (intsO_below kx.out.2.1 b9x) (kx.out.2.2.trans (b9x.mono kx.out.2.2.size)))
       have qh := q27k.out _ (.slice (some ⟨wy.heap.size, 0, none⟩) 2 2) _ _ wz kz.out.1 (ints_two 0 1 cx) (by decide)
       rw [show decide (([0, 1] : List Int) = [0, 1]) = true by decide] at qh
       clear b9 bx cx b9x hny kx)
    | (go_at_call 27; (with_reducible refine qh.mono ?_); rintro e wv ⟨rfl, nv, hnv⟩; clear qh
       have kv := Keep.mk (below_dn' kz.out.2 nv)
       rw [← hnv] at kv
       clear hnv))
  go_ret
  exact ⟨rfl, bw.out.trans (kv.out.mono bw.out.size)⟩
end Go.Proofs.Yteekigpdiklppaa
