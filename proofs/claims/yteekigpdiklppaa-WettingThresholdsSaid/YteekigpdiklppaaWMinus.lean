import Derived.Test.YteekigpdiklppaaWSet
set_option linter.unusedSimpArgs false
set_option linter.unusedVariables false
namespace Go.Proofs.Yteekigpdiklppaa
open Go Go.Proofs Go.RowKit Go.Seq
theorem heap_set {W : World} {b : Nat} {a : Array Value} {t : TypeId} (h : W.heap[b]? = some (.cells a t (0, 0))) {i : Nat} (v : Value) : (W.setCell ⟨b, i, none⟩ v).heap[b]? = some (.cells (a.setIfInBounds i v) t (0, 0)) := by
  obtain ⟨hlt, hk⟩ := Array.getElem?_eq_some_iff.1 h
  simp only [World.setCell]
  rw [Array.getElem?_eq_getElem (by rw [Array.size_modify]; exact hlt), Array.getElem_modify_self, hk]
  simp
theorem sc_size (s : Nat → Bool) : (sc s).size = 12 := rfl
theorem sc_ext {s s' : Nat → Bool} (h : ∀ j, j < 12 → s' j = s j) : sc s' = sc s := by
  apply Array.ext (by rfl)
  intro i h1 h2
  have hi : i < 12 := h1
  have e1 := sc_at s' i hi
  have e2 := sc_at s i hi
  rw [Array.getElem?_eq_getElem h1] at e1
  rw [Array.getElem?_eq_getElem h2] at e2
  injection e1 with e1
  injection e2 with e2
  rw [e1, e2, h i hi]
theorem SetAt.set {W : World} {b k : Nat} {s s' : Nat → Bool} {v : Bool} (h : SetAt W b s) (hk : k < 12) (hv : s' k = v) (he : ∀ j, j < 12 → j ≠ k → s' j = s j) : SetAt (W.setCell ⟨b, k, none⟩ (.bool v)) b s' := by
  unfold SetAt
  rw [heap_set h]
  have e : (sc s).setIfInBounds k (.bool v) = sc s' := by
    apply Array.ext_getElem?
    intro i
    by_cases hi : i < 12
    · rw [sc_at s' i hi]
      by_cases e : i = k
      · subst e; simp [hv, sc_size, hi]
      · rw [Array.getElem?_setIfInBounds_ne (by omega), sc_at s i hi, he i hi e]
    · rw [Array.getElem?_eq_none (by rw [Array.size_setIfInBounds, sc_size]; omega), Array.getElem?_eq_none (by rw [sc_size]; omega)]
  rw [e]
theorem SetAt.other {W : World} {b g k : Nat} {s : Nat → Bool} {u : Value} (h : SetAt W b s) (hne : b ≠ g) : SetAt (W.setCell ⟨g, k, none⟩ u) b s := (Below.heap_setCell W ⟨g, k, none⟩ u b hne).trans h
/-- A set in a variable, as the walk asks for it. -/
structure Cells12 (W : World) (b : Nat) (s : Nat → Bool) : Prop where
  c0 : W.cell? ⟨b, 0, none⟩ = some (.bool (s 0))
  c1 : W.cell? ⟨b, 1, none⟩ = some (.bool (s 1))
  c2 : W.cell? ⟨b, 2, none⟩ = some (.bool (s 2))
  c3 : W.cell? ⟨b, 3, none⟩ = some (.bool (s 3))
  c4 : W.cell? ⟨b, 4, none⟩ = some (.bool (s 4))
  c5 : W.cell? ⟨b, 5, none⟩ = some (.bool (s 5))
  c6 : W.cell? ⟨b, 6, none⟩ = some (.bool (s 6))
  c7 : W.cell? ⟨b, 7, none⟩ = some (.bool (s 7))
  c8 : W.cell? ⟨b, 8, none⟩ = some (.bool (s 8))
  c9 : W.cell? ⟨b, 9, none⟩ = some (.bool (s 9))
  c10 : W.cell? ⟨b, 10, none⟩ = some (.bool (s 10))
  c11 : W.cell? ⟨b, 11, none⟩ = some (.bool (s 11))
theorem SetAt.c12 {W : World} {b : Nat} {s : Nat → Bool} (h : SetAt W b s) : Cells12 W b s :=
  ⟨(h.cell (by omega)).1, (h.cell (by omega)).1, (h.cell (by omega)).1, (h.cell (by omega)).1, (h.cell (by omega)).1, (h.cell (by omega)).1, (h.cell (by omega)).1, (h.cell (by omega)).1, (h.cell (by omega)).1, (h.cell (by omega)).1, (h.cell (by omega)).1, (h.cell (by omega)).1⟩
structure Free12 (W : World) (b : Nat) : Prop where
  f0 : W.frozen? ⟨b, 0, none⟩ = false
  f1 : W.frozen? ⟨b, 1, none⟩ = false
  f2 : W.frozen? ⟨b, 2, none⟩ = false
  f3 : W.frozen? ⟨b, 3, none⟩ = false
  f4 : W.frozen? ⟨b, 4, none⟩ = false
  f5 : W.frozen? ⟨b, 5, none⟩ = false
  f6 : W.frozen? ⟨b, 6, none⟩ = false
  f7 : W.frozen? ⟨b, 7, none⟩ = false
  f8 : W.frozen? ⟨b, 8, none⟩ = false
  f9 : W.frozen? ⟨b, 9, none⟩ = false
  f10 : W.frozen? ⟨b, 10, none⟩ = false
  f11 : W.frozen? ⟨b, 11, none⟩ = false
theorem SetAt.f12 {W : World} {b : Nat} {s : Nat → Bool} (h : SetAt W b s) : Free12 W b :=
  ⟨(h.cell (by omega)).2, (h.cell (by omega)).2, (h.cell (by omega)).2, (h.cell (by omega)).2, (h.cell (by omega)).2, (h.cell (by omega)).2, (h.cell (by omega)).2, (h.cell (by omega)).2, (h.cell (by omega)).2, (h.cell (by omega)).2, (h.cell (by omega)).2, (h.cell (by omega)).2⟩
structure MinI (w : World) (a b : Nat → Bool) (k : Nat) (W : World) : Prop where
  x : SetAt W w.heap.size (fun j => if j < k then a j && !b j else a j)
  z : SetAt W (w.heap.size + 1 + 1) (fun _ => false)
  bw : Below w.heap.size w W
set_option maxHeartbeats 2000000 in
set_option maxRecDepth 100000 in
theorem minus_any (a b : Nat → Bool) (w : World) : Calls Try.prog 85 #[setV a, setV b] w fun e w' => e = .returned (setV (fun j => a j && !b j)) ∧ Below w.heap.size w w' := by
  obtain ⟨wa, hwa⟩ : ∃ wa, w.alloc (.cells (sc a) 79) = wa := ⟨_, rfl⟩
  obtain ⟨wb, hwb⟩ : ∃ wb, wa.alloc (.cells (sc b) 79) = wb := ⟨_, rfl⟩
  obtain ⟨wc, hwc⟩ : ∃ wc, wb.alloc (.cells (sc (fun _ => false)) 79) = wc := ⟨_, rfl⟩
  have sa : wa.heap.size = w.heap.size + 1 := by rw [← hwa]; simp
  have sb : wb.heap.size = w.heap.size + 1 + 1 := by rw [← hwb]; simp [sa]
  have ba : Below w.heap.size w wa := by rw [← hwa]; exact (Below.refl _ _).alloc (Nat.le_refl _) _
  have bb : Below wa.heap.size wa wb := by rw [← hwb]; exact (Below.refl _ _).alloc (Nat.le_refl _) _
  have bc : Below wb.heap.size wb wc := by rw [← hwc]; exact (Below.refl _ _).alloc (Nat.le_refl _) _
  have fa : SetAt wa w.heap.size a := by rw [← hwa]; exact SetAt.new _ _
  have fb : SetAt wb (w.heap.size + 1) b := by rw [← sa, ← hwb]; exact SetAt.new _ _
  have fb2 := fb.after bc
  have hI : Keep (MinI w a b 0 wc) := ⟨((fa.after bb).after bc : SetAt wc w.heap.size a), by rw [← sb, ← hwc]; exact SetAt.new _ _, (ba.trans (bb.mono (by omega))).trans (bc.mono (by omega))⟩
  have hw : ((w.alloc (.cells (sc a) 79)).alloc (.cells (sc b) 79)).alloc (.cells (sc (fun _ => false)) 79) = wc := by rw [hwa, hwb, hwc]
  clear hwa hwb hwc sa sb ba bb bc fa fb
  obtain ⟨c0, c1, c2, c3, c4, c5, c6, c7, c8, c9, c10, c11⟩ := fb2.c12
  clear fb2
  have hia := fun k hk w => idx49 b k hk w
  unfold setV sc at *
  go_enter Try.func85, Try.ntmps85
  go_wp2
  try rw [hw]
  clear hw c0 c1 c2 c3 c4 c5 c6 c7 c8 c9 c10 c11
  have hiak := Keep.mk hia
  clear hia
  go_loopw [8] (fun i wr => ∃ k : Nat, k ≤ 12 ∧ i = .int .i64 k ∧ Keep (MinI w a b k wr)) (fun i _ => 12 - (intOf i).toNat)
  case atStart => exact ⟨0, by omega, rfl, hI⟩
  case round =>
    obtain ⟨k, hk, rfl, hI⟩ := hrel
    by_cases hlt : k < 12
    · have hlt' : (k : Int) < 12 := by omega
      have nk : ¬ (k : Int) < 0 := by omega
      have hw1 : IntKind.i64.wrap ((k : Int) + 1) = (k : Int) + 1 := IntWalk.i64_in _ (by omega)
      have hidx := fun w => hiak.out k hlt w
      obtain ⟨cx, fx⟩ := hI.out.x.cell (k := k) hlt
      simp only [Nat.lt_irrefl, if_false] at cx
      have fin : ∀ v : Bool, v = (a k && !b k) → MinI w a b (k + 1) (wr.setCell ⟨w.heap.size, k, none⟩ (.bool v)) := fun v hv => by
        refine ⟨hI.out.x.set hlt (by rw [if_pos (by omega), hv]) (fun j _ hj => ?_), hI.out.z.other (by omega), hI.out.bw.setCell (p := ⟨w.heap.size, k, none⟩) (by show w.heap.size ≤ w.heap.size; omega) _⟩
        by_cases e : j < k
        · rw [if_pos (by omega), if_pos e]
        · rw [if_neg (by omega), if_neg e]
      have fink := Keep.mk fin
      clear fin
      cases ha : a k <;> cases hb : b k <;> rw [ha] at cx <;> rw [hb] at hidx <;> go_wp2
      · exact ⟨⟨k + 1, by omega, by go_num, ⟨fink.out false (by rw [ha, hb]; rfl)⟩⟩, by simp [intOf]; omega⟩
      · exact ⟨⟨k + 1, by omega, by go_num, ⟨fink.out false (by rw [ha, hb]; rfl)⟩⟩, by simp [intOf]; omega⟩
      · exact ⟨⟨k + 1, by omega, by go_num, ⟨fink.out true (by rw [ha, hb]; rfl)⟩⟩, by simp [intOf]; omega⟩
      · exact ⟨⟨k + 1, by omega, by go_num, ⟨fink.out false (by rw [ha, hb]; rfl)⟩⟩, by simp [intOf]; omega⟩
    · have : k = 12 := by omega
      subst this
      have hx : SetAt wr w.heap.size (fun j => a j && !b j) := by
        have h := hI.out.x
        unfold SetAt at h ⊢
        rw [h, sc_ext (fun j hj => by rw [if_pos hj])]
      obtain ⟨x0, x1, x2, x3, x4, x5, x6, x7, x8, x9, x10, x11⟩ := hx.c12
      obtain ⟨z0, z1, z2, z3, z4, z5, z6, z7, z8, z9, z10, z11⟩ := hI.out.z.c12
      obtain ⟨f0, f1, f2, f3, f4, f5, f6, f7, f8, f9, f10, f11⟩ := hI.out.z.f12
      have hbk := Keep.mk hI.out.bw
      clear hI hx hiak
      go_wp2
      refine bodyPost_ret (v := .agg #[.bool (a 0 && !b 0), .bool (a 1 && !b 1), .bool (a 2 && !b 2), .bool (a 3 && !b 3), .bool (a 4 && !b 4), .bool (a 5 && !b 5), .bool (a 6 && !b 6), .bool (a 7 && !b 7), .bool (a 8 && !b 8), .bool (a 9 && !b 9), .bool (a 10 && !b 10), .bool (a 11 && !b 11)]) (by simp [results, Try.results85, go_sem]; try go_simp) rfl ?_
      refine ⟨rfl, ?_⟩
      iterate 12 (refine Below.setCell ?_ (by show w.heap.size ≤ w.heap.size + 1 + 1; omega) _)
      exact hbk.out
set_option maxHeartbeats 2000000 in
set_option maxRecDepth 100000 in
theorem with_any (s : Nat → Bool) (v : Nat) (hv : v < 12) (w : World) : Calls Try.prog 92 #[setV s, .int .i64 v] w fun e w' => e = .returned (setV (fun j => if j = v then true else s j)) ∧ Below w.heap.size w w' := by
  obtain ⟨wa, hwa⟩ : ∃ wa, w.alloc (.cells (sc s) 79) = wa := ⟨_, rfl⟩
  obtain ⟨wc, hwc⟩ : ∃ wc, wa.alloc (.cells (sc (fun _ => false)) 79) = wc := ⟨_, rfl⟩
  have sa : wa.heap.size = w.heap.size + 1 := by rw [← hwa]; simp
  have ba : Below w.heap.size w wa := by rw [← hwa]; exact (Below.refl _ _).alloc (Nat.le_refl _) _
  have bc : Below wa.heap.size wa wc := by rw [← hwc]; exact (Below.refl _ _).alloc (Nat.le_refl _) _
  have fa : SetAt wa w.heap.size s := by rw [← hwa]; exact SetAt.new _ _
  have fa2 := fa.after bc
  have fz : SetAt wc (w.heap.size + 1) (fun _ => false) := by rw [← sa, ← hwc]; exact SetAt.new _ _
  have bw := ba.trans (bc.mono (by omega))
  have hw : (w.alloc (.cells (sc s) 79)).alloc (.cells (sc (fun _ => false)) 79) = wc := by rw [hwa, hwc]
  clear hwa hwc sa ba bc fa
  obtain ⟨cx, fx⟩ := fa2.cell (k := v) hv
  have hv1 : (v : Int) < 12 := by omega
  have hv2 : ¬ (v : Int) < 0 := by omega
  obtain ⟨s', hs'⟩ : ∃ s' : Nat → Bool, Keep (∀ j, s' j = (fun j => if j = v then true else s j) j) := ⟨_, ⟨fun _ => rfl⟩⟩
  rw [show (fun j => if j = v then true else s j) = s' from funext fun j => (hs'.out j).symm]
  have hx : SetAt (wc.setCell ⟨w.heap.size, v, none⟩ (.bool true)) w.heap.size s' := fa2.set hv (by rw [hs'.out]; simp) (fun j _ hj => by rw [hs'.out]; simp [hj])
  have hz : SetAt (wc.setCell ⟨w.heap.size, v, none⟩ (.bool true)) (w.heap.size + 1) (fun _ => false) := fz.other (by omega)
  have hbw : Below w.heap.size w (wc.setCell ⟨w.heap.size, v, none⟩ (.bool true)) := bw.setCell (p := ⟨w.heap.size, v, none⟩) (by show w.heap.size ≤ w.heap.size; omega) _
  obtain ⟨wd, hwd⟩ : ∃ wd, wc.setCell ⟨w.heap.size, v, none⟩ (.bool true) = wd := ⟨_, rfl⟩
  rw [hwd] at hx hz hbw
  obtain ⟨x0, x1, x2, x3, x4, x5, x6, x7, x8, x9, x10, x11⟩ := hx.c12
  obtain ⟨z0, z1, z2, z3, z4, z5, z6, z7, z8, z9, z10, z11⟩ := hz.c12
  obtain ⟨f0, f1, f2, f3, f4, f5, f6, f7, f8, f9, f10, f11⟩ := hz.f12
  have hbk := Keep.mk hbw
  have fz' := Keep.mk fz
  clear fa2 fz hx hz hbw bw
  unfold setV sc at *
  go_enter Try.func92, Try.ntmps92
  go_wp2
  refine bodyPost_ret (v := .agg #[.bool (s' 0), .bool (s' 1), .bool (s' 2), .bool (s' 3), .bool (s' 4), .bool (s' 5), .bool (s' 6), .bool (s' 7), .bool (s' 8), .bool (s' 9), .bool (s' 10), .bool (s' 11)]) (by simp [results, Try.results92, go_sem]; try go_simp) rfl ?_
  refine ⟨rfl, ?_⟩
  iterate 12 (refine Below.setCell ?_ (by show w.heap.size ≤ w.heap.size + 1; omega) _)
  exact hbk.out
set_option maxHeartbeats 2000000 in
set_option maxRecDepth 100000 in
theorem without_any (s : Nat → Bool) (v : Nat) (hv : v < 12) (w : World) : Calls Try.prog 87 #[setV s, .int .i64 v] w fun e w' => e = .returned (setV (fun j => if j = v then false else s j)) ∧ Below w.heap.size w w' := by
  obtain ⟨wa, hwa⟩ : ∃ wa, w.alloc (.cells (sc s) 79) = wa := ⟨_, rfl⟩
  obtain ⟨wc, hwc⟩ : ∃ wc, wa.alloc (.cells (sc (fun _ => false)) 79) = wc := ⟨_, rfl⟩
  have sa : wa.heap.size = w.heap.size + 1 := by rw [← hwa]; simp
  have ba : Below w.heap.size w wa := by rw [← hwa]; exact (Below.refl _ _).alloc (Nat.le_refl _) _
  have bc : Below wa.heap.size wa wc := by rw [← hwc]; exact (Below.refl _ _).alloc (Nat.le_refl _) _
  have fa : SetAt wa w.heap.size s := by rw [← hwa]; exact SetAt.new _ _
  have fa2 := fa.after bc
  have fz : SetAt wc (w.heap.size + 1) (fun _ => false) := by rw [← sa, ← hwc]; exact SetAt.new _ _
  have bw := ba.trans (bc.mono (by omega))
  have hw : (w.alloc (.cells (sc s) 79)).alloc (.cells (sc (fun _ => false)) 79) = wc := by rw [hwa, hwc]
  clear hwa hwc sa ba bc fa
  obtain ⟨cx, fx⟩ := fa2.cell (k := v) hv
  have hv1 : (v : Int) < 12 := by omega
  have hv2 : ¬ (v : Int) < 0 := by omega
  obtain ⟨s', hs'⟩ : ∃ s' : Nat → Bool, Keep (∀ j, s' j = (fun j => if j = v then false else s j) j) := ⟨_, ⟨fun _ => rfl⟩⟩
  rw [show (fun j => if j = v then false else s j) = s' from funext fun j => (hs'.out j).symm]
  have hx : SetAt (wc.setCell ⟨w.heap.size, v, none⟩ (.bool false)) w.heap.size s' := fa2.set hv (by rw [hs'.out]; simp) (fun j _ hj => by rw [hs'.out]; simp [hj])
  have hz : SetAt (wc.setCell ⟨w.heap.size, v, none⟩ (.bool false)) (w.heap.size + 1) (fun _ => false) := fz.other (by omega)
  have hbw : Below w.heap.size w (wc.setCell ⟨w.heap.size, v, none⟩ (.bool false)) := bw.setCell (p := ⟨w.heap.size, v, none⟩) (by show w.heap.size ≤ w.heap.size; omega) _
  obtain ⟨wd, hwd⟩ : ∃ wd, wc.setCell ⟨w.heap.size, v, none⟩ (.bool false) = wd := ⟨_, rfl⟩
  rw [hwd] at hx hz hbw
  obtain ⟨x0, x1, x2, x3, x4, x5, x6, x7, x8, x9, x10, x11⟩ := hx.c12
  obtain ⟨z0, z1, z2, z3, z4, z5, z6, z7, z8, z9, z10, z11⟩ := hz.c12
  obtain ⟨f0, f1, f2, f3, f4, f5, f6, f7, f8, f9, f10, f11⟩ := hz.f12
  have hbk := Keep.mk hbw
  have fz' := Keep.mk fz
  clear fa2 fz hx hz hbw bw
  unfold setV sc at *
  go_enter Try.func87, Try.ntmps87
  go_wp2
  refine bodyPost_ret (v := .agg #[.bool (s' 0), .bool (s' 1), .bool (s' 2), .bool (s' 3), .bool (s' 4), .bool (s' 5), .bool (s' 6), .bool (s' 7), .bool (s' 8), .bool (s' 9), .bool (s' 10), .bool (s' 11)]) (by simp [results, Try.results87, go_sem]; try go_simp) rfl ?_
  refine ⟨rfl, ?_⟩
  iterate 12 (refine Below.setCell ?_ (by show w.heap.size ≤ w.heap.size + 1; omega) _)
  exact hbk.out
end Go.Proofs.Yteekigpdiklppaa
