import Derived.Test.YteekigpdiklppaaWOnly
set_option linter.unusedSimpArgs false
set_option linter.unusedVariables false
namespace Go.Proofs.Yteekigpdiklppaa
open Go Go.Proofs Go.RowKit Go.Seq
attribute [local go_sem] Oper.semAt_some
set_option maxRecDepth 100000 in
theorem SetAt.store12 {W : World} {b : Nat} {s s' : Nat → Bool} (h : SetAt W b s) : SetAt ((((((((((((W.setCell ⟨b, 0, none⟩ (.bool (s' 0))).setCell ⟨b, 1, none⟩ (.bool (s' 1))).setCell ⟨b, 2, none⟩ (.bool (s' 2))).setCell ⟨b, 3, none⟩ (.bool (s' 3))).setCell ⟨b, 4, none⟩ (.bool (s' 4))).setCell ⟨b, 5, none⟩ (.bool (s' 5))).setCell ⟨b, 6, none⟩ (.bool (s' 6))).setCell ⟨b, 7, none⟩ (.bool (s' 7))).setCell ⟨b, 8, none⟩ (.bool (s' 8))).setCell ⟨b, 9, none⟩ (.bool (s' 9))).setCell ⟨b, 10, none⟩ (.bool (s' 10))).setCell ⟨b, 11, none⟩ (.bool (s' 11))) b s' := by
  unfold SetAt at *

  have h0 := heap_set h (i := 0) (.bool (s' 0))
  have h1 := heap_set h0 (i := 1) (.bool (s' 1))
  have h2 := heap_set h1 (i := 2) (.bool (s' 2))
  have h3 := heap_set h2 (i := 3) (.bool (s' 3))
  have h4 := heap_set h3 (i := 4) (.bool (s' 4))
  have h5 := heap_set h4 (i := 5) (.bool (s' 5))
  have h6 := heap_set h5 (i := 6) (.bool (s' 6))
  have h7 := heap_set h6 (i := 7) (.bool (s' 7))
  have h8 := heap_set h7 (i := 8) (.bool (s' 8))
  have h9 := heap_set h8 (i := 9) (.bool (s' 9))
  have h10 := heap_set h9 (i := 10) (.bool (s' 10))
  have h11 := heap_set h10 (i := 11) (.bool (s' 11))
  rw [h11]
  simp [sc]
theorem vsTo_lt {s : Nat → Bool} {k u : Nat} (h : u ∈ vsTo s k) : u < k ∧ s u = true := by
  unfold vsTo at h
  rw [List.mem_filter] at h
  exact ⟨by simpa using h.1, h.2⟩
theorem onlyOf_or (D : Nat → Bool) : onlyOf D = -1 ∨ ∃ u : Nat, u < 12 ∧ onlyOf D = (u : Int) := by
  unfold onlyOf
  cases hx : vsTo D 12 with
  | nil => exact .inl rfl
  | cons u rest =>
    cases rest with
    | nil => exact .inr ⟨u, (vsTo_lt (k := 12) (by rw [hx]; simp)).1, rfl⟩
    | cons y post => exact .inl rfl
/-- What is wet behind a round of forcing by the places of a list. -/
def fcd (adj : Nat → Nat → Bool) (wet : Nat → Bool) (pre : List Nat) (j : Nat) : Bool := wet j || pre.any fun v => onlyOf (fun u => adj v u && !wet u) == (j : Int)
structure FcI (w : World) (b n : Nat) (adj : Nat → Nat → Bool) (wet : Nat → Bool) (pre : List Nat) (W : World) : Prop where
  it : SetAt W (w.heap.size + 1 + 1 + 1 + 1) wet
  g : GraphAt W b n adj
  p : W.cell? ⟨w.heap.size, 0, none⟩ = some (.pointer (some ⟨b, 0, none⟩))
  x : SetAt W (w.heap.size + 1) wet
  z : SetAt W (w.heap.size + 1 + 1) (fun _ => false)
  nx : SetAt W (w.heap.size + 1 + 1 + 1) (fcd adj wet pre)
  bw : Below w.heap.size w W
theorem FcI.below {w W W' : World} {b n B : Nat} {adj : Nat → Nat → Bool} {wet : Nat → Bool} {pre : List Nat} (h : FcI w b n adj wet pre W) (hb : Below B W W') (hB : w.heap.size + 5 ≤ B) (hg : b < w.heap.size) : FcI w b n adj wet pre W' :=
  ⟨h.it.below hb (by omega), h.g.below hb (by omega), (hb.cell (p := ⟨w.heap.size, 0, none⟩) (by show w.heap.size < B; omega)).trans h.p, h.x.below hb (by omega), h.z.below hb (by omega), h.nx.below hb (by omega), h.bw.trans (hb.mono (by omega))⟩
set_option maxHeartbeats 4000000 in
set_option maxRecDepth 100000 in
theorem force_any {b n : Nat} {adj : Nat → Nat → Bool} {w : World} (wet : Nat → Bool) (hg : GraphAt w b n adj) :
    Calls Try.prog 59 #[.pointer (some ⟨b, 0, none⟩), setV wet] w fun e w' => e = .returned (setV (fcd adj wet (vsTo wet 12))) ∧ Below w.heap.size w w' := by
  have hgl := hg.lt
  obtain ⟨wa, hwa⟩ : ∃ wa, w.alloc (.cells #[.pointer (some ⟨b, 0, none⟩)] 77) = wa := ⟨_, rfl⟩
  obtain ⟨wb, hwb⟩ : ∃ wb, wa.alloc (.cells (sc wet) 79) = wb := ⟨_, rfl⟩
  obtain ⟨wc, hwc⟩ : ∃ wc, wb.alloc (.cells (sc (fun _ => false)) 79) = wc := ⟨_, rfl⟩
  have sa : wa.heap.size = w.heap.size + 1 := by rw [← hwa]; simp
  have sb : wb.heap.size = w.heap.size + 1 + 1 := by rw [← hwb]; simp [sa]
  have ss : wc.heap.size = w.heap.size + 1 + 1 + 1 := by rw [← hwc]; simp [sb]
  have ba : Below w.heap.size w wa := by rw [← hwa]; exact (Below.refl _ _).alloc (Nat.le_refl _) _
  have bb : Below wa.heap.size wa wb := by rw [← hwb]; exact (Below.refl _ _).alloc (Nat.le_refl _) _
  have bc : Below wb.heap.size wb wc := by rw [← hwc]; exact (Below.refl _ _).alloc (Nat.le_refl _) _
  have p0 : wa.heap[w.heap.size]? = some (.cells #[.pointer (some ⟨b, 0, none⟩)] 77 (0, 0)) := by rw [← hwa]; exact World.alloc_heap_new w _
  have fb : SetAt wb (w.heap.size + 1) wet := by rw [← sa, ← hwb]; exact SetAt.new _ _
  have fz : SetAt wc (w.heap.size + 1 + 1) (fun _ => false) := by rw [← sb, ← hwc]; exact SetAt.new _ _
  have fx := fb.after bc
  have bw : Below w.heap.size w wc := (ba.trans (bb.mono (by omega))).trans (bc.mono (by omega))
  have hp : wc.heap[w.heap.size]? = some (.cells #[.pointer (some ⟨b, 0, none⟩)] 77 (0, 0)) := by rw [(bb.trans (bc.mono (by omega))).block _ (by omega)]; exact p0
  have hw : ((w.alloc (.cells #[.pointer (some ⟨b, 0, none⟩)] 77)).alloc (.cells (sc wet) 79)).alloc (.cells (sc (fun _ => false)) 79) = wc := by rw [hwa, hwb, hwc]
  clear hwa hwb hwc sa sb ba bb bc p0 fb
  obtain ⟨x0, x1, x2, x3, x4, x5, x6, x7, x8, x9, x10, x11⟩ := fx.c12
  have q39 := fun w => vertices_any wet w
  obtain ⟨wd, hwd⟩ : ∃ wd, wc.alloc (.cells (sc wet) 79) = wd := ⟨_, rfl⟩
  have bd : Below wc.heap.size wc wd := by rw [← hwd]; exact (Below.refl _ _).alloc (Nat.le_refl _) _
  have sd : wd.heap.size = w.heap.size + 4 := by rw [← hwd]; simp [ss]
  have fd : SetAt wd (w.heap.size + 1 + 1 + 1) wet := by rw [← ss, ← hwd]; exact SetAt.new _ _
  obtain ⟨we, hwe⟩ : ∃ we, wd.alloc (.cells (sc wet) 79) = we := ⟨_, rfl⟩
  have be : Below wd.heap.size wd we := by rw [← hwe]; exact (Below.refl _ _).alloc (Nat.le_refl _) _
  have se : we.heap.size = w.heap.size + 5 := by rw [← hwe]; simp [sd]
  have fe : SetAt we (w.heap.size + 1 + 1 + 1 + 1) wet := by
    have h := SetAt.new wd wet
    rw [hwe, sd] at h; exact h
  have bde := bd.trans (be.mono bd.size)
  have hI : FcI w b n adj wet [] we := ⟨fe, (hg.below bw hgl).below bde (by omega), by simp [World.cell?, (bde.block w.heap.size (by omega)).trans hp], fx.below bde (by omega), fz.below bde (by omega), by
    have h := fd.below be (by omega)
    unfold SetAt at h ⊢
    rw [h, sc_ext (s := wet) (s' := fcd adj wet []) (fun j _ => by simp [fcd])], bw.trans (bde.mono (by omega))⟩
  have hwde : (wc.alloc (.cells (sc wet) 79)).alloc (.cells (sc wet) 79) = we := by rw [hwd, hwe]
  clear hwd hwe bd be bde fd fe fx fz hp bw
  have q40 := Keep.mk (fun (W : World) (v : Nat) (hv : v < 12) (h : GraphAt W b n adj) => onlyDry_any wet h hv)
  unfold setV sc at q39 q40 hw hwde ⊢
  refine (callsIn_wide (n := 0)).1 ?_
  refine callsIn_of_wp_marks Try.func59 rfl trivial ?_ rfl
  simp only [Try.ntmps59, List.size_toArray, List.length_cons, List.length_nil, Nat.reduceAdd, Nat.reduceSub, Array.replicate_succ, Array.replicate_zero, List.push_toArray, List.append_toArray, List.nil_append, List.cons_append]
  refine wpIn_wide.2 ?_
  go_wp2_with (first
    | (go_at_call 62; (with_reducible refine (q39 _).mono ?_); rintro e w5 ⟨rfl, hw5⟩; rw [hw5]; clear hw5 w5))
  refine (wpIn_wide (n := 0)).1 ?_
  try rw [hwde]

  clear hwde hw q39 x0 x1 x2 x3 x4 x5 x6 x7 x8 x9 x10 x11
  refine range_gives (gf := 83) (lb := #[.pointer (some ⟨w.heap.size + 1 + 1 + 1 + 1, 0, none⟩)]) rfl (enters_of Try.func83 (by kernel_rfl) rfl) (encs := encK) (xs := vsTo wet 12)
    (R := fun V => SetAt V (w.heap.size + 1 + 1 + 1 + 1) wet) (fun x => rfl) (fun W1' _ _ => (vertices_gives W1').gives)
    (fun pre V => FcI w b n adj wet pre V ∧ w.heap.size + 5 ≤ V.heap.size) ?_ (fun pre V h => h.1.it) ⟨hI, by omega⟩
    (fun x a' V => a' = { tmps := #[.pointer (some ⟨b, 0, none⟩), .agg #[.bool (wet 0), .bool (wet 1), .bool (wet 2), .bool (wet 3), .bool (wet 4), .bool (wet 5), .bool (wet 6), .bool (wet 7), .bool (wet 8), .bool (wet 9), .bool (wet 10), .bool (wet 11)], .pointer (some ⟨w.heap.size, 0, none⟩), .pointer (some ⟨w.heap.size + 1, 0, none⟩), .pointer (some ⟨w.heap.size + 1 + 1, 0, none⟩), .pointer (some ⟨w.heap.size + 1 + 1 + 1, 0, none⟩), .int .i64 (x : Nat), undef, .agg #[.bool (wet 0), .bool (wet 1), .bool (wet 2), .bool (wet 3), .bool (wet 4), .bool (wet 5), .bool (wet 6), .bool (wet 7), .bool (wet 8), .bool (wet 9), .bool (wet 10), .bool (wet 11)], .agg #[.bool (wet 0), .bool (wet 1), .bool (wet 2), .bool (wet 3), .bool (wet 4), .bool (wet 5), .bool (wet 6), .bool (wet 7), .bool (wet 8), .bool (wet 9), .bool (wet 10), .bool (wet 11)], .func (.func 83) #[] #[.pointer (some ⟨w.heap.size + 1 + 1 + 1 + 1, 0, none⟩)], .int .i64 (x : Nat), undef, undef, undef, undef, undef, undef, undef, undef, undef], defers := [] })
    ?_ ?assign ?body ?done
  · rintro pre V V' ⟨k1, k2⟩ hb
    exact ⟨k1.below hb (by omega) hgl, Nat.le_trans k2 hb.size⟩
  · rintro x a' V V' h hf
    exact h
  case assign =>
    intro l2 pre x V K hi hsz2 hK
    unfold encK
    gi_wp2
    exact hK _ _ (Below.refl V.heap.size V) (by first | rfl | simp)
  case body =>
    rintro l2 pre x a' V ⟨k1, k2⟩ rfl hsz2 ⟨post, hpost⟩
    have hx : x < 12 := (vsTo_lt (s := wet) (k := 12) (by rw [hpost]; simp)).1
    have q := q40.out V x hx k1.g
    have k1k := Keep.mk k1
    have p0 := k1.p
    obtain ⟨x0, x1, x2, x3, x4, x5, x6, x7, x8, x9, x10, x11⟩ := k1.x.c12
    clear k1 q40
    obtain ⟨D, hD⟩ : ∃ D : Nat → Bool, (fun u => adj x u && !wet u) = D := ⟨_, rfl⟩
    rw [hD] at q
    rcases onlyOf_or D with e0 | ⟨u, hu, e0⟩
    · have hfc : Keep (∀ j, fcd adj wet (pre ++ [x]) j = fcd adj wet pre j) := ⟨fun j => by
        unfold fcd
        rw [List.any_append]
        simp [hD, e0, show ((-1 : Int) == (j : Int)) = false by rw [beq_eq_false_iff_ne]; omega]⟩
      rw [e0] at q
      gi_wp2_with (refine ⟨trivial, rfl, ?_⟩; gi_at_call 81; refine (CallsIn.inRound l2 (callsIn_wide.2 q)).mono ?_; rintro e V5 ⟨rfl, hb5⟩)
      have k5 := k1k.out.below hb5 (by omega) hgl
      refine ⟨⟨⟨k5.it, k5.g, k5.p, k5.x, k5.z, ?_, k5.bw⟩, Nat.le_trans k2 hb5.size⟩, From.of_below hb5 (Nat.le_refl _), hb5.os, hb5.tape, hb5.output⟩
      have h := k5.nx
      unfold SetAt at h ⊢
      rw [h, sc_ext (fun j _ => hfc.out j)]
    · have hfc : Keep (∀ j, fcd adj wet (pre ++ [x]) j = (fcd adj wet pre j || decide (j = u))) := ⟨fun j => by
        unfold fcd
        rw [List.any_append, Bool.or_assoc]
        have he : ((u : Int) == (j : Int)) = decide (j = u) := by
          by_cases h : j = u
          · subst h; simp
          · rw [decide_eq_false h, beq_eq_false_iff_ne]; omega
        simp [hD, e0, he]⟩
      rw [e0] at q
      have hu1 : (u : Int) < 12 := by omega
      have hu2 : ¬ (u : Int) < 0 := by omega
      have hu3 : (0 : Int) ≤ (u : Int) := by omega
      gi_wp2_with (refine ⟨trivial, rfl, ?_⟩; gi_at_call 81; refine (CallsIn.inRound l2 (callsIn_wide.2 q)).mono ?_; rintro e V5 ⟨rfl, hb5⟩; have k5 := Keep.mk (k1k.out.below hb5 (by omega) hgl); obtain ⟨cu, fu⟩ := k5.out.nx.cell (k := u) hu)
      have k6 := k5.out
      refine ⟨⟨⟨k6.it.other (by omega), ⟨(World.cell?_of_block (a := ⟨b, 0, none⟩) (Below.heap_setCell _ _ _ _ (by show b ≠ w.heap.size + 1 + 1 + 1; omega))).trans k6.g.size, fun i j hi hj => (World.cell?_of_block (a := ⟨b, 1 + i * 12 + j, none⟩) (Below.heap_setCell _ _ _ _ (by show b ≠ w.heap.size + 1 + 1 + 1; omega))).trans (k6.g.at_ i j hi hj)⟩, (World.cell?_of_block (a := ⟨w.heap.size, 0, none⟩) (Below.heap_setCell _ _ _ _ (by show w.heap.size ≠ w.heap.size + 1 + 1 + 1; omega))).trans k6.p, k6.x.other (by omega), k6.z.other (by omega), k6.nx.set hu (by rw [hfc.out]; simp) (fun j _ hj => by rw [hfc.out]; simp [hj]), k6.bw.setCell (p := ⟨w.heap.size + 1 + 1 + 1, u, none⟩) (by show w.heap.size ≤ w.heap.size + 1 + 1 + 1; omega) _⟩, Nat.le_trans k2 hb5.size⟩, (From.of_below hb5 (Nat.le_refl _)).setCell (by show w.heap.size + 1 + 1 + 1 < w.heap.size + 5; omega) _, hb5.os, hb5.tape, hb5.output⟩
  case done =>
    rintro V ⟨k1, k2⟩ hsz2 hDf
    obtain ⟨F, hF⟩ : ∃ F, fcd adj wet (vsTo wet 12) = F := ⟨_, rfl⟩
    have k1n := k1.nx
    rw [hF] at k1n
    obtain ⟨y0, y1, y2, y3, y4, y5, y6, y7, y8, y9, y10, y11⟩ := k1n.c12
    obtain ⟨z0, z1, z2, z3, z4, z5, z6, z7, z8, z9, z10, z11⟩ := k1.z.c12
    obtain ⟨f0, f1, f2, f3, f4, f5, f6, f7, f8, f9, f10, f11⟩ := k1.z.f12
    have hst := Keep.mk (k1.z.store12 (s' := F))
    have hbk := Keep.mk k1.bw
    clear k1 k1n
    gi_wp2
    go_wp2
    have hbw : Below w.heap.size w ((((((((((((V.setCell ⟨w.heap.size + 1 + 1, 0, none⟩ (.bool (F 0))).setCell ⟨w.heap.size + 1 + 1, 1, none⟩ (.bool (F 1))).setCell ⟨w.heap.size + 1 + 1, 2, none⟩ (.bool (F 2))).setCell ⟨w.heap.size + 1 + 1, 3, none⟩ (.bool (F 3))).setCell ⟨w.heap.size + 1 + 1, 4, none⟩ (.bool (F 4))).setCell ⟨w.heap.size + 1 + 1, 5, none⟩ (.bool (F 5))).setCell ⟨w.heap.size + 1 + 1, 6, none⟩ (.bool (F 6))).setCell ⟨w.heap.size + 1 + 1, 7, none⟩ (.bool (F 7))).setCell ⟨w.heap.size + 1 + 1, 8, none⟩ (.bool (F 8))).setCell ⟨w.heap.size + 1 + 1, 9, none⟩ (.bool (F 9))).setCell ⟨w.heap.size + 1 + 1, 10, none⟩ (.bool (F 10))).setCell ⟨w.heap.size + 1 + 1, 11, none⟩ (.bool (F 11))) := by
      iterate 12 (refine Below.setCell ?_ (by show w.heap.size ≤ w.heap.size + 1 + 1; omega) _)
      exact hbk.out
    have hDf3 : ((((((((((((V.setCell ⟨w.heap.size + 1 + 1, 0, none⟩ (.bool (F 0))).setCell ⟨w.heap.size + 1 + 1, 1, none⟩ (.bool (F 1))).setCell ⟨w.heap.size + 1 + 1, 2, none⟩ (.bool (F 2))).setCell ⟨w.heap.size + 1 + 1, 3, none⟩ (.bool (F 3))).setCell ⟨w.heap.size + 1 + 1, 4, none⟩ (.bool (F 4))).setCell ⟨w.heap.size + 1 + 1, 5, none⟩ (.bool (F 5))).setCell ⟨w.heap.size + 1 + 1, 6, none⟩ (.bool (F 6))).setCell ⟨w.heap.size + 1 + 1, 7, none⟩ (.bool (F 7))).setCell ⟨w.heap.size + 1 + 1, 8, none⟩ (.bool (F 8))).setCell ⟨w.heap.size + 1 + 1, 9, none⟩ (.bool (F 9))).setCell ⟨w.heap.size + 1 + 1, 10, none⟩ (.bool (F 10))).setCell ⟨w.heap.size + 1 + 1, 11, none⟩ (.bool (F 11))).heap[we.heap.size]? = some (.deferred (some [])) := by
      iterate 12 (rw [Below.heap_setCell _ _ _ _ (by show we.heap.size ≠ w.heap.size + 1 + 1; omega)])
      exact hDf
    have hst := hst.out
    have s3 := hst.lt
    revert hst hbw hDf3 s3
    generalize ((((((((((((V.setCell ⟨w.heap.size + 1 + 1, 0, none⟩ (.bool (F 0))).setCell ⟨w.heap.size + 1 + 1, 1, none⟩ (.bool (F 1))).setCell ⟨w.heap.size + 1 + 1, 2, none⟩ (.bool (F 2))).setCell ⟨w.heap.size + 1 + 1, 3, none⟩ (.bool (F 3))).setCell ⟨w.heap.size + 1 + 1, 4, none⟩ (.bool (F 4))).setCell ⟨w.heap.size + 1 + 1, 5, none⟩ (.bool (F 5))).setCell ⟨w.heap.size + 1 + 1, 6, none⟩ (.bool (F 6))).setCell ⟨w.heap.size + 1 + 1, 7, none⟩ (.bool (F 7))).setCell ⟨w.heap.size + 1 + 1, 8, none⟩ (.bool (F 8))).setCell ⟨w.heap.size + 1 + 1, 9, none⟩ (.bool (F 9))).setCell ⟨w.heap.size + 1 + 1, 10, none⟩ (.bool (F 10))).setCell ⟨w.heap.size + 1 + 1, 11, none⟩ (.bool (F 11))) = V3
    intro hbw hDf3 hst s3
    refine Qr.leaves_mark hDf3 fun w' hk => ⟨.agg #[.bool (F 0), .bool (F 1), .bool (F 2), .bool (F 3), .bool (F 4), .bool (F 5), .bool (F 6), .bool (F 7), .bool (F 8), .bool (F 9), .bool (F 10), .bool (F 11)], ?_, by rw [← hF], hbw.trans (hk.below (by omega) (by omega))⟩
    have hst2 : SetAt w' (w.heap.size + 1 + 1) F := (hk.block _ s3 (by omega) (by omega)).trans hst
    obtain ⟨c0, c1, c2, c3, c4, c5, c6, c7, c8, c9, c10, c11⟩ := hst2.c12
    first
      | (rw [results_cell rfl]; go_simp)
      | (simp [results, Try.results59, go_sem]; go_simp)
end Go.Proofs.Yteekigpdiklppaa
