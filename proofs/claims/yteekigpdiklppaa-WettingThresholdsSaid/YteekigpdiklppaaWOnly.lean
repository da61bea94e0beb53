import Derived.Test.YteekigpdiklppaaWSize
set_option linter.unusedSimpArgs false
set_option linter.unusedVariables false
namespace Go.Proofs.Yteekigpdiklppaa
open Go Go.Proofs Go.RowKit Go.Seq
attribute [local go_sem] Oper.semAt_some
/-- A graph in memory: its number of places, and who is near whom. -/
structure GraphAt (W : World) (b n : Nat) (adj : Nat → Nat → Bool) : Prop where
  size : W.cell? ⟨b, 0, none⟩ = some (.int .i64 n)
  at_ : ∀ i j, i < 12 → j < 12 → W.cell? ⟨b, 1 + i * 12 + j, none⟩ = some (.bool (adj i j))
theorem GraphAt.lt {W : World} {b n : Nat} {adj : Nat → Nat → Bool} (h : GraphAt W b n adj) : b < W.heap.size := by
  rcases Nat.lt_or_ge b W.heap.size with h' | h'
  · exact h'
  · have := h.size; simp [World.cell?, Array.getElem?_eq_none h'] at this
theorem GraphAt.below {W W' : World} {B b n : Nat} {adj : Nat → Nat → Bool} (h : GraphAt W b n adj) (hb : Below B W W') (hl : b < B) : GraphAt W' b n adj :=
  ⟨(hb.cell (p := ⟨b, 0, none⟩) hl).trans h.size, fun i j hi hj => (hb.cell (p := ⟨b, 1 + i * 12 + j, none⟩) hl).trans (h.at_ i j hi hj)⟩
/-- The only place of a set, or -1. -/
def onlyOf (s : Nat → Bool) : Int := match vsTo s 12 with
  | [u] => (u : Int)
  | _ => -1
def hd (l : List Nat) : Int := match l with
  | [] => -1
  | u :: _ => (u : Int)
structure OnlI (w : World) (b n : Nat) (adj : Nat → Nat → Bool) (wet : Nat → Bool) (W : World) : Prop where
  g : GraphAt W b n adj
  x : SetAt W w.heap.size wet
  t6 : W.heap[w.heap.size + 1]? = some (.cells #[.int .i64 0] 3 (0, 0))
  t7 : W.heap[w.heap.size + 1 + 1]? = some (.cells #[.int .i64 (-1)] 3 (0, 0))
  bw : Below w.heap.size w W
  sz : w.heap.size + 3 ≤ W.heap.size
theorem OnlI.after {w W W' : World} {b n : Nat} {adj : Nat → Nat → Bool} {wet : Nat → Bool} (h : OnlI w b n adj wet W) (hb : Below W.heap.size W W') : OnlI w b n adj wet W' :=
  have := h.sz
  ⟨h.g.below hb h.g.lt, h.x.after hb, (hb.block _ (by omega)).trans h.t6, (hb.block _ (by omega)).trans h.t7, h.bw.trans (hb.mono h.bw.size), Nat.le_trans h.sz hb.size⟩
set_option maxHeartbeats 4000000 in
set_option maxRecDepth 100000 in
theorem onlyDry_any {b n v : Nat} {adj : Nat → Nat → Bool} {w : World} (wet : Nat → Bool) (hg : GraphAt w b n adj) (hv : v < 12) :
    Calls Try.prog 81 #[.pointer (some ⟨b, 0, none⟩), .int .i64 v, setV wet] w fun e w' => e = .returned (.int .i64 (onlyOf (fun u => adj v u && !wet u))) ∧ Below w.heap.size w w' := by
  have hmx : Try.prog.follows .mixedOrders = true := by kernel_rfl
  obtain ⟨wa, hwa⟩ : ∃ wa, w.alloc (.cells (sc wet) 79) = wa := ⟨_, rfl⟩
  obtain ⟨wb, hwb⟩ : ∃ wb, wa.alloc (.cells #[.int .i64 0] 3) = wb := ⟨_, rfl⟩
  obtain ⟨wc, hwc⟩ : ∃ wc, wb.alloc (.cells #[.int .i64 (-1)] 3) = wc := ⟨_, rfl⟩
  have sa : wa.heap.size = w.heap.size + 1 := by rw [← hwa]; simp
  have sb : wb.heap.size = w.heap.size + 1 + 1 := by rw [← hwb]; simp [sa]
  have ss : wc.heap.size = w.heap.size + 3 := by rw [← hwc]; simp [sb]
  have ba : Below w.heap.size w wa := by rw [← hwa]; exact (Below.refl _ _).alloc (Nat.le_refl _) _
  have bb : Below wa.heap.size wa wb := by rw [← hwb]; exact (Below.refl _ _).alloc (Nat.le_refl _) _
  have bc : Below wb.heap.size wb wc := by rw [← hwc]; exact (Below.refl _ _).alloc (Nat.le_refl _) _
  have fa : SetAt wa w.heap.size wet := by rw [← hwa]; exact SetAt.new _ _
  have t6 : wb.heap[w.heap.size + 1]? = some (.cells #[.int .i64 0] 3 (0, 0)) := by rw [← sa, ← hwb]; exact World.alloc_heap_new wa _
  have t7 : wc.heap[w.heap.size + 1 + 1]? = some (.cells #[.int .i64 (-1)] 3 (0, 0)) := by rw [← sb, ← hwc]; exact World.alloc_heap_new wb _
  have bw : Below w.heap.size w wc := (ba.trans (bb.mono (by omega))).trans (bc.mono (by omega))
  have hI : Keep (OnlI w b n adj wet wc) := ⟨hg.below bw hg.lt, (fa.after bb).after bc, (bc.block _ (by omega)).trans t6, t7, bw, by omega⟩
  have hw : ((w.alloc (.cells (sc wet) 79)).alloc (.cells #[.int .i64 0] 3)).alloc (.cells #[.int .i64 (-1)] 3) = wc := by rw [hwa, hwb, hwc]
  clear hwa hwb hwc sa sb ba bb bc fa t6 t7 bw
  have q47 := fun w => minus_any (adj v) wet w
  obtain ⟨D, hD⟩ : ∃ D : Nat → Bool, (fun u => adj v u && !wet u) = D := ⟨_, rfl⟩
  rw [hD] at q47 ⊢
  have q39 := fun w => vertices_any D w
  have hcw := Keep.mk (fun (W : World) (h : OnlI w b n adj wet W) => h.x.c12)
  have hca := Keep.mk (fun (W : World) (h : OnlI w b n adj wet W) (k : Nat) (hk : k < 12) => h.g.at_ v k hv hk)
  have hv1 : (v : Int) < 12 := by omega
  have hv2 : ¬ (v : Int) < 0 := by omega
  unfold setV sc at *
  refine (callsIn_wide (n := 0)).1 ?_
  refine callsIn_of_wp_marks Try.func81 rfl trivial ?_ rfl
  simp only [Try.ntmps81, List.size_toArray, List.length_cons, List.length_nil, Nat.reduceAdd, Nat.reduceSub, Array.replicate_succ, Array.replicate_zero, List.push_toArray, List.append_toArray, List.nil_append, List.cons_append]
  refine wpIn_wide.2 ?_
  go_wp2
  try rw [hw]
  clear hw
  refine (wpIn_wide (n := 0)).1 ?_
  refine Inv.region_inv (fun s a W => ∃ B, a = { tmps := #[.pointer (some ⟨b, 0, none⟩), .int .i64 v, .agg #[.bool (wet 0), .bool (wet 1), .bool (wet 2), .bool (wet 3), .bool (wet 4), .bool (wet 5), .bool (wet 6), .bool (wet 7), .bool (wet 8), .bool (wet 9), .bool (wet 10), .bool (wet 11)], undef, undef, .pointer (some ⟨w.heap.size, 0, none⟩), .pointer (some ⟨w.heap.size + 1, 0, none⟩), .pointer (some ⟨w.heap.size + 1 + 1, 0, none⟩), undef, if s 0 = true then .pointer (some ⟨b, 0, none⟩) else undef, if s 1 = true then .int .i64 v else undef, if s 2 = true then .pointer (some ⟨b, 0, none⟩) else undef, if s 3 = true then .pointer (some ⟨b, 1, none⟩) else undef, if s 4 = true then .pointer (some ⟨b, 1 + v * 12, none⟩) else undef, if s 5 = true then .agg #[.bool (adj v 0), .bool (adj v 1), .bool (adj v 2), .bool (adj v 3), .bool (adj v 4), .bool (adj v 5), .bool (adj v 6), .bool (adj v 7), .bool (adj v 8), .bool (adj v 9), .bool (adj v 10), .bool (adj v 11)] else undef, if s 6 = true then .agg #[.bool (wet 0), .bool (wet 1), .bool (wet 2), .bool (wet 3), .bool (wet 4), .bool (wet 5), .bool (wet 6), .bool (wet 7), .bool (wet 8), .bool (wet 9), .bool (wet 10), .bool (wet 11)] else undef, if s 7 = true then .agg #[.bool (D 0), .bool (D 1), .bool (D 2), .bool (D 3), .bool (D 4), .bool (D 5), .bool (D 6), .bool (D 7), .bool (D 8), .bool (D 9), .bool (D 10), .bool (D 11)] else undef, if s 8 = true then .func (.func 83) #[] #[.pointer (some ⟨B, 0, none⟩)] else undef, undef, undef, undef, undef, undef], defers := [] } ∧ OnlI w b n adj wet W ∧ (s 8 = true → SetAt W B D ∧ w.heap.size + 3 ≤ B)) hmx (by kernel_rfl) ?_ ?_ ?_
  · intro s hs
    refine ⟨0, ?_, hI.out.after ((Below.refl _ _).drew), fun e => (by rw [hs 8 (by decide)] at e; cases e)⟩
    simp only [hs 0 (by decide), hs 1 (by decide), hs 2 (by decide), hs 3 (by decide), hs 4 (by decide), hs 5 (by decide), hs 6 (by decide), hs 7 (by decide), hs 8 (by decide), Bool.false_eq_true, if_false]
  · refine ⟨?_, ?_, ?_, ?_, ?_, ?_, ?_, ?_, ?_, trivial⟩
    · rintro s a W hun hdep hbeh ⟨B, rfl, hT, hB⟩
      (try simp only [Nat.reduceAdd] at hun)
      refine .inl ⟨by rfl, Inv.comesV_val (.pointer (some ⟨b, 0, none⟩)) W (by (go_simp; (try rfl); try (intro hneg; omega))) ⟨B, by (simp only [Act.put, List.setIfInBounds_toArray, List.set_cons_succ, List.set_cons_zero, Manyd.upd, Nat.reduceAdd, Nat.reduceBEq, Bool.or_false, Bool.or_true, if_true]), hT, fun e => hB (by simpa [Manyd.upd] using e)⟩⟩
    · rintro s a W hun hdep hbeh ⟨B, rfl, hT, hB⟩
      (try simp only [Nat.reduceAdd] at hun)
      refine .inl ⟨by rfl, Inv.comesV_val (.int .i64 v) W (by (go_simp; (try rfl); try (intro hneg; omega))) ⟨B, by (simp only [Act.put, List.setIfInBounds_toArray, List.set_cons_succ, List.set_cons_zero, Manyd.upd, Nat.reduceAdd, Nat.reduceBEq, Bool.or_false, Bool.or_true, if_true]), hT, fun e => hB (by simpa [Manyd.upd] using e)⟩⟩
    · rintro s a W hun hdep hbeh ⟨B, rfl, hT, hB⟩
      (try simp only [Nat.reduceAdd] at hun)
      have h0 : s 0 = true := Inv.depB_mem 0 hdep (by rfl)
      refine .inl ⟨by rfl, Inv.comesV_val (.pointer (some ⟨b, 0, none⟩)) W (by (simp only [h0, if_true]; go_simp; (try rfl); try (intro hneg; omega))) ⟨B, by (simp only [Act.put, List.setIfInBounds_toArray, List.set_cons_succ, List.set_cons_zero, Manyd.upd, Nat.reduceAdd, Nat.reduceBEq, Bool.or_false, Bool.or_true, if_true]), hT, fun e => hB (by simpa [Manyd.upd] using e)⟩⟩
    · rintro s a W hun hdep hbeh ⟨B, rfl, hT, hB⟩
      (try simp only [Nat.reduceAdd] at hun)
      have h2 : s 2 = true := Inv.depB_mem 2 hdep (by rfl)
      refine .inl ⟨by rfl, Inv.comesV_val (.pointer (some ⟨b, 1, none⟩)) W (by (simp only [h2, if_true]; go_simp; (try rfl); try (intro hneg; omega))) ⟨B, by (simp only [Act.put, List.setIfInBounds_toArray, List.set_cons_succ, List.set_cons_zero, Manyd.upd, Nat.reduceAdd, Nat.reduceBEq, Bool.or_false, Bool.or_true, if_true]), hT, fun e => hB (by simpa [Manyd.upd] using e)⟩⟩
    · rintro s a W hun hdep hbeh ⟨B, rfl, hT, hB⟩
      (try simp only [Nat.reduceAdd] at hun)
      have h3 : s 3 = true := Inv.depB_mem 3 hdep (by rfl)
      have h1 : s 1 = true := Inv.depB_mem 1 hdep (by rfl)
      refine .inl ⟨by rfl, Inv.comesV_val (.pointer (some ⟨b, 1 + v * 12, none⟩)) W (by (simp only [h3, h1, if_true]; go_simp; (try rfl); try (intro hneg; omega))) ⟨B, by (simp only [Act.put, List.setIfInBounds_toArray, List.set_cons_succ, List.set_cons_zero, Manyd.upd, Nat.reduceAdd, Nat.reduceBEq, Bool.or_false, Bool.or_true, if_true]), hT, fun e => hB (by simpa [Manyd.upd] using e)⟩⟩
    · rintro s a W hun hdep hbeh ⟨B, rfl, hT, hB⟩
      (try simp only [Nat.reduceAdd] at hun)
      have h4 : s 4 = true := Inv.depB_mem 4 hdep (by rfl)
      have a0 := hca.out W hT 0 (by omega)
      have a1 := hca.out W hT 1 (by omega)
      have a2 := hca.out W hT 2 (by omega)
      have a3 := hca.out W hT 3 (by omega)
      have a4 := hca.out W hT 4 (by omega)
      have a5 := hca.out W hT 5 (by omega)
      have a6 := hca.out W hT 6 (by omega)
      have a7 := hca.out W hT 7 (by omega)
      have a8 := hca.out W hT 8 (by omega)
      have a9 := hca.out W hT 9 (by omega)
      have a10 := hca.out W hT 10 (by omega)
      have a11 := hca.out W hT 11 (by omega)
      (try simp only [Nat.add_zero] at a0)
      refine .inl ⟨by rfl, Inv.comesV_val (.agg #[.bool (adj v 0), .bool (adj v 1), .bool (adj v 2), .bool (adj v 3), .bool (adj v 4), .bool (adj v 5), .bool (adj v 6), .bool (adj v 7), .bool (adj v 8), .bool (adj v 9), .bool (adj v 10), .bool (adj v 11)]) W (by (simp only [h4, if_true]; go_simp; (try rfl); try (intro hneg; omega))) ⟨B, by (simp only [Act.put, List.setIfInBounds_toArray, List.set_cons_succ, List.set_cons_zero, Manyd.upd, Nat.reduceAdd, Nat.reduceBEq, Bool.or_false, Bool.or_true, if_true]), hT, fun e => hB (by simpa [Manyd.upd] using e)⟩⟩
    · rintro s a W hun hdep hbeh ⟨B, rfl, hT, hB⟩
      (try simp only [Nat.reduceAdd] at hun)
      obtain ⟨x0, x1, x2, x3, x4, x5, x6, x7, x8, x9, x10, x11⟩ := hcw.out W hT
      refine .inl ⟨by rfl, Inv.comesV_val (.agg #[.bool (wet 0), .bool (wet 1), .bool (wet 2), .bool (wet 3), .bool (wet 4), .bool (wet 5), .bool (wet 6), .bool (wet 7), .bool (wet 8), .bool (wet 9), .bool (wet 10), .bool (wet 11)]) W (by (go_simp; (try rfl); try (intro hneg; omega))) ⟨B, by (simp only [Act.put, List.setIfInBounds_toArray, List.set_cons_succ, List.set_cons_zero, Manyd.upd, Nat.reduceAdd, Nat.reduceBEq, Bool.or_false, Bool.or_true, if_true]), hT, fun e => hB (by simpa [Manyd.upd] using e)⟩⟩
    · rintro s a W hun hdep hbeh ⟨B, rfl, hT, hB⟩
      (try simp only [Nat.reduceAdd] at hun)
      have h5 : s 5 = true := Inv.depB_mem 5 hdep (by rfl)
      have h6 : s 6 = true := Inv.depB_mem 6 hdep (by rfl)
      refine .inl ⟨by rfl, Inv.comesV_call 85 #[.agg #[.bool (adj v 0), .bool (adj v 1), .bool (adj v 2), .bool (adj v 3), .bool (adj v 4), .bool (adj v 5), .bool (adj v 6), .bool (adj v 7), .bool (adj v 8), .bool (adj v 9), .bool (adj v 10), .bool (adj v 11)], .agg #[.bool (wet 0), .bool (wet 1), .bool (wet 2), .bool (wet 3), .bool (wet 4), .bool (wet 5), .bool (wet 6), .bool (wet 7), .bool (wet 8), .bool (wet 9), .bool (wet 10), .bool (wet 11)]] W (by (simp only [h5, h6, if_true]; go_simp; try rfl)) ((q47 W).mono fun e w5 hw5 => ⟨.agg #[.bool (D 0), .bool (D 1), .bool (D 2), .bool (D 3), .bool (D 4), .bool (D 5), .bool (D 6), .bool (D 7), .bool (D 8), .bool (D 9), .bool (D 10), .bool (D 11)], hw5.1, B, ?_, hT.after hw5.2, ?_⟩)⟩
      · simp only [Act.put, List.setIfInBounds_toArray, List.set_cons_succ, List.set_cons_zero, Manyd.upd, Nat.reduceAdd, Nat.reduceBEq, Bool.or_false, Bool.or_true, if_true]
      · intro e; have n8 : s 8 = false := hbeh 8 (by kernel_rfl)
        simp [Manyd.upd, n8] at e
    · rintro s a W hun hdep hbeh ⟨B, rfl, hT, hB⟩
      (try simp only [Nat.reduceAdd] at hun)
      have h7 : s 7 = true := Inv.depB_mem 7 hdep (by rfl)
      refine .inl ⟨by rfl, Inv.comesV_call 62 #[.agg #[.bool (D 0), .bool (D 1), .bool (D 2), .bool (D 3), .bool (D 4), .bool (D 5), .bool (D 6), .bool (D 7), .bool (D 8), .bool (D 9), .bool (D 10), .bool (D 11)]] W (by (simp only [h7, if_true]; go_simp; try rfl)) ((q39 W).mono fun e w5 hw5 => ⟨.func (.func 83) #[] #[.pointer (some ⟨W.heap.size, 0, none⟩)], hw5.1, W.heap.size, ?_, ?_, ?_⟩)⟩
      · simp only [Act.put, List.setIfInBounds_toArray, List.set_cons_succ, List.set_cons_zero, Manyd.upd, Nat.reduceAdd, Nat.reduceBEq, Bool.or_false, Bool.or_true, if_true]
      · rw [hw5.2]; exact hT.after ((Below.refl _ _).alloc (Nat.le_refl _) _)
      · intro _; rw [hw5.2]; exact ⟨SetAt.new W D, hT.sz⟩
  rintro s a W hs ⟨B, rfl, hT, hB⟩
  obtain ⟨hSB, hB3⟩ := hB (hs 8 (by decide))
  simp only [hs 0 (by decide), hs 1 (by decide), hs 2 (by decide), hs 3 (by decide), hs 4 (by decide), hs 5 (by decide), hs 6 (by decide), hs 7 (by decide), hs 8 (by decide), if_true]
  clear hs hB hI q47 q39 hcw hca

  have hlt := hSB.lt
  have hT6 := hT.t6
  have hT7 := hT.t7
  have hbw := hT.bw
  have hsz := hT.sz
  clear hT
  go_wp2
  refine (wpIn_wide (n := 0)).1 ?_
  refine Stp.range_givesS (gf := 83) (lb := #[.pointer (some ⟨B, 0, none⟩)]) rfl (enters_of Try.func83 (by kernel_rfl) rfl) (encs := encK) (xs := vsTo D 12)
    (R := fun V => SetAt V B D) (fun x => rfl) (fun W1' _ _ => vertices_gives W1')
    (fun pre _ => pre.isEmpty) .ret .ret (.inl ⟨rfl, rfl⟩)
    (fun pre V => SetAt V B D ∧ (V.cell? ⟨w.heap.size + 1, 0, none⟩ = some (.int .i64 0) ∧ V.frozen? ⟨w.heap.size + 1, 0, none⟩ = false) ∧ (V.cell? ⟨w.heap.size + 1 + 1, 0, none⟩ = some (.int .i64 (hd pre)) ∧ V.frozen? ⟨w.heap.size + 1 + 1, 0, none⟩ = false) ∧ Below w.heap.size w V)
    (fun pre V => SetAt V B D ∧ V.cell? ⟨w.heap.size + 1, 0, none⟩ = some (.int .i64 (-1)) ∧ Below w.heap.size w V)
    ?_ ?olds (fun pre W h => h.1) (fun pre W h => h.1) ⟨hSB, ⟨by simp [World.cell?, hT6], by simp [World.frozen?, hT6]⟩, ⟨by simp [World.cell?, hT7, hd], by simp [World.frozen?, hT7]⟩, hbw⟩
    (fun x a' V => a' = { tmps := #[.pointer (some ⟨b, 0, none⟩), .int .i64 v, .agg #[.bool (wet 0), .bool (wet 1), .bool (wet 2), .bool (wet 3), .bool (wet 4), .bool (wet 5), .bool (wet 6), .bool (wet 7), .bool (wet 8), .bool (wet 9), .bool (wet 10), .bool (wet 11)], undef, undef, .pointer (some ⟨w.heap.size, 0, none⟩), .pointer (some ⟨w.heap.size + 1, 0, none⟩), .pointer (some ⟨w.heap.size + 1 + 1, 0, none⟩), .int .i64 (x : Nat), .pointer (some ⟨b, 0, none⟩), .int .i64 v, .pointer (some ⟨b, 0, none⟩), .pointer (some ⟨b, 1, none⟩), .pointer (some ⟨b, 1 + v * 12, none⟩), .agg #[.bool (adj v 0), .bool (adj v 1), .bool (adj v 2), .bool (adj v 3), .bool (adj v 4), .bool (adj v 5), .bool (adj v 6), .bool (adj v 7), .bool (adj v 8), .bool (adj v 9), .bool (adj v 10), .bool (adj v 11)], .agg #[.bool (wet 0), .bool (wet 1), .bool (wet 2), .bool (wet 3), .bool (wet 4), .bool (wet 5), .bool (wet 6), .bool (wet 7), .bool (wet 8), .bool (wet 9), .bool (wet 10), .bool (wet 11)], .agg #[.bool (D 0), .bool (D 1), .bool (D 2), .bool (D 3), .bool (D 4), .bool (D 5), .bool (D 6), .bool (D 7), .bool (D 8), .bool (D 9), .bool (D 10), .bool (D 11)], .func (.func 83) #[] #[.pointer (some ⟨B, 0, none⟩)], .int .i64 (x : Nat), undef, undef, undef, undef], defers := [] })
    ?_ ?assign ?body ?done ?stop
  · rintro pre V V' ⟨k1, ⟨k2, k3⟩, ⟨k4, k5⟩, k6⟩ hb
    exact ⟨k1.below hb hlt, ⟨(hb.cell (p := ⟨w.heap.size + 1, 0, none⟩) (by show w.heap.size + 1 < _; omega)).trans k2, (World.frozen?_of_block (a := ⟨w.heap.size + 1, 0, none⟩) (hb.block _ (by show w.heap.size + 1 < _; omega))).trans k3⟩, ⟨(hb.cell (p := ⟨w.heap.size + 1 + 1, 0, none⟩) (by show w.heap.size + 1 + 1 < _; omega)).trans k4, (World.frozen?_of_block (a := ⟨w.heap.size + 1 + 1, 0, none⟩) (hb.block _ (by show w.heap.size + 1 + 1 < _; omega))).trans k5⟩, k6.trans (hb.mono (by omega))⟩
  case olds =>
    rintro pre V V' ⟨k1, k2, k6⟩ hb
    exact ⟨k1.below hb hlt, (hb.cell (p := ⟨w.heap.size + 1, 0, none⟩) (by show w.heap.size + 1 < _; omega)).trans k2, k6.trans (hb.mono (by omega))⟩
  · rintro x a' V V' h hf
    exact h
  case assign =>
    intro l2 pre x V K hi hsz2 hK
    unfold encK
    gi_wp2
    exact hK _ _ (Below.refl V.heap.size V) (by first | rfl | simp)
  case body =>
    rintro l2 pre x a' V ⟨k1, ⟨k2, k3⟩, ⟨k4, k5⟩, k6⟩ rfl hsz2 ⟨post, hpost⟩
    cases pre with
    | nil =>
      rw [show hd [] = -1 from rfl] at k4
      have hf : From W.heap.size V (V.setCell ⟨w.heap.size + 1 + 1, 0, none⟩ (.int .i64 (x : Nat))) := (From.refl _ _).setCell (by show w.heap.size + 1 + 1 < _; omega) _
      have h1 : SetAt (V.setCell ⟨w.heap.size + 1 + 1, 0, none⟩ (.int .i64 (x : Nat))) B D := k1.other (by omega)
      have h2 : Below w.heap.size w (V.setCell ⟨w.heap.size + 1 + 1, 0, none⟩ (.int .i64 (x : Nat))) := k6.setCell (p := ⟨w.heap.size + 1 + 1, 0, none⟩) (by show w.heap.size ≤ w.heap.size + 1 + 1; omega) _
      have h3 : hd [x] = (x : Int) := rfl
      gi_wp2
      exact ⟨rfl, rfl⟩
    | cons u rest =>
      rw [show hd (u :: rest) = (u : Int) from rfl] at k4
      have hu : (0 : Int) ≤ (u : Int) := by omega
      have hf : From W.heap.size V (V.setCell ⟨w.heap.size + 1, 0, none⟩ (.int .i64 (-1))) := (From.refl _ _).setCell (by show w.heap.size + 1 < _; omega) _
      have h1 : SetAt (V.setCell ⟨w.heap.size + 1, 0, none⟩ (.int .i64 (-1))) B D := k1.other (by omega)
      have h2 : Below w.heap.size w (V.setCell ⟨w.heap.size + 1, 0, none⟩ (.int .i64 (-1))) := k6.setCell (p := ⟨w.heap.size + 1, 0, none⟩) (by show w.heap.size ≤ w.heap.size + 1; omega) _
      gi_wp2
      exact ⟨rfl, rfl⟩
  case done =>
    rintro V ⟨k1, ⟨k2, k3⟩, ⟨k4, k5⟩, k6⟩ hgo hsz2 hDf
    have hv : hd (vsTo D 12) = onlyOf D := by
      unfold onlyOf
      cases hx : vsTo D 12 with
      | nil => rfl
      | cons u rest =>
        cases rest with
        | nil => rfl
        | cons y post =>
          have := hgo [u] y post hx
          cases this
    rw [hv] at k4
    gi_wp2
    go_wp2
    have hDf3 : (V.setCell ⟨w.heap.size + 1, 0, none⟩ (.int .i64 (onlyOf D))).heap[W.heap.size]? = some (.deferred (some [])) := (Below.heap_setCell V ⟨w.heap.size + 1, 0, none⟩ _ _ (by show W.heap.size ≠ w.heap.size + 1; omega)).trans hDf
    have c3 : (V.setCell ⟨w.heap.size + 1, 0, none⟩ (.int .i64 (onlyOf D))).cell? ⟨w.heap.size + 1, 0, none⟩ = some (.int .i64 (onlyOf D)) := by go_simp
    have h3 : Below w.heap.size w (V.setCell ⟨w.heap.size + 1, 0, none⟩ (.int .i64 (onlyOf D))) := k6.setCell (p := ⟨w.heap.size + 1, 0, none⟩) (by show w.heap.size ≤ w.heap.size + 1; omega) _
    have s3 := (Array.getElem?_eq_some_iff.1 hDf3).1
    revert hDf3 c3 h3 s3
    generalize V.setCell ⟨w.heap.size + 1, 0, none⟩ (.int .i64 (onlyOf D)) = V3
    intro hDf3 c3 h3 s3
    refine Qr.leaves_mark hDf3 fun w' hk => ⟨.int .i64 (onlyOf D), ?_, rfl, h3.trans (hk.below (by omega) (by omega))⟩
    have c6 : w'.cell? ⟨w.heap.size + 1, 0, none⟩ = some (.int .i64 (onlyOf D)) := by
      rw [World.cell?_of_block (a := ⟨w.heap.size + 1, 0, none⟩) (hk.block _ (by show w.heap.size + 1 < _; omega) (by show w.heap.size + 1 ≠ _; omega) (by show w.heap.size + 1 ≠ _; omega))]; exact c3
    first
      | (rw [results_cell rfl]; go_simp)
      | (simp [results, Try.results81, go_sem]; go_simp)
  case stop =>
    rintro V pr x post hx hgo hf ⟨k1, k2, k6⟩ hsz2 hDf
    have hv : onlyOf D = -1 := by
      unfold onlyOf
      rw [hx]
      cases pr with
      | nil => cases hf
      | cons u rest =>
        cases rest with
        | nil => rfl
        | cons y post => rfl
    gi_wp2
    refine Qr.leaves_mark hDf fun w' hk => ⟨.int .i64 (-1), ?_, by rw [hv], k6.trans (hk.below (by omega) (by omega))⟩
    have c6 : w'.cell? ⟨w.heap.size + 1, 0, none⟩ = some (.int .i64 (-1)) := by
      rw [World.cell?_of_block (a := ⟨w.heap.size + 1, 0, none⟩) (hk.block _ (by show w.heap.size + 1 < _; omega) (by show w.heap.size + 1 ≠ _; omega) (by show w.heap.size + 1 ≠ _; omega))]; exact k2
    first
      | (rw [results_cell rfl]; go_simp)
      | (simp [results, Try.results81, go_sem]; go_simp)
end Go.Proofs.Yteekigpdiklppaa
