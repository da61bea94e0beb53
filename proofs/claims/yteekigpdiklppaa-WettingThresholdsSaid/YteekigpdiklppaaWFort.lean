import Derived.Test.YteekigpdiklppaaWSoak
import Derived.Test.YteekigpdiklppaaWForce
set_option linter.unusedSimpArgs false
set_option linter.unusedVariables false
namespace Go.Proofs.Yteekigpdiklppaa
open Go Go.Proofs Go.RowKit Go.Seq
attribute [local go_sem] Oper.semAt_some
structure FoI (w : World) (b n : Nat) (adj : Nat → Nat → Bool) (s Wt : Nat → Bool) (g5 : Nat) (s4 s5 : Bool) (W : World) : Prop where
  g : GraphAt W b n adj
  x : SetAt W w.heap.size s
  y : s4 = true → SetAt W g5 (if s5 = true then Wt else fun _ => false) ∧ w.heap.size + 1 ≤ g5
  bw : Below w.heap.size w W
  sz : w.heap.size + 1 ≤ W.heap.size
theorem FoI.after {w W W' : World} {b n : Nat} {adj : Nat → Nat → Bool} {s Wt : Nat → Bool} {g5 : Nat} {s4 s5 : Bool} (h : FoI w b n adj s Wt g5 s4 s5 W) (hb : Below W.heap.size W W') : FoI w b n adj s Wt g5 s4 s5 W' :=
  ⟨h.g.below hb h.g.lt, h.x.after hb, fun e => ⟨(h.y e).1.after hb, (h.y e).2⟩, h.bw.trans (hb.mono h.bw.size), Nat.le_trans h.sz hb.size⟩
set_option maxHeartbeats 4000000 in
set_option maxRecDepth 100000 in
theorem isFort_any {b n : Nat} {adj : Nat → Nat → Bool} {w : World} (s : Nat → Bool) (hg : GraphAt w b n adj) (hn : n ≤ 12) {Wt Fc : Nat → Bool} (hWt : Wt = fun j => decide (j < n) && !s j) (hFc : Fc = fcd adj Wt (vsTo Wt 12)) {E R : Bool} (hE : eqb s (fun _ => false) = E) (hR : eqb Fc Wt = R) :
    Calls Try.prog 78 #[.pointer (some ⟨b, 0, none⟩), setV s] w fun e w' => e = .returned (.bool (!E && R)) ∧ Below w.heap.size w w' := by
  have hmx : Try.prog.follows .mixedOrders = true := by kernel_rfl
  have hgl := hg.lt
  have heq := fun w => eq49 Fc Wt w
  rw [show ((List.range 12).all fun k => Fc k == Wt k) = R from hR] at heq
  have heq0 := fun w => eq49 s (fun _ => false) w
  rw [show ((List.range 12).all fun k => s k == (fun _ => false) k) = E from hE] at heq0
  have q38 := fun W (h : GraphAt W b n adj) => all_any h hn
  have q47 := fun W => minus_any (fun j => decide (j < n)) s W
  have q22 := fun W (h : GraphAt W b n adj) => force_any Wt h
  rw [← hWt] at q47
  rw [← hFc] at q22
  obtain ⟨A, hA⟩ : ∃ A : Nat → Bool, (fun j => decide (j < n)) = A := ⟨_, rfl⟩
  rw [hA] at q38 q47
  clear hWt hFc hA
  obtain ⟨wa, hwa⟩ : ∃ wa, w.alloc (.cells (sc s) 79) = wa := ⟨_, rfl⟩
  have ba : Below w.heap.size w wa := by rw [← hwa]; exact (Below.refl _ _).alloc (Nat.le_refl _) _
  have fa : SetAt wa w.heap.size s := by rw [← hwa]; exact SetAt.new _ _
  have hI : Keep (FoI w b n adj s Wt 0 false false wa) := ⟨hg.below ba hgl, fa, fun e => (by cases e), ba, by rw [← hwa]; simp⟩
  clear fa ba
  unfold setV sc at *
  go_enter Try.func78, Try.ntmps78
  go_wp2
  try rw [hwa]
  clear hwa
  refine (wpIn_wide (n := 0)).1 ?_
  refine Inv.region_inv (fun t a W => ∃ g5, a = { tmps := #[.pointer (some ⟨b, 0, none⟩), .agg #[.bool (s 0), .bool (s 1), .bool (s 2), .bool (s 3), .bool (s 4), .bool (s 5), .bool (s 6), .bool (s 7), .bool (s 8), .bool (s 9), .bool (s 10), .bool (s 11)], undef, .pointer (some ⟨w.heap.size, 0, none⟩), .bool false, if t 4 = true then .pointer (some ⟨g5, 0, none⟩) else undef, if t 0 = true then .pointer (some ⟨b, 0, none⟩) else undef, if t 1 = true then .agg #[.bool (A 0), .bool (A 1), .bool (A 2), .bool (A 3), .bool (A 4), .bool (A 5), .bool (A 6), .bool (A 7), .bool (A 8), .bool (A 9), .bool (A 10), .bool (A 11)] else undef, if t 2 = true then .agg #[.bool (s 0), .bool (s 1), .bool (s 2), .bool (s 3), .bool (s 4), .bool (s 5), .bool (s 6), .bool (s 7), .bool (s 8), .bool (s 9), .bool (s 10), .bool (s 11)] else undef, if t 3 = true then .agg #[.bool (Wt 0), .bool (Wt 1), .bool (Wt 2), .bool (Wt 3), .bool (Wt 4), .bool (Wt 5), .bool (Wt 6), .bool (Wt 7), .bool (Wt 8), .bool (Wt 9), .bool (Wt 10), .bool (Wt 11)] else undef, undef, undef, undef, undef, undef, undef, undef, undef, undef, undef], defers := [] } ∧ FoI w b n adj s Wt g5 (t 4) (t 5) W) hmx (by kernel_rfl) ?_ ?_ ?_
  · intro t hs
    refine ⟨0, ?_, ?_⟩
    · simp only [hs 0 (by decide), hs 1 (by decide), hs 2 (by decide), hs 3 (by decide), hs 4 (by decide), hs 5 (by decide), Bool.false_eq_true, if_false]
    · rw [hs 4 (by decide), hs 5 (by decide)]; exact hI.out.after ((Below.refl _ _).drew)
  · refine ⟨?_, ?_, ?_, ?_, ?_, ?_, trivial⟩
    · rintro t a W hun hdep hbeh ⟨g5, rfl, hT⟩
      (try simp only [Nat.reduceAdd] at hun)
      refine .inl ⟨by rfl, Inv.comesV_val (.pointer (some ⟨b, 0, none⟩)) W (by (go_simp; (try rfl); try (intro hneg; omega))) ⟨g5, by (simp only [Act.put, List.setIfInBounds_toArray, List.set_cons_succ, List.set_cons_zero, Manyd.upd, Nat.reduceAdd, Nat.reduceBEq, Bool.or_false, Bool.or_true, if_true]), by simpa [Manyd.upd] using hT⟩⟩
    · rintro t a W hun hdep hbeh ⟨g5, rfl, hT⟩
      (try simp only [Nat.reduceAdd] at hun)
      have h0 : t 0 = true := Inv.depB_mem 0 hdep (by rfl)
      refine .inl ⟨by rfl, Inv.comesV_call 84 #[.pointer (some ⟨b, 0, none⟩)] W (by (simp only [h0, if_true]; go_simp; try rfl)) ((q38 W hT.g).mono fun e w5 hw5 => ⟨.agg #[.bool (A 0), .bool (A 1), .bool (A 2), .bool (A 3), .bool (A 4), .bool (A 5), .bool (A 6), .bool (A 7), .bool (A 8), .bool (A 9), .bool (A 10), .bool (A 11)], hw5.1, g5, ?_, ?_⟩)⟩
      · simp only [Act.put, List.setIfInBounds_toArray, List.set_cons_succ, List.set_cons_zero, Manyd.upd, Nat.reduceAdd, Nat.reduceBEq, Bool.or_false, Bool.or_true, if_true]
      · simpa [Manyd.upd] using hT.after hw5.2
    · rintro t a W hun hdep hbeh ⟨g5, rfl, hT⟩
      (try simp only [Nat.reduceAdd] at hun)
      obtain ⟨x0, x1, x2, x3, x4, x5, x6, x7, x8, x9, x10, x11⟩ := hT.x.c12
      refine .inl ⟨by rfl, Inv.comesV_val (.agg #[.bool (s 0), .bool (s 1), .bool (s 2), .bool (s 3), .bool (s 4), .bool (s 5), .bool (s 6), .bool (s 7), .bool (s 8), .bool (s 9), .bool (s 10), .bool (s 11)]) W (by (go_simp; (try rfl); try (intro hneg; omega))) ⟨g5, by (simp only [Act.put, List.setIfInBounds_toArray, List.set_cons_succ, List.set_cons_zero, Manyd.upd, Nat.reduceAdd, Nat.reduceBEq, Bool.or_false, Bool.or_true, if_true]), by simpa [Manyd.upd] using hT⟩⟩
    · rintro t a W hun hdep hbeh ⟨g5, rfl, hT⟩
      (try simp only [Nat.reduceAdd] at hun)
      have h1 : t 1 = true := Inv.depB_mem 1 hdep (by rfl)
      have h2 : t 2 = true := Inv.depB_mem 2 hdep (by rfl)
      refine .inl ⟨by rfl, Inv.comesV_call 85 #[.agg #[.bool (A 0), .bool (A 1), .bool (A 2), .bool (A 3), .bool (A 4), .bool (A 5), .bool (A 6), .bool (A 7), .bool (A 8), .bool (A 9), .bool (A 10), .bool (A 11)], .agg #[.bool (s 0), .bool (s 1), .bool (s 2), .bool (s 3), .bool (s 4), .bool (s 5), .bool (s 6), .bool (s 7), .bool (s 8), .bool (s 9), .bool (s 10), .bool (s 11)]] W (by (simp only [h1, h2, if_true]; go_simp; try rfl)) ((q47 W).mono fun e w5 hw5 => ⟨.agg #[.bool (Wt 0), .bool (Wt 1), .bool (Wt 2), .bool (Wt 3), .bool (Wt 4), .bool (Wt 5), .bool (Wt 6), .bool (Wt 7), .bool (Wt 8), .bool (Wt 9), .bool (Wt 10), .bool (Wt 11)], hw5.1, g5, ?_, ?_⟩)⟩
      · simp only [Act.put, List.setIfInBounds_toArray, List.set_cons_succ, List.set_cons_zero, Manyd.upd, Nat.reduceAdd, Nat.reduceBEq, Bool.or_false, Bool.or_true, if_true]
      · simpa [Manyd.upd] using hT.after hw5.2
    · rintro t a W hun hdep hbeh ⟨g5, rfl, hT⟩
      (try simp only [Nat.reduceAdd] at hun)
      have n5 : t 5 = false := hbeh 5 (by kernel_rfl)
      have hz : SetAt (W.alloc (.cells (sc (fun _ => false)) 79)) W.heap.size (fun _ => false) := SetAt.new _ _
      have hT2 := hT.after ((Below.refl W.heap.size W).alloc (Nat.le_refl _) (.cells (sc (fun _ => false)) 79))
      refine .inl ⟨by rfl, Inv.comesV_val (.pointer (some ⟨W.heap.size, 0, none⟩)) (W.alloc (.cells (sc (fun _ => false)) 79)) (by (unfold sc; go_simp; try rfl)) ⟨W.heap.size, ?_, ?_⟩⟩
      · simp only [Act.put, List.setIfInBounds_toArray, List.set_cons_succ, List.set_cons_zero, Manyd.upd, Nat.reduceAdd, Nat.reduceBEq, Bool.or_false, Bool.or_true, if_true]
      · rw [show Manyd.upd t 4 4 = true by simp [Manyd.upd], show Manyd.upd t 4 5 = false by simp [Manyd.upd, n5]]
        exact ⟨hT2.g, hT2.x, fun _ => ⟨by simpa using hz, hT.sz⟩, hT2.bw, hT2.sz⟩
    · rintro t a W hun hdep hbeh ⟨g5, rfl, hT⟩
      (try simp only [Nat.reduceAdd] at hun)
      have h4 : t 4 = true := Inv.depB_mem 4 hdep (by rfl)
      have h3 : t 3 = true := Inv.depB_mem 3 hdep (by rfl)
      rw [h4, hun] at hT
      obtain ⟨hy, hy2⟩ := hT.y rfl
      have hy : SetAt W g5 (fun _ => false) := by simpa using hy
      obtain ⟨z0, z1, z2, z3, z4, z5, z6, z7, z8, z9, z10, z11⟩ := hy.c12
      obtain ⟨f0, f1, f2, f3, f4, f5, f6, f7, f8, f9, f10, f11⟩ := hy.f12
      refine .inl ⟨by rfl, Inv.comesV_skip (st12 W g5 Wt) (by (unfold st12; simp only [h4, h3, if_true]; go_simp; try rfl)) ⟨g5, ?_, ?_⟩⟩
      · simp only [Act.put, List.setIfInBounds_toArray, List.set_cons_succ, List.set_cons_zero, Manyd.upd, Nat.reduceAdd, Nat.reduceBEq, Bool.or_false, Bool.or_true, if_true]
      · rw [show Manyd.upd t 5 4 = true by simp [Manyd.upd, h4], show Manyd.upd t 5 5 = true by simp [Manyd.upd]]
        have hb : Below (w.heap.size + 1) W (st12 W g5 Wt) := st12_below (Below.refl _ _) hy2
        exact ⟨hT.g.below hb (by omega), hT.x.below hb (by omega), fun _ => ⟨by simpa using st12_set hy, hy2⟩, st12_below hT.bw (by omega), Nat.le_trans hT.sz hb.size⟩
  rintro t a W hs ⟨g5, rfl, hT⟩
  rw [hs 4 (by decide), hs 5 (by decide)] at hT
  simp only [hs 0 (by decide), hs 1 (by decide), hs 2 (by decide), hs 3 (by decide), hs 4 (by decide), if_true]
  clear hs hI q38 q47
  have hTk := Keep.mk hT
  clear hT
  go_wp2

  refine (wpIn_wide (n := 0)).1 ?_
  refine Many.region_many (fun _ W => FoI w b n adj s Wt g5 true true W) hmx (by kernel_rfl) (fun s s' W' h hc => hc) (fun s hs => hTk.out.after ((Below.refl _ _).drew)) ?_
  refine Many.lex_want (by rfl) (Many.tr_read (v := .agg #[.bool (s 0), .bool (s 1), .bool (s 2), .bool (s 3), .bool (s 4), .bool (s 5), .bool (s 6), .bool (s 7), .bool (s 8), .bool (s 9), .bool (s 10), .bool (s 11)]) (FoI w b n adj s Wt g5 true true) (fun s W h => h) (fun s W h => h) (fun W h => by (obtain ⟨x0, x1, x2, x3, x4, x5, x6, x7, x8, x9, x10, x11⟩ := h.x.c12; clear h; go_simp; (try rfl)))) ?_
  simp only [Act.put, List.setIfInBounds_toArray, List.set_cons_succ, List.set_cons_zero, Nat.reduceAdd]
  refine Many.lex_want (by rfl) (Many.tr_read (v := .agg #[.bool false, .bool false, .bool false, .bool false, .bool false, .bool false, .bool false, .bool false, .bool false, .bool false, .bool false, .bool false]) (FoI w b n adj s Wt g5 true true) (fun s W h => h) (fun s W h => h) (fun W h => by (clear h; go_simp; (try rfl)))) ?_
  simp only [Act.put, List.setIfInBounds_toArray, List.set_cons_succ, List.set_cons_zero, Nat.reduceAdd]
  cases E with
  | true =>
    refine Many.lex_want (by rfl) (Many.tr_read (v := .bool false) (FoI w b n adj s Wt g5 true true) (fun s W h => h) (fun s W h => h) (fun W h => by (clear h; go_simp; (try rfl)))) ?_
    simp only [Act.put, List.setIfInBounds_toArray, List.set_cons_succ, List.set_cons_zero, Nat.reduceAdd]
    refine Many.lex_want (by rfl) (Many.tr_read (v := .bool false) (FoI w b n adj s Wt g5 true true) (fun s W h => h) (fun s W h => h) (fun W h => by (clear h; go_simp; (try rfl)))) ?_
    simp only [Act.put, List.setIfInBounds_toArray, List.set_cons_succ, List.set_cons_zero, Nat.reduceAdd]
    refine lex_skip (by rfl) (fun s W h => h) ?_
    simp only [Act.put, List.setIfInBounds_toArray, List.set_cons_succ, List.set_cons_zero, Nat.reduceAdd]
    refine lex_skip (by rfl) (fun s W h => h) ?_
    simp only [Act.put, List.setIfInBounds_toArray, List.set_cons_succ, List.set_cons_zero, Nat.reduceAdd]
    refine lex_skip (by rfl) (fun s W h => h) ?_
    simp only [Act.put, List.setIfInBounds_toArray, List.set_cons_succ, List.set_cons_zero, Nat.reduceAdd]
    refine lex_skip (by rfl) (fun s W h => h) ?_
    simp only [Act.put, List.setIfInBounds_toArray, List.set_cons_succ, List.set_cons_zero, Nat.reduceAdd]
    refine lex_skip (by rfl) (fun s W h => h) ?_
    simp only [Act.put, List.setIfInBounds_toArray, List.set_cons_succ, List.set_cons_zero, Nat.reduceAdd]
    refine Many.lex_want (by rfl) (Many.tr_read (v := .bool false) (FoI w b n adj s Wt g5 true true) (fun s W h => h) (fun s W h => h) (fun W h => by (clear h; go_simp; (try rfl)))) ?_
    simp only [Act.put, List.setIfInBounds_toArray, List.set_cons_succ, List.set_cons_zero, Nat.reduceAdd]
    refine Many.lex_want (by rfl) (Many.tr_read (v := .bool false) (FoI w b n adj s Wt g5 true true) (fun s W h => h) (fun s W h => h) (fun W h => by (clear h; go_simp; (try rfl)))) ?_
    simp only [Act.put, List.setIfInBounds_toArray, List.set_cons_succ, List.set_cons_zero, Nat.reduceAdd]
    refine Many.lex_nil fun s9 W4 hs9 hS4 => ?_
    go_wp2
    go_ret
    exact ⟨rfl, hS4.bw⟩
  | false =>
    refine Many.lex_want (by rfl) (Many.tr_read (v := .bool true) (FoI w b n adj s Wt g5 true true) (fun s W h => h) (fun s W h => h) (fun W h => by (clear h; go_simp; (try rfl)))) ?_
    simp only [Act.put, List.setIfInBounds_toArray, List.set_cons_succ, List.set_cons_zero, Nat.reduceAdd]
    refine Many.lex_want (by rfl) (Many.tr_read (v := .bool true) (FoI w b n adj s Wt g5 true true) (fun s W h => h) (fun s W h => h) (fun W h => by (clear h; go_simp; (try rfl)))) ?_
    simp only [Act.put, List.setIfInBounds_toArray, List.set_cons_succ, List.set_cons_zero, Nat.reduceAdd]
    refine Many.lex_want (by rfl) (Many.tr_read (v := .pointer (some ⟨b, 0, none⟩)) (FoI w b n adj s Wt g5 true true) (fun s W h => h) (fun s W h => h) (fun W h => by (clear h; go_simp; (try rfl)))) ?_
    simp only [Act.put, List.setIfInBounds_toArray, List.set_cons_succ, List.set_cons_zero, Nat.reduceAdd]
    refine Many.lex_want (by rfl) (Many.tr_read (v := .agg #[.bool (Wt 0), .bool (Wt 1), .bool (Wt 2), .bool (Wt 3), .bool (Wt 4), .bool (Wt 5), .bool (Wt 6), .bool (Wt 7), .bool (Wt 8), .bool (Wt 9), .bool (Wt 10), .bool (Wt 11)]) (FoI w b n adj s Wt g5 true true) (fun s W h => h) (fun s W h => h) (fun W h => by (have hy := (h.y rfl).1; rw [if_pos rfl] at hy; obtain ⟨y0, y1, y2, y3, y4, y5, y6, y7, y8, y9, y10, y11⟩ := hy.c12; clear h; go_simp; (try rfl)))) ?_
    simp only [Act.put, List.setIfInBounds_toArray, List.set_cons_succ, List.set_cons_zero, Nat.reduceAdd]
    refine Many.lex_want (by rfl) (Many.tr_call (v := .agg #[.bool (Fc 0), .bool (Fc 1), .bool (Fc 2), .bool (Fc 3), .bool (Fc 4), .bool (Fc 5), .bool (Fc 6), .bool (Fc 7), .bool (Fc 8), .bool (Fc 9), .bool (Fc 10), .bool (Fc 11)]) (f := 59) (args := #[.pointer (some ⟨b, 0, none⟩), .agg #[.bool (Wt 0), .bool (Wt 1), .bool (Wt 2), .bool (Wt 3), .bool (Wt 4), .bool (Wt 5), .bool (Wt 6), .bool (Wt 7), .bool (Wt 8), .bool (Wt 9), .bool (Wt 10), .bool (Wt 11)]]) (FoI w b n adj s Wt g5 true true) (fun s W h => h) (fun s W h => (q22 W h.g).mono fun e w' q => ⟨q.1, h.after q.2⟩) (fun W h => by (clear h; go_simp; try rfl))) ?_
    simp only [Act.put, List.setIfInBounds_toArray, List.set_cons_succ, List.set_cons_zero, Nat.reduceAdd]
    refine Many.lex_want (by rfl) (Many.tr_read (v := .agg #[.bool (Wt 0), .bool (Wt 1), .bool (Wt 2), .bool (Wt 3), .bool (Wt 4), .bool (Wt 5), .bool (Wt 6), .bool (Wt 7), .bool (Wt 8), .bool (Wt 9), .bool (Wt 10), .bool (Wt 11)]) (FoI w b n adj s Wt g5 true true) (fun s W h => h) (fun s W h => h) (fun W h => by (have hy := (h.y rfl).1; rw [if_pos rfl] at hy; obtain ⟨y0, y1, y2, y3, y4, y5, y6, y7, y8, y9, y10, y11⟩ := hy.c12; clear h; go_simp; (try rfl)))) ?_
    simp only [Act.put, List.setIfInBounds_toArray, List.set_cons_succ, List.set_cons_zero, Nat.reduceAdd]
    refine Many.lex_want (by rfl) (Many.tr_read (v := .bool R) (FoI w b n adj s Wt g5 true true) (fun s W h => h) (fun s W h => h) (fun W h => by (clear h; go_simp; (try rfl)))) ?_
    simp only [Act.put, List.setIfInBounds_toArray, List.set_cons_succ, List.set_cons_zero, Nat.reduceAdd]
    refine Many.lex_want (by rfl) (Many.tr_read (v := .bool R) (FoI w b n adj s Wt g5 true true) (fun s W h => h) (fun s W h => h) (fun W h => by (clear h; go_simp; (try rfl)))) ?_
    simp only [Act.put, List.setIfInBounds_toArray, List.set_cons_succ, List.set_cons_zero, Nat.reduceAdd]
    refine Many.lex_want (by rfl) (Many.tr_read (v := .bool R) (FoI w b n adj s Wt g5 true true) (fun s W h => h) (fun s W h => h) (fun W h => by (clear h; go_simp; (try rfl)))) ?_
    simp only [Act.put, List.setIfInBounds_toArray, List.set_cons_succ, List.set_cons_zero, Nat.reduceAdd]
    refine Many.lex_nil fun s9 W4 hs9 hS4 => ?_
    go_wp2
    go_ret
    exact ⟨rfl, hS4.bw⟩
end Go.Proofs.Yteekigpdiklppaa
