import Derived.Test.YteekigpdiklppaaWRead
set_option linter.unusedSimpArgs false
set_option linter.unusedVariables false
namespace Go.Proofs.Yteekigpdiklppaa
open Go Go.Proofs Go.RowKit Go.Seq
attribute [local go_sem] Oper.semAt_some
/-- A list of ints in memory, from somewhere in a block on. -/
def IntsO (w : World) (v : Value) (zs : List Int) : Prop :=
  ∃ A cap, v = .slice A zs.length cap ∧ ∀ k, k < zs.length → ∃ g o, A = some ⟨g, o, none⟩ ∧ w.cell? ⟨g, o + k, none⟩ = some (.int .i64 (zs.getD k 0))
theorem intsO_below {w w' : World} {v : Value} {l : List Int} (h : IntsO w v l) (b : Below w.heap.size w w') : IntsO w' v l := by
  obtain ⟨A, cap, hv, hc⟩ := h
  refine ⟨A, cap, hv, fun k hk => ?_⟩
  obtain ⟨g, o, hA, hg⟩ := hc k hk
  exact ⟨g, o, hA, cell_below hg b⟩
theorem takez {zs : List Int} {k : Nat} (h : k < zs.length) : zs.take (k + 1) = zs.take k ++ [zs.getD k 0] := by
  rw [List.take_add_one, List.getElem?_eq_getElem h, List.getD_eq_getElem?_getD, List.getElem?_eq_getElem h]; rfl
/-- The places of a list, as a set. -/
def setOf (zs : List Int) (j : Nat) : Bool := zs.any fun z => z == (j : Int)
def lastZ (zs : List Int) : Int := zs.getLast?.getD (-1)
structure ListOk (n : Int) (zs : List Int) : Prop where
  el : ∀ k, k < zs.length → 0 ≤ zs.getD k 0 ∧ zs.getD k 0 < n ∧ lastZ (zs.take k) < zs.getD k 0
structure RsI (w : World) (g g11 n : Nat) (adj : Nat → Nat → Bool) (s z : Nat → Bool) (W : World) : Prop where
  gr : GraphH W g n adj
  t7 : SetAt W w.heap.size z
  s11 : SetAt W g11 s
  bw : Below w.heap.size w W
  lg : w.heap.size < g
  l11 : w.heap.size < g11
  ne : g ≠ g11
theorem RsI.after {w W W' : World} {g g11 n : Nat} {adj : Nat → Nat → Bool} {s z : Nat → Bool} (h : RsI w g g11 n adj s z W) (hb : Below W.heap.size W W') : RsI w g g11 n adj s z W' :=
  ⟨h.gr.below hb h.gr.lt, h.t7.after hb, h.s11.after hb, h.bw.trans (hb.mono h.bw.size), h.lg, h.l11, h.ne⟩
theorem GraphH.other {W : World} {b n : Nat} {adj : Nat → Nat → Bool} (h : GraphH W b n adj) {W' : World} (hh : W'.heap[b]? = W.heap[b]?) : GraphH W' b n adj := by
  obtain ⟨arr, h1, h2⟩ := h.blk
  exact ⟨arr, hh.trans h1, h2⟩
theorem RsI.put {w W : World} {g g11 n : Nat} {adj : Nat → Nat → Bool} {s s' z : Nat → Bool} (h : RsI w g g11 n adj s z W) {u : Nat} (hu : u < 12) (h1 : s' u = true) (h2 : ∀ j, j < 12 → j ≠ u → s' j = s j) : RsI w g g11 n adj s' z (W.setCell ⟨g11, u, none⟩ (.bool true)) :=
  ⟨h.gr.other (Below.heap_setCell W ⟨g11, u, none⟩ _ _ (by show g ≠ g11; exact h.ne)), h.t7.other (by have := h.l11; omega), h.s11.set hu h1 h2, h.bw.setCell (p := ⟨g11, u, none⟩) (by show w.heap.size ≤ g11; have := h.l11; omega) _, h.lg, h.l11, h.ne⟩
theorem RsI.res {w W : World} {g g11 n : Nat} {adj : Nat → Nat → Bool} {s z : Nat → Bool} (y : Nat → Bool) (h : RsI w g g11 n adj s z W) : RsI w g g11 n adj s y (st12 W w.heap.size y) :=
  ⟨h.gr.other (st12_heap _ _ _ (by have := h.lg; omega)), st12_set h.t7, (st12_heap _ _ _ (by have := h.l11; omega)).trans h.s11, st12_below h.bw (Nat.le_refl _), h.lg, h.l11, h.ne⟩
theorem setOf_push (zs : List Int) (u j : Nat) : setOf (zs ++ [(u : Int)]) j = (setOf zs j || j == u) := by
  unfold setOf
  rw [List.any_append]
  congr 1
  simp only [List.any_cons, List.any_nil, Bool.or_false]
  rw [Bool.eq_iff_iff, beq_iff_eq, beq_iff_eq]; omega
set_option maxHeartbeats 2000000 in
set_option maxRecDepth 100000 in
theorem readSet_yes {n : Nat} {v v2 : Value} {ps : Pts} {zs : List Int} {w : World} (hv : PairsOf w v ps) (hok : GrOk n ps) (hl : ps.length ≤ 200) (hv2 : IntsO w v2 zs) (hzk : ListOk n zs) (hl2 : zs.length ≤ 100) :
    Calls Try.prog 57 #[.int .i64 n, v, v2] w fun e w' => ∃ g, e = .returned (.tuple #[.pointer (some ⟨g, 0, none⟩), setV (setOf zs), .bool true]) ∧ GraphH w' g n (adjOf ps) ∧ w.heap.size ≤ g ∧ Below w.heap.size w w' := by
  have hmx : Try.prog.follows .mixedOrders = true := by kernel_rfl
  obtain ⟨wa, hwa⟩ : ∃ wa, w.alloc (.cells (sc (fun _ => false)) 79) = wa := ⟨_, rfl⟩
  have ba : Below w.heap.size w wa := by rw [← hwa]; exact (Below.refl _ _).alloc (Nat.le_refl _) _
  have sa : wa.heap.size = w.heap.size + 1 := by rw [← hwa]; simp
  have fa : SetAt wa w.heap.size (fun _ => false) := by rw [← hwa]; exact SetAt.new _ _
  have q69 := readGraph_yes (pairsOf_below hv ba) hok hl
  obtain ⟨A, cap, rfl, hc⟩ := hv2
  have hck := Keep.mk hc
  have n12 := hok.n12
  have h5k := Keep.mk hzk.el
  obtain ⟨m, hm⟩ : ∃ m, Keep (zs.length = m) := ⟨_, ⟨rfl⟩⟩
  rw [hm.out] at hl2 hck h5k ⊢
  obtain ⟨adj, hadj⟩ : ∃ adj, adjOf ps = adj := ⟨_, rfl⟩
  rw [hadj] at q69 ⊢
  obtain ⟨S, hS⟩ : ∃ S, setOf zs = S := ⟨_, rfl⟩
  rw [hS]
  have hfk := Keep.mk (And.intro fa ba)
  clear hv hc hok hzk fa ba hadj
  unfold setV
  unfold sc at hwa ⊢
  go_enter Try.func57, Try.ntmps57
  go_wp2_with (first
    | (go_at_call 69; (with_reducible refine q69.mono ?_); rintro e w5 ⟨rfl, hg5, hb5⟩
       obtain ⟨w6, hw6⟩ : ∃ w6, w5.alloc (.cells (sc (fun _ => false)) 79) = w6 := ⟨_, rfl⟩
       have hb6 : Below w5.heap.size w5 w6 := by rw [← hw6]; exact (Below.refl _ _).alloc (Nat.le_refl _) _
       have hf6 : SetAt w6 w5.heap.size (fun _ => false) := by rw [← hw6]; exact SetAt.new _ _
       have hz5 := hg5.lt
       have hI : Keep (RsI w (w.heap.size + 1) w5.heap.size n adj (setOf (zs.take 0)) (fun _ => false) w6) := ⟨⟨by rw [← sa]; exact hg5.below hb6 hg5.lt, (hfk.out.1.after hb5).after hb6, by rw [show setOf (zs.take 0) = fun _ => false by funext j; simp [setOf]]; exact hf6, hfk.out.2.trans ((hb5.trans (hb6.mono hb5.size)).mono hfk.out.2.size), by omega, by omega, by omega⟩⟩
       clear hg5 hb5 hb6 hf6
       unfold sc at hw6))
  try rw [hw6]
  clear hw6 q69
  go_loopw [26, 12] (fun i bf wr => ∃ k : Nat, k ≤ m ∧ i = .int .i64 k ∧ bf = .int .i64 (lastZ (zs.take k)) ∧ Keep (RsI w (w.heap.size + 1) w5.heap.size n adj (setOf (zs.take k)) (fun _ => false) wr)) (fun i _ _ => m - (intOf i).toNat)
  case atStart => exact ⟨0, by omega, rfl, by simp [lastZ], hI⟩
  case round =>
    obtain ⟨k, hk, rfl, rfl, hI⟩ := hrel
    have hw1 : IntKind.i64.wrap ((k : Int) + 1) = (k : Int) + 1 := IntWalk.i64_in _ (by omega)
    by_cases hlt : k < m
    · have hlt' : (k : Int) < (m : Int) := by omega
      obtain ⟨g, o, rfl, c0⟩ := hck.out k hlt
      have c0 := cell_below c0 hI.out.bw
      obtain ⟨e1, e2, e3⟩ := h5k.out k hlt
      have hpush := takez (zs := zs) (k := k) (by rw [hm.out]; exact hlt)
      generalize zs.getD k 0 = z at c0 e1 e2 e3 hpush
      obtain ⟨u, hu⟩ : ∃ u : Nat, (u : Int) = z := ⟨z.toNat, by omega⟩
      subst hu
      have hu12 : (u : Int) < 12 := by omega
      have hu0 : ¬ (u : Int) < 0 := by omega
      have hlst : lastZ (zs.take (k + 1)) = (u : Int) := by rw [hpush]; simp [lastZ]
      obtain ⟨bz, hbz⟩ : ∃ bz, lastZ (zs.take k) = bz := ⟨_, rfl⟩
      rw [hbz] at e3
      have hle : ¬ (u : Int) ≤ bz := by omega
      have hI2 := hI.out.put (u := u) (s' := setOf (zs.take (k + 1))) (by omega) (by rw [hpush, setOf_push]; simp) (fun j _ hj => by rw [hpush, setOf_push]; simp [hj])
      obtain ⟨cu, fu⟩ := hI.out.s11.cell (k := u) (by omega)
      have qa := has_any hI.out.gr.at (u : Int)
      rw [decide_eq_true (by omega)] at qa
      have hI2k := Keep.mk hI2
      have hpk := Keep.mk (And.intro hlst hpush)
      rw [hbz]
      clear hI2 hI hlst hpush hbz
      go_wp2_with (first
        | (go_at_call 80; (with_reducible refine qa.mono ?_); rintro e w7 ⟨rfl, he7⟩; rw [he7]; clear he7 w7))
      exact ⟨⟨k + 1, by omega, by go_num, by rw [hpk.out.1], hI2k⟩, by simp [intOf]; omega⟩
    · obtain rfl : k = m := by omega
      have hlt' : ¬ (k : Int) < (k : Int) := by omega
      have hI3 := hI.out
      rw [show zs.take k = zs by rw [← hm.out]; simp, hS] at hI3
      have hI3k := Keep.mk hI3
      clear hI hI3
      go_wp2
      obtain ⟨CX, hCXd⟩ : ∃ CX : (Nat → Bool) → World → Prop, CX = fun s0 W => RsI w (w.heap.size + 1) w5.heap.size n adj S (if s0 3 = true then S else fun _ => false) W := ⟨_, rfl⟩
      have hCk : ∀ i, i ≠ 3 → ∀ s0 W, CX s0 W → CX (Many.upd s0 i) W := fun i h1 s0 W h => by
        rw [hCXd] at h ⊢
        simp only at h ⊢
        rw [show Many.upd s0 i 3 = s0 3 by simp [Many.upd, h1]]; exact h
      have hC0 : ∀ s0 : Nat → Bool, s0 3 = false → CX s0 wr.drew := fun s0 h1 => by
        rw [hCXd]; simp only [h1, Bool.false_eq_true, if_false]; exact hI3k.out.after ((Below.refl _ _).drew)
      have hCe : ∀ s0 s1 W, (∀ j, s0 j = s1 j) → CX s0 W → CX s1 W := fun s0 s1 W h hc => by
        rw [hCXd] at hc ⊢; simp only at hc ⊢; rw [← h]; exact hc
      have hCs : ∀ s0 W, CX s0 W → SetAt W w5.heap.size S := fun s0 W h => by rw [hCXd] at h; exact h.s11
      have hst : ∀ s0 W, s0 3 = false → CX s0 W → SetAt W w.heap.size (fun _ => false) ∧ CX (Many.upd s0 3) (st12 W w.heap.size S) := fun s0 W hs h => by
        rw [hCXd] at h ⊢
        simp only [hs, Bool.false_eq_true, if_false] at h
        show _ ∧ RsI w (w.heap.size + 1) w5.heap.size n adj S (if Many.upd s0 3 3 = true then S else fun _ => false) _
        rw [show Many.upd s0 3 3 = true by simp [Many.upd]]
        simp only [if_true]
        exact ⟨h.t7, h.res S⟩
      have hfin : ∀ s0 W, s0 3 = true → CX s0 W → RsI w (w.heap.size + 1) w5.heap.size n adj S S W := fun s0 W hs h => by
        rw [hCXd] at h; simp only [hs, if_true] at h; exact h
      clear hCXd hI3k
      refine (wpIn_wide (n := 0)).1 ?_
      refine Many.region_many CX hmx (by kernel_rfl) hCe (fun s0 hs => hC0 s0 (hs 3 (by decide))) ?_
      refine Many.lex_want (by rfl) (Many.tr_read (v := .pointer (some ⟨w.heap.size + 1, 0, none⟩)) (fun W => SetAt W w5.heap.size S) hCs (hCk 0 (by decide)) (fun W h => by
        skip
        clear h; go_simp; (try rfl))) ?_
      simp only [Act.put, List.setIfInBounds_toArray, List.set_cons_succ, List.set_cons_zero, Nat.reduceAdd]
      refine Many.lex_want (by rfl) (Many.tr_read (v := .agg #[.bool (S 0), .bool (S 1), .bool (S 2), .bool (S 3), .bool (S 4), .bool (S 5), .bool (S 6), .bool (S 7), .bool (S 8), .bool (S 9), .bool (S 10), .bool (S 11)]) (fun W => SetAt W w5.heap.size S) hCs (hCk 1 (by decide)) (fun W h => by
        obtain ⟨y0, y1, y2, y3, y4, y5, y6, y7, y8, y9, y10, y11⟩ := h.c12
        clear h; go_simp; (try rfl))) ?_
      simp only [Act.put, List.setIfInBounds_toArray, List.set_cons_succ, List.set_cons_zero, Nat.reduceAdd]
      refine Many.lex_want (by rfl) (Many.tr_read (v := .pointer (some ⟨w.heap.size + 1, 0, none⟩)) (fun W => SetAt W w5.heap.size S) hCs (hCk 2 (by decide)) (fun W h => by
        skip
        clear h; go_simp; (try rfl))) ?_
      simp only [Act.put, List.setIfInBounds_toArray, List.set_cons_succ, List.set_cons_zero, Nat.reduceAdd]
      refine Many.lex_want (by rfl) (Many.tr_step (v := undef) (fun s0 W hs hC => ?_)) ?_
      · obtain ⟨hz, h2⟩ := hst s0 W hs hC
        obtain ⟨z0, z1, z2, z3, z4, z5, z6, z7, z8, z9, z10, z11⟩ := hz.c12
        obtain ⟨f0, f1, f2, f3, f4, f5, f6, f7, f8, f9, f10, f11⟩ := hz.f12
        obtain ⟨V9, hV9⟩ : ∃ V9, st12 W w.heap.size S = V9 := ⟨_, rfl⟩
        rw [hV9] at h2
        have h2k := Keep.mk h2
        clear hC h2 hz
        unfold st12 at hV9
        go_simp
        try rw [hV9]
        exact ⟨rfl, h2k.out⟩
      simp only [Act.put, List.setIfInBounds_toArray, List.set_cons_succ, List.set_cons_zero, Nat.reduceAdd]
      refine Many.lex_want (by rfl) (Many.tr_read (v := .bool true) (fun W => SetAt W w5.heap.size S) hCs (hCk 4 (by decide)) (fun W h => by
        skip
        clear h; go_simp; (try rfl))) ?_
      simp only [Act.put, List.setIfInBounds_toArray, List.set_cons_succ, List.set_cons_zero, Nat.reduceAdd]
      refine Many.lex_nil fun s9 W4 hs9 hS4 => ?_
      have hI4 := hfin s9 W4 (hs9 3 (by decide)) hS4
      have hI4k := Keep.mk hI4
      obtain ⟨x0, x1, x2, x3, x4, x5, x6, x7, x8, x9, x10, x11⟩ := hI4.t7.c12
      clear hS4 hs9 hI4
      go_wp2
      refine bodyPost_ret (v := .tuple #[.pointer (some ⟨w.heap.size + 1, 0, none⟩), .agg #[.bool (S 0), .bool (S 1), .bool (S 2), .bool (S 3), .bool (S 4), .bool (S 5), .bool (S 6), .bool (S 7), .bool (S 8), .bool (S 9), .bool (S 10), .bool (S 11)], .bool true]) (by simp [results, Try.results57, go_sem]; try go_simp) rfl ?_
      exact ⟨_, rfl, hI4k.out.gr, by omega, hI4k.out.bw⟩
end Go.Proofs.Yteekigpdiklppaa
