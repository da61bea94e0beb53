import Derived.Test.YteekigpdiklppaaWStages
set_option linter.unusedSimpArgs false
set_option linter.unusedVariables false
namespace Go.Proofs.Yteekigpdiklppaa
open Go Go.Proofs Go.RowKit Go.Seq
attribute [local go_sem] Oper.semAt_some
set_option maxRecDepth 100000 in
theorem stages_any (s : Nat → Bool) (f : Nat) (bd cp : Array Value) (w : World) : Calls Try.prog 61 #[setV s, .func (.func f) bd cp] w fun e w' => e = .returned (.func (.func 82) #[] #[.pointer (some ⟨w.heap.size, 0, none⟩), .pointer (some ⟨w.heap.size + 1, 0, none⟩)]) ∧ w' = (w.alloc (.cells (sc s) 79)).alloc (.cells #[.func (.func f) bd cp] 93) := by
  unfold setV sc
  go_enter Try.func61, Try.ntmps61
  go_wp2
  go_ret
  exact ⟨rfl, rfl⟩
/-- The last stage of a list, and its number. -/
def lst (s : Nat → Bool) (pre : List (Nat × (Nat → Bool))) : Nat × (Nat → Bool) := pre.getLast?.getD (0, s)
theorem lst_snoc (s : Nat → Bool) (pre : List (Nat × (Nat → Bool))) (x : Nat × (Nat → Bool)) : lst s (pre ++ [x]) = x := by simp [lst]
structure ClI (w : World) (f : Value) (s : Nat → Bool) (R : World → Prop) (x : Nat × (Nat → Bool)) (z : Nat → Bool) (W : World) : Prop where
  t2 : SetAt W w.heap.size x.2
  t4 : SetAt W (w.heap.size + 1) z
  t6 : W.heap[w.heap.size + 1 + 1]? = some (.cells #[.int .i64 x.1] 3 (0, 0))
  fv : W.heap[w.heap.size + 4]? = some (.cells #[f] 93 (0, 0))
  bw : Below w.heap.size w W
  sz : w.heap.size + 5 ≤ W.heap.size
theorem ClI.keepsL {w W W' : World} {f : Value} {s : Nat → Bool} {R : World → Prop} {x : Nat × (Nat → Bool)} {z : Nat → Bool} (h : ClI w f s R x z W) (hk : Pv.KeepsL (w.heap.size + 5) (fun k => k = w.heap.size + 3) W W') : ClI w f s R x z W' := by
  have hsz := h.sz
  exact ⟨(hk.block _ (by omega) (by omega)).trans h.t2, (hk.block _ (by omega) (by omega)).trans h.t4, (hk.block _ (by omega) (by omega)).trans h.t6, (hk.block _ (by omega) (by omega)).trans h.fv,
    h.bw.trans (hk.below (B := w.heap.size) (by intro k hk; omega) (by omega)), Nat.le_trans hsz hk.size⟩
theorem ClI.after {w W W' : World} {f : Value} {s : Nat → Bool} {R : World → Prop} {x : Nat × (Nat → Bool)} {z : Nat → Bool} (h : ClI w f s R x z W) (hb : Below W.heap.size W W') : ClI w f s R x z W' := by
  have hsz := h.sz
  exact ⟨h.t2.after hb, h.t4.after hb, (hb.block _ (by omega)).trans h.t6, (hb.block _ (by omega)).trans h.fv, h.bw.trans (hb.mono h.bw.size), Nat.le_trans hsz hb.size⟩
theorem ClI.next {w W : World} {f : Value} {s : Nat → Bool} {R : World → Prop} {x : Nat × (Nat → Bool)} {z : Nat → Bool} (i : Nat) (F : Nat → Bool) (h : ClI w f s R x z W) : ClI w f s R (i, F) z ((st12 W w.heap.size F).setCell ⟨w.heap.size + 1 + 1, 0, none⟩ (.int .i64 i)) := by
  have h6 : (st12 W w.heap.size F).heap[w.heap.size + 1 + 1]? = some (.cells #[.int .i64 x.1] 3 (0, 0)) := (st12_heap _ _ _ (by omega)).trans h.t6
  refine ⟨(st12_set h.t2).other (by omega), SetAt.other ((st12_heap _ _ _ (by omega)).trans h.t4) (by omega), ?_, (Below.heap_setCell _ _ _ _ (by show w.heap.size + 4 ≠ w.heap.size + 1 + 1; omega)).trans ((st12_heap _ _ _ (by omega)).trans h.fv), (st12_below h.bw (Nat.le_refl _)).setCell (p := ⟨w.heap.size + 1 + 1, 0, none⟩) (by show w.heap.size ≤ w.heap.size + 1 + 1; omega) _, ?_⟩
  · rw [heap_set h6]; rfl
  · have h1 := st12_size W w.heap.size F
    have h2 := h.sz
    simp [World.setCell]; omega
theorem ClI.res {w W : World} {f : Value} {s : Nat → Bool} {R : World → Prop} {x : Nat × (Nat → Bool)} {z y : Nat → Bool} (h : ClI w f s R x z W) : ClI w f s R x y (st12 W (w.heap.size + 1) y) :=
  ⟨(st12_heap _ _ _ (by omega)).trans h.t2, st12_set h.t4, (st12_heap _ _ _ (by omega)).trans h.t6, (st12_heap _ _ _ (by omega)).trans h.fv, st12_below h.bw (by omega), by rw [st12_size]; exact h.sz⟩
set_option maxHeartbeats 4000000 in
set_option maxRecDepth 100000 in
theorem closure_any {K f : Nat} {bd cp : Array Value} {rd : (Nat → Bool) → Nat → Bool} {R : World → Prop} {s : Nat → Bool} {w : World} (hq : Rnd f bd cp rd R) (hK : Stops rd s K)
    (hR : ∀ W, Below w.heap.size w W → R W) :
    Calls Try.prog 58 #[setV s, .func (.func f) bd cp] w fun e w' => e = .returned (.tuple #[setV (stg rd s K), .int .i64 K]) ∧ Below w.heap.size w w' := by
  have hmx : Try.prog.follows .mixedOrders = true := by kernel_rfl
  obtain ⟨fv, hfv⟩ : ∃ fv : Value, .func (.func f) bd cp = fv := ⟨_, rfl⟩
  rw [hfv]
  obtain ⟨wa, hwa⟩ : ∃ wa, w.alloc (.cells (sc s) 79) = wa := ⟨_, rfl⟩
  obtain ⟨wb, hwb⟩ : ∃ wb, wa.alloc (.cells (sc (fun _ => false)) 79) = wb := ⟨_, rfl⟩
  obtain ⟨wc, hwc⟩ : ∃ wc, wb.alloc (.cells #[.int .i64 0] 3) = wc := ⟨_, rfl⟩
  obtain ⟨wd, hwd⟩ : ∃ wd, wc.alloc (.cells (sc s) 79) = wd := ⟨_, rfl⟩
  obtain ⟨we, hwe⟩ : ∃ we, wd.alloc (.cells #[fv] 93) = we := ⟨_, rfl⟩
  have sa : wa.heap.size = w.heap.size + 1 := by rw [← hwa]; simp
  have sb : wb.heap.size = w.heap.size + 1 + 1 := by rw [← hwb]; simp [sa]
  have ss : wc.heap.size = w.heap.size + 1 + 1 + 1 := by rw [← hwc]; simp [sb]
  have sd : wd.heap.size = w.heap.size + 1 + 1 + 1 + 1 := by rw [← hwd]; simp [ss]
  have se : we.heap.size = w.heap.size + 5 := by rw [← hwe]; simp [sd]
  have ba : Below w.heap.size w wa := by rw [← hwa]; exact (Below.refl _ _).alloc (Nat.le_refl _) _
  have bb : Below wa.heap.size wa wb := by rw [← hwb]; exact (Below.refl _ _).alloc (Nat.le_refl _) _
  have bc : Below wb.heap.size wb wc := by rw [← hwc]; exact (Below.refl _ _).alloc (Nat.le_refl _) _
  have bd' : Below wc.heap.size wc wd := by rw [← hwd]; exact (Below.refl _ _).alloc (Nat.le_refl _) _
  have be : Below wd.heap.size wd we := by rw [← hwe]; exact (Below.refl _ _).alloc (Nat.le_refl _) _
  have fa : SetAt wa w.heap.size s := by rw [← hwa]; exact SetAt.new _ _
  have fb : SetAt wb (w.heap.size + 1) (fun _ => false) := by rw [← sa, ← hwb]; exact SetAt.new _ _
  have fc : wc.heap[w.heap.size + 1 + 1]? = some (.cells #[.int .i64 0] 3 (0, 0)) := by rw [← sb, ← hwc]; exact World.alloc_heap_new wb _
  have fd : SetAt wd (w.heap.size + 1 + 1 + 1) s := by rw [← ss, ← hwd]; exact SetAt.new _ _
  have fe : we.heap[w.heap.size + 1 + 1 + 1 + 1]? = some (.cells #[fv] 93 (0, 0)) := by rw [← sd, ← hwe]; exact World.alloc_heap_new wd _
  have bce := bd'.trans (be.mono bd'.size)
  have bbe := bc.trans (bce.mono bc.size)
  have bae := bb.trans (bbe.mono bb.size)
  have hfa3 := fa.after bb
  have hd0 := fd.after be
  have hI : ClI w fv s R (lst s []) (fun _ => false) we := ⟨fa.after bae, fb.after bbe, (bce.block _ (by omega)).trans fc, fe, ba.trans (bae.mono ba.size), by omega⟩
  clear sd ba bb bc bd' be fa fb fc fd fe bce bbe bae
  obtain ⟨x0, x1, x2, x3, x4, x5, x6, x7, x8, x9, x10, x11⟩ := hfa3.c12
  have q61 := fun w => stages_any s f bd cp w
  rw [hfv] at q61
  unfold setV sc at q61
  have hIk := Keep.mk hI
  have hd0k := Keep.mk hd0
  clear hI hd0 hfa3
  unfold setV
  unfold sc at hwa hwb hwd ⊢
  have hwk := Keep.mk (And.intro hwc (And.intro hwd hwe))
  clear hwc hwd hwe
  refine (callsIn_wide (n := 0)).1 ?_
  refine callsIn_of_wp_marks Try.func58 rfl trivial ?_ rfl
  simp only [Try.ntmps58, List.size_toArray, List.length_cons, List.length_nil, Nat.reduceAdd, Nat.reduceSub, Array.replicate_succ, Array.replicate_zero, List.push_toArray, List.append_toArray, List.nil_append, List.cons_append]
  refine wpIn_wide.2 ?_
  go_wp2_with (first
    | (go_at_call 61; (with_reducible refine (q61 _).mono ?_); rintro e w5 ⟨rfl, hw5⟩; rw [hw5]; clear hw5 w5))
  refine (wpIn_wide (n := 0)).1 ?_
  obtain ⟨hwc, hwd, hwe⟩ := hwk.out
  rw [hwc, hwd, hwe]
  clear hwk
  clear hwa hwb hwc hwd hwe sa sb x0 x1 x2 x3 x4 x5 x6 x7 x8 x9 x10 x11 q61
  subst hfv
  refine Pv.range_givesV (gf := 82) (lb := #[.pointer (some ⟨w.heap.size + 1 + 1 + 1, 0, none⟩), .pointer (some ⟨w.heap.size + 1 + 1 + 1 + 1, 0, none⟩)]) (by first | rfl | (simp [ss]; done)) (enters_of Try.func82 (by kernel_rfl) rfl) (encs := encS) (xs := stgs rd s (K + 1))
    (R := fun V => R V ∧ V.cell? ⟨w.heap.size + 4, 0, none⟩ = some (.func (.func f) bd cp)) (fun x => rfl) (fun k => k = w.heap.size + 3) (by intro k hk; omega) (fun W1' h1 hb1 => stages_gives (R := fun V => R V ∧ V.cell? ⟨w.heap.size + 4, 0, none⟩ = some (.func (.func f) bd cp)) ⟨hq.eg, fun s' W' h => hq.call s' W' h.1⟩ hK W1' (fun W' h => h.2) (hd0k.out.below hb1 (by omega)))
    (fun _ _ => true) .ret .ret (.inl ⟨rfl, rfl⟩)
    (fun pre V => ClI w (.func (.func f) bd cp) s R (lst s pre) (fun _ => false) V) (fun pre V => ClI w (.func (.func f) bd cp) s R (lst s pre) (fun _ => false) V) ?_ ?_ ?_ ?_ hIk.out
    (fun x a' V => ∃ g, a' = { tmps := #[.agg #[.bool (s 0), .bool (s 1), .bool (s 2), .bool (s 3), .bool (s 4), .bool (s 5), .bool (s 6), .bool (s 7), .bool (s 8), .bool (s 9), .bool (s 10), .bool (s 11)], .func (.func f) bd cp, .pointer (some ⟨w.heap.size, 0, none⟩), undef, .pointer (some ⟨w.heap.size + 1, 0, none⟩), .int .i64 0, .pointer (some ⟨w.heap.size + 1 + 1, 0, none⟩), .int .i64 x.1, .pointer (some ⟨g, 0, none⟩), .agg #[.bool (s 0), .bool (s 1), .bool (s 2), .bool (s 3), .bool (s 4), .bool (s 5), .bool (s 6), .bool (s 7), .bool (s 8), .bool (s 9), .bool (s 10), .bool (s 11)], .func (.func f) bd cp, .func (.func 82) #[] #[.pointer (some ⟨w.heap.size + 1 + 1 + 1, 0, none⟩), .pointer (some ⟨w.heap.size + 1 + 1 + 1 + 1, 0, none⟩)], .int .i64 x.1, .agg #[.bool (x.2 0), .bool (x.2 1), .bool (x.2 2), .bool (x.2 3), .bool (x.2 4), .bool (x.2 5), .bool (x.2 6), .bool (x.2 7), .bool (x.2 8), .bool (x.2 9), .bool (x.2 10), .bool (x.2 11)], undef, undef, undef, undef], defers := [] } ∧ SetAt V g x.2 ∧ w.heap.size + 7 ≤ g)
    ?_ ?assign ?body ?done ?stop
  · intro pre V V' h hk; rw [se] at hk; exact h.keepsL hk
  · intro pre V V' h hk; rw [se] at hk; exact h.keepsL hk
  · intro pre V h; exact ⟨hR V h.bw, by simp [World.cell?, h.fv]⟩
  · intro pre V h; exact ⟨hR V h.bw, by simp [World.cell?, h.fv]⟩
  · rintro x a' V V' ⟨g, rfl, h1, h2⟩ hs hk
    rw [se] at hk
    exact ⟨g, rfl, (hk.block g h1.lt (by omega)).trans h1, h2⟩
  case assign =>
    intro l2 pre x V K hi hsz2 hK
    obtain ⟨V1, hV1⟩ : ∃ V1, V.alloc (.cells (sc x.2) 79) = V1 := ⟨_, rfl⟩
    have hb1 : Below V.heap.size V V1 := by rw [← hV1]; exact (Below.refl _ _).alloc (Nat.le_refl _) _
    have hn1 : SetAt V1 V.heap.size x.2 := by rw [← hV1]; exact SetAt.new _ _
    unfold encS setV
    unfold sc at hV1 ⊢
    gi_wp2
    try rw [hV1]
    exact hK _ _ hb1 ⟨V.heap.size, rfl, hn1, by omega⟩
  case body =>
    rintro l2 pre x a' V hi ⟨g, rfl, hg, hg7⟩ hsz2 ⟨post, hpost⟩ - -
    obtain ⟨i, F⟩ := x
    simp only at hg
    obtain ⟨c0, c1, c2, c3, c4, c5, c6, c7, c8, c9, c10, c11⟩ := hg.c12
    obtain ⟨d0, d1, d2, d3, d4, d5, d6, d7, d8, d9, d10, d11⟩ := hi.t2.c12
    obtain ⟨f0, f1, f2, f3, f4, f5, f6, f7, f8, f9, f10, f11⟩ := hi.t2.f12
    have c6' : V.cell? ⟨w.heap.size + 1 + 1, 0, none⟩ = some (.int .i64 (lst s pre).1) := by simp [World.cell?, hi.t6]
    have f6' : V.frozen? ⟨w.heap.size + 1 + 1, 0, none⟩ = false := by simp [World.frozen?, hi.t6]
    have hn := hi.next i F
    rw [← lst_snoc s pre (i, F)] at hn
    have hnk := Keep.mk hn
    have hik := Keep.mk hi
    clear hi hn hg
    have hkp : ∀ k, k ≠ w.heap.size → k ≠ w.heap.size + 1 + 1 → ((st12 V w.heap.size F).setCell ⟨w.heap.size + 1 + 1, 0, none⟩ (.int .i64 i)).heap[k]? = V.heap[k]? := fun k h1 h2 => (Below.heap_setCell _ _ _ _ (by show k ≠ w.heap.size + 1 + 1; omega)).trans (st12_heap _ _ _ h1)
    have hn2 := hnk.out
    obtain ⟨V9, hV9⟩ : ∃ V9, (st12 V w.heap.size F).setCell ⟨w.heap.size + 1 + 1, 0, none⟩ (.int .i64 i) = V9 := ⟨_, rfl⟩
    rw [hV9] at hn2 hkp
    have hbb := Keep.mk (And.intro hn2 hkp)
    have hB9 : Below w.heap.size V V9 := by rw [← hV9]; exact (st12_below (Below.refl _ _) (Nat.le_refl _)).setCell (p := ⟨w.heap.size + 1 + 1, 0, none⟩) (by show w.heap.size ≤ w.heap.size + 1 + 1; omega) _
    have hB9k := Keep.mk hB9
    clear hn2 hkp hnk hB9
    unfold st12 at hV9
    gi_wp2
    try rw [hV9]
    obtain ⟨hn2, hkp⟩ := hbb.out
    refine ⟨hn2, ⟨hB9k.out.size, ?_, ?_, ?_⟩, hB9k.out.os, hB9k.out.tape, hB9k.out.output⟩
    · exact hkp _ (by omega) (by omega)
    · exact hkp _ (by omega) (by omega)
    · exact hkp _ (by omega) (by omega)
  case done =>
    intro V hi hgo hsz2 hD
    obtain ⟨F, hF⟩ : ∃ F, stg rd s K = F := ⟨_, rfl⟩
    have hlst : lst s (stgs rd s (K + 1)) = (K, F) := by rw [stgs_succ, lst_snoc, hF]
    rw [hlst] at hi
    gi_wp2
    go_wp2
    refine (wpIn_wide (n := 0)).1 ?_
    refine Many.region_many (fun s0 W => ClI w (.func (.func f) bd cp) s R (K, F) (if s0 2 = true then F else fun _ => false) W ∧ W.heap[we.heap.size]? = some (.deferred (some []))) hmx (by kernel_rfl) (fun s s' W' h hc => by rw [← h]; exact hc) (fun s hs => by rw [hs 2 (by decide)]; exact ⟨hi.after ((Below.refl _ _).drew), hD⟩) ?_
    clear hi hD
    refine Many.lex_want (by rfl) (Many.tr_read (v := .agg #[.bool (F 0), .bool (F 1), .bool (F 2), .bool (F 3), .bool (F 4), .bool (F 5), .bool (F 6), .bool (F 7), .bool (F 8), .bool (F 9), .bool (F 10), .bool (F 11)]) (fun W => ClI w (.func (.func f) bd cp) s R (K, F) (fun _ => false) W ∨ ClI w (.func (.func f) bd cp) s R (K, F) F W) (fun s0 W h => by (by_cases e : s0 2 = true); (· rw [if_pos e] at h; exact .inr h.1); (· rw [if_neg e] at h; exact .inl h.1)) (fun s0 W h => by simpa [Many.upd] using h) (fun W h => by
      have hx : Cells12 W w.heap.size F := by rcases h with h | h <;> exact h.t2.c12
      clear h
      obtain ⟨x0, x1, x2, x3, x4, x5, x6, x7, x8, x9, x10, x11⟩ := hx
      go_simp; try rfl)) ?_
    simp only [Act.put, List.setIfInBounds_toArray, List.set_cons_succ, List.set_cons_zero, Nat.reduceAdd]
    refine Many.lex_want (by rfl) (Many.tr_read (v := .int .i64 K) (fun W => W.cell? ⟨w.heap.size + 1 + 1, 0, none⟩ = some (.int .i64 K)) (fun s0 W h => by simp [World.cell?, h.1.t6]) (fun s0 W h => by simpa [Many.upd] using h) (fun W h => by go_simp; try rfl)) ?_
    simp only [Act.put, List.setIfInBounds_toArray, List.set_cons_succ, List.set_cons_zero, Nat.reduceAdd]
    refine Many.lex_want (by rfl) (Many.tr_step (v := undef) (fun s0 W hs hC => ?_)) ?_
    · rw [hs] at hC
      obtain ⟨hC1, hC2⟩ := hC
      simp only [Bool.false_eq_true, if_false] at hC1
      obtain ⟨z0, z1, z2, z3, z4, z5, z6, z7, z8, z9, z10, z11⟩ := hC1.t4.c12
      obtain ⟨f0, f1, f2, f3, f4, f5, f6, f7, f8, f9, f10, f11⟩ := hC1.t4.f12
      have hn := hC1.res (y := F)
      have hd : (st12 W (w.heap.size + 1) F).heap[we.heap.size]? = some (.deferred (some [])) := (st12_heap _ _ _ (by omega)).trans hC2
      have hnk := Keep.mk (And.intro hn hd)
      clear hC1 hC2 hn hd
      have hup : Many.upd s0 2 2 = true := by simp [Many.upd]
      rw [hup]
      simp only [if_true]
      obtain ⟨V9, hV9⟩ : ∃ V9, st12 W (w.heap.size + 1) F = V9 := ⟨_, rfl⟩
      rw [hV9] at hnk
      unfold st12 at hV9
      go_simp
      try rw [hV9]
      exact ⟨rfl, hnk.out.1, by rw [← se]; exact hnk.out.2⟩
    simp only [Act.put, List.setIfInBounds_toArray, List.set_cons_succ, List.set_cons_zero, Nat.reduceAdd]
    refine Many.lex_want (by rfl) (Many.tr_read (v := .int .i64 K) (fun W => True) (fun s0 W h => trivial) (fun s0 W h => by simpa [Many.upd] using h) (fun W h => by go_simp; try rfl)) ?_
    simp only [Act.put, List.setIfInBounds_toArray, List.set_cons_succ, List.set_cons_zero, Nat.reduceAdd]
    refine Many.lex_nil fun s9 W4 hs9 hS4 => ?_
    rw [hs9 2 (by decide)] at hS4
    obtain ⟨hS, hD⟩ := hS4
    simp only [if_true] at hS
    go_wp2
    refine Qr.leaves_mark hD fun w' hk => ⟨.tuple #[.agg #[.bool (F 0), .bool (F 1), .bool (F 2), .bool (F 3), .bool (F 4), .bool (F 5), .bool (F 6), .bool (F 7), .bool (F 8), .bool (F 9), .bool (F 10), .bool (F 11)], .int .i64 K], ?_, by rw [← hF], hS.bw.trans (hk.below (by omega) (by have := hS.sz; omega))⟩
    have hst2 : SetAt w' (w.heap.size + 1) F := (hk.block _ (by have := hS.sz; omega) (by omega) (by omega)).trans hS.t4
    obtain ⟨c0, c1, c2, c3, c4, c5, c6, c7, c8, c9, c10, c11⟩ := hst2.c12
    first
      | (simp [results, Try.results58, go_sem]; done)
      | (simp [results, Try.results58, go_sem]; go_simp)
  case stop =>
    intro V p x post _ _ h
    cases h
end Go.Proofs.Yteekigpdiklppaa
