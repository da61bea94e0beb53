import Derived.Test.YteekigpdiklppaaWWets
import Derived.Test.YteekigpdiklppaaWSets
set_option linter.unusedSimpArgs false
set_option linter.unusedVariables false
namespace Go.Proofs.Yteekigpdiklppaa
open Go Go.Proofs Go.RowKit Go.Seq
attribute [local go_sem] Oper.semAt_some
structure LeI (w : World) (b n : Nat) (adj : Nat → Nat → Bool) (fv : Value) (z : Nat → Bool) (W : World) : Prop where
  g : GraphAt W b n adj
  t2 : W.heap[w.heap.size]? = some (.cells #[.pointer (some ⟨b, 0, none⟩)] 77 (0, 0))
  t3 : W.heap[w.heap.size + 1]? = some (.cells #[fv] 93 (0, 0))
  t4 : SetAt W (w.heap.size + 1 + 1) z
  t7 : W.heap[w.heap.size + 1 + 1 + 1]? = some (.cells #[.pointer (some ⟨b, 0, none⟩)] 77 (0, 0))
  bw : Below w.heap.size w W
  sz : w.heap.size + 4 ≤ W.heap.size
theorem LeI.keepsL {w W W' : World} {b n : Nat} {adj : Nat → Nat → Bool} {fv : Value} {z : Nat → Bool} (h : LeI w b n adj fv z W) (hb : b < w.heap.size) (hk : Pv.KeepsL (w.heap.size + 4) Pq.none' W W') : LeI w b n adj fv z W' := by
  have hsz := h.sz
  have hn : ∀ k, k < w.heap.size + 4 → ¬ (k = w.heap.size + 4 ∨ k = w.heap.size + 4 + 1 ∨ Pq.none' k) := fun k hk h => by
    rcases h with h | h | h
    · omega
    · omega
    · exact h
  have hbl : Below w.heap.size W W' := Pv.KeepsV.below hk (fun k hk => by (rcases hk with h | h | h); (· omega); (· omega); (· exact h.elim)) (by omega)
  exact ⟨h.g.below hbl hb, (hk.block _ (by omega) (hn _ (by omega))).trans h.t2, (hk.block _ (by omega) (hn _ (by omega))).trans h.t3, (hk.block _ (by omega) (hn _ (by omega))).trans h.t4, (hk.block _ (by omega) (hn _ (by omega))).trans h.t7, h.bw.trans hbl, Nat.le_trans hsz hk.size⟩
theorem LeI.after {w W W' : World} {b n : Nat} {adj : Nat → Nat → Bool} {fv : Value} {z : Nat → Bool} (h : LeI w b n adj fv z W) (hb : Below W.heap.size W W') : LeI w b n adj fv z W' := by
  have hsz := h.sz
  exact ⟨h.g.below hb h.g.lt, (hb.block _ (by omega)).trans h.t2, (hb.block _ (by omega)).trans h.t3, h.t4.after hb, (hb.block _ (by omega)).trans h.t7, h.bw.trans (hb.mono h.bw.size), Nat.le_trans hsz hb.size⟩
theorem LeI.res {w W : World} {b n : Nat} {adj : Nat → Nat → Bool} {fv : Value} {z : Nat → Bool} (y : Nat → Bool) (h : LeI w b n adj fv z W) (hb : b < w.heap.size) : LeI w b n adj fv y (st12 W (w.heap.size + 1 + 1) y) :=
  ⟨⟨(World.cell?_of_block (a := ⟨b, 0, none⟩) (st12_heap _ _ _ (by show b ≠ w.heap.size + 1 + 1; omega))).trans h.g.size, fun i j hi hj => (World.cell?_of_block (a := ⟨b, 1 + i * 12 + j, none⟩) (st12_heap _ _ _ (by show b ≠ w.heap.size + 1 + 1; omega))).trans (h.g.at_ i j hi hj)⟩,
    (st12_heap _ _ _ (by omega)).trans h.t2, (st12_heap _ _ _ (by omega)).trans h.t3, st12_set h.t4, (st12_heap _ _ _ (by omega)).trans h.t7, st12_below h.bw (by omega), by rw [st12_size]; exact h.sz⟩
def leastOf (n : Nat) (isW : (Nat → Bool) → Bool) : Nat → Bool := ((setsTo n n).find? isW).getD (allS n)
theorem find_going {isW : (Nat → Bool) → Bool} : ∀ {p : List (Nat → Bool)}, Stp.going (fun _ x => !isW x) p → ∀ y ∈ p, isW y = false := by
  intro p hg y hy
  obtain ⟨a, c, rfl⟩ := List.append_of_mem hy
  have := hg a y c rfl
  simpa using this
theorem leastOf_stop {n : Nat} {isW : (Nat → Bool) → Bool} {p post : List (Nat → Bool)} {x : Nat → Bool} (hx : setsTo n n = p ++ x :: post) (hg : Stp.going (fun _ x => !isW x) p) (hw : isW x = true) : leastOf n isW = x := by
  unfold leastOf
  rw [hx, List.find?_append, List.find?_eq_none.2 (fun y hy => by simp [find_going hg y hy])]
  simp [hw]
theorem leastOf_done {n : Nat} {isW : (Nat → Bool) → Bool} (hg : Stp.going (fun _ x => !isW x) (setsTo n n)) : leastOf n isW = allS n := by
  unfold leastOf
  rw [List.find?_eq_none.2 (fun y hy => by simp [find_going hg y hy])]
  rfl
set_option maxHeartbeats 4000000 in
set_option maxRecDepth 100000 in
theorem least_any {b n f : Nat} {bd cp : Array Value} {adj : Nat → Nat → Bool} {rd : (Nat → Bool) → Nat → Bool} {R : World → Prop} {w : World} (kf : (Nat → Bool) → Nat) (hg : GraphAt w b n adj) (hn : n ≤ 12) (hq : Rnd f bd cp rd R) (hK : ∀ s, Stops rd s (kf s))
    (hR : ∀ W, Below w.heap.size w W → R W) :
    Calls Try.prog 70 #[.pointer (some ⟨b, 0, none⟩), .func (.func f) bd cp] w fun e w' => e = .returned (setV (leastOf n fun s => eqb (stg rd s (kf s)) (allS n))) ∧ Below w.heap.size w w' := by
  have hgl := hg.lt
  obtain ⟨isW, hisW⟩ : ∃ isW : (Nat → Bool) → Bool, (fun s => eqb (stg rd s (kf s)) (allS n)) = isW := ⟨_, rfl⟩
  have q75 : Keep (∀ s W, GraphAt W b n adj → Below w.heap.size w W → Calls Try.prog 75 #[.pointer (some ⟨b, 0, none⟩), setV s, .func (.func f) bd cp] W fun e w' => e = .returned (.bool (isW s)) ∧ Below W.heap.size W w') := ⟨fun s W hg' hb => by
    rw [← hisW]
    exact wets_any hg' hn hq (hK s) (fun W' hb' => hR W' (hb.trans (hb'.mono hb.size)))⟩
  rw [hisW]
  clear hisW hR hK hq
  obtain ⟨wa, hwa⟩ : ∃ wa, w.alloc (.cells #[.pointer (some ⟨b, 0, none⟩)] 77) = wa := ⟨_, rfl⟩
  obtain ⟨wb, hwb⟩ : ∃ wb, wa.alloc (.cells #[.func (.func f) bd cp] 93) = wb := ⟨_, rfl⟩
  obtain ⟨wc, hwc⟩ : ∃ wc, wb.alloc (.cells (sc (fun _ => false)) 79) = wc := ⟨_, rfl⟩
  obtain ⟨wd, hwd⟩ : ∃ wd, wc.alloc (.cells #[.pointer (some ⟨b, 0, none⟩)] 77) = wd := ⟨_, rfl⟩
  have sa : wa.heap.size = w.heap.size + 1 := by rw [← hwa]; simp
  have sb : wb.heap.size = w.heap.size + 1 + 1 := by rw [← hwb]; simp [sa]
  have ss : wc.heap.size = w.heap.size + 1 + 1 + 1 := by rw [← hwc]; simp [sb]
  have sd : wd.heap.size = w.heap.size + 4 := by rw [← hwd]; simp [ss]
  have ba : Below w.heap.size w wa := by rw [← hwa]; exact (Below.refl _ _).alloc (Nat.le_refl _) _
  have bb : Below wa.heap.size wa wb := by rw [← hwb]; exact (Below.refl _ _).alloc (Nat.le_refl _) _
  have bc : Below wb.heap.size wb wc := by rw [← hwc]; exact (Below.refl _ _).alloc (Nat.le_refl _) _
  have be : Below wc.heap.size wc wd := by rw [← hwd]; exact (Below.refl _ _).alloc (Nat.le_refl _) _
  have fa : wa.heap[w.heap.size]? = some (.cells #[.pointer (some ⟨b, 0, none⟩)] 77 (0, 0)) := by rw [← hwa]; exact World.alloc_heap_new w _
  have fb : wb.heap[w.heap.size + 1]? = some (.cells #[.func (.func f) bd cp] 93 (0, 0)) := by rw [← sa, ← hwb]; exact World.alloc_heap_new wa _
  have fc : SetAt wc (w.heap.size + 1 + 1) (fun _ => false) := by rw [← sb, ← hwc]; exact SetAt.new _ _
  have fd : wd.heap[w.heap.size + 1 + 1 + 1]? = some (.cells #[.pointer (some ⟨b, 0, none⟩)] 77 (0, 0)) := by rw [← ss, ← hwd]; exact World.alloc_heap_new wc _
  have bce := bc.trans (be.mono bc.size)
  have bbe := bb.trans (bce.mono bb.size)
  have bw := ba.trans (bbe.mono ba.size)
  have hI : Keep (LeI w b n adj (.func (.func f) bd cp) (fun _ => false) wd) := ⟨hg.below bw hgl, (bbe.block _ (by omega)).trans fa, (bce.block _ (by omega)).trans fb, fc.after be, fd, bw, by omega⟩
  have c2 : wc.cell? ⟨w.heap.size, 0, none⟩ = some (.pointer (some ⟨b, 0, none⟩)) := by simp [World.cell?, ((bb.trans (bc.mono bb.size)).block _ (by omega)).trans fa]
  have q84 := Keep.mk (fun W (h : GraphAt W b n adj) => all_any h hn)
  obtain ⟨A, hA⟩ : ∃ A, allS n = A := ⟨_, rfl⟩
  rw [show (fun j => decide (j < n)) = A from hA] at q84
  have hw : ((w.alloc (.cells #[.pointer (some ⟨b, 0, none⟩)] 77)).alloc (.cells #[.func (.func f) bd cp] 93)).alloc (.cells (sc (fun _ => false)) 79) = wc := by rw [hwa, hwb, hwc]
  have q73 := fun w => sets_any (b := b) w
  clear hwa hwb hwc sa sb ba bb bc be fa fb fc fd bce bbe bw
  obtain ⟨L, hL⟩ : ∃ L, leastOf n isW = L := ⟨_, rfl⟩
  rw [hL]
  unfold setV
  unfold sc at hw ⊢
  refine (callsIn_wide (n := 0)).1 ?_
  refine callsIn_of_wp_marks Try.func70 rfl trivial ?_ rfl
  simp only [Try.ntmps70, List.size_toArray, List.length_cons, List.length_nil, Nat.reduceAdd, Nat.reduceSub, Array.replicate_succ, Array.replicate_zero, List.push_toArray, List.append_toArray, List.nil_append, List.cons_append]
  refine wpIn_wide.2 ?_
  go_wp2_with (first
    | (go_at_call 73; (with_reducible refine (q73 _).mono ?_); rintro e w5 ⟨rfl, hw5⟩; rw [hw5]; clear hw5 w5))
  refine (wpIn_wide (n := 0)).1 ?_
  try rw [hwd]
  clear hw hwd q73 c2
  refine Pq.range_givesW (gf := 88) (lb := #[.pointer (some ⟨w.heap.size + 1 + 1 + 1, 0, none⟩)]) (by first | rfl | (simp [ss]; done)) (enters_of Try.func88 (by kernel_rfl) rfl) (encs := encW) (xs := setsTo n n)
    (R := fun V => GraphAt V b n adj ∧ V.cell? ⟨w.heap.size + 1 + 1 + 1, 0, none⟩ = some (.pointer (some ⟨b, 0, none⟩))) (fun x => rfl) (fun W1' h1 hb1 => sets_gives hn W1')
    (fun _ x => !isW x) .ret .ret (.inl ⟨rfl, rfl⟩)
    (fun q pre V => LeI w b n adj (.func (.func f) bd cp) (fun _ => false) V) (fun q pre V => LeI w b n adj (.func (.func f) bd cp) (pre.getLast?.getD (fun _ => false)) V) ?_ ?_ ?_ ?_ hI.out
    (fun x a' V => ∃ g, a' = { tmps := #[.pointer (some ⟨b, 0, none⟩), .func (.func f) bd cp, .pointer (some ⟨w.heap.size, 0, none⟩), .pointer (some ⟨w.heap.size + 1, 0, none⟩), .pointer (some ⟨w.heap.size + 1 + 1, 0, none⟩), .pointer (some ⟨g, 0, none⟩), .pointer (some ⟨b, 0, none⟩), .func (.func 88) #[] #[.pointer (some ⟨w.heap.size + 1 + 1 + 1, 0, none⟩)], .agg #[.bool (x 0), .bool (x 1), .bool (x 2), .bool (x 3), .bool (x 4), .bool (x 5), .bool (x 6), .bool (x 7), .bool (x 8), .bool (x 9), .bool (x 10), .bool (x 11)], undef, undef, undef, undef, undef, undef, undef], defers := [] } ∧ SetAt V g x ∧ w.heap.size + 6 ≤ g)
    ?_ ?assign ?body ?done ?stop
  · intro q q' pre V V' h hk _; rw [sd] at hk; exact h.keepsL hgl hk
  · intro q q' pre V V' h hk _; rw [sd] at hk; exact h.keepsL hgl hk
  · intro q pre V h; exact ⟨h.g, by simp [World.cell?, h.t7]⟩
  · intro q pre V h; exact ⟨h.g, by simp [World.cell?, h.t7]⟩
  · rintro x a' V V' ⟨g, rfl, h1, h2⟩ hs hk
    rw [sd] at hk
    exact ⟨g, rfl, (hk.block g h1.lt (by rintro (h | h | h); (· omega); (· omega); (· exact h))).trans h1, h2⟩
  case assign =>
    intro l2 q pre x V K hi hsz2 hK
    obtain ⟨V1, hV1⟩ : ∃ V1, V.alloc (.cells (sc x) 79) = V1 := ⟨_, rfl⟩
    have hb1 : Below V.heap.size V V1 := by rw [← hV1]; exact (Below.refl _ _).alloc (Nat.le_refl _) _
    have hn1 : SetAt V1 V.heap.size x := by rw [← hV1]; exact SetAt.new _ _
    unfold encW setV
    unfold sc at hV1 ⊢
    gi_wp2
    try rw [hV1]
    exact hK _ _ hb1 ⟨V.heap.size, rfl, hn1, by omega⟩
  case body =>
    rintro l2 qs pre x a' V hi hqb ⟨g, rfl, hg', hg6⟩ hsz2 ⟨post, hpost⟩ - -
    obtain ⟨c0, c1, c2, c3, c4, c5, c6, c7, c8, c9, c10, c11⟩ := hg'.c12
    have c2 : V.cell? ⟨w.heap.size, 0, none⟩ = some (.pointer (some ⟨b, 0, none⟩)) := by simp [World.cell?, hi.t2]
    have c3 : V.cell? ⟨w.heap.size + 1, 0, none⟩ = some (.func (.func f) bd cp) := by simp [World.cell?, hi.t3]
    have q := q75.out x V hi.g hi.bw
    unfold setV sc at q
    have hik := Keep.mk (And.intro hi hg')
    clear hi hg' hI
    cases hz : isW x with
    | false =>
      rw [hz] at q
      gi_wp2_with (first
        | (refine ⟨trivial, rfl, ?_⟩; gi_at_call 75; refine (CallsIn.inRound l2 (callsIn_wide.2 q)).mono ?_; rintro e V5 ⟨rfl, hb5⟩; have hb5k := Keep.mk hb5; clear hb5))
      have hb5 := hb5k.out
      exact ⟨hik.out.1.after hb5, ⟨hb5.size, hb5.block _ (by omega), hb5.block _ (by omega), fun k hk => hb5.block k (hqb k hk).2⟩, hb5.os, hb5.tape, hb5.output⟩
    | true =>
      rw [hz] at q
      gi_wp2_with (first
        | (refine ⟨trivial, rfl, ?_⟩; gi_at_call 75; refine (CallsIn.inRound l2 (callsIn_wide.2 q)).mono ?_; rintro e V5 ⟨rfl, hb5⟩
           have hi5 := hik.out.1.after hb5
           obtain ⟨d0, d1, d2, d3, d4, d5, d6, d7, d8, d9, d10, d11⟩ := (hik.out.2.after hb5).c12
           obtain ⟨z0, z1, z2, z3, z4, z5, z6, z7, z8, z9, z10, z11⟩ := hi5.t4.c12
           obtain ⟨f0, f1, f2, f3, f4, f5, f6, f7, f8, f9, f10, f11⟩ := hi5.t4.f12
           obtain ⟨V9, hV9⟩ : ∃ V9, st12 V5 (w.heap.size + 1 + 1) x = V9 := ⟨_, rfl⟩
           have hr9 := hi5.res x hgl
           have hb9 : Below w.heap.size V5 V9 := by rw [← hV9]; exact st12_below (Below.refl _ _) (by omega)
           have hk9 : ∀ k, k ≠ w.heap.size + 1 + 1 → V9.heap[k]? = V5.heap[k]? := fun k hk => by rw [← hV9]; exact st12_heap _ _ _ hk
           rw [hV9] at hr9
           have hb5k := Keep.mk (And.intro hb5 (And.intro hr9 (And.intro hb9 hk9))); clear hb5 hi5 hr9 hb9 hk9
           unfold st12 at hV9))
      obtain ⟨hb5, hr9, hb9, hk9⟩ := hb5k.out
      have hz5 := hb5.size
      exact ⟨hr9, ⟨Nat.le_trans hz5 hb9.size, (hk9 _ (by omega)).trans (hb5.block _ (by omega)), (hk9 _ (by omega)).trans (hb5.block _ (by omega)), fun k hk => (hk9 k (by have := hqb k hk; omega)).trans (hb5.block k (hqb k hk).2)⟩, hb9.os.trans hb5.os, hb9.tape.trans hb5.tape, hb9.output.trans hb5.output⟩
  case done =>
    intro q V hi hgo hsz2 hD
    have hLA : L = A := by rw [← hL, leastOf_done hgo, hA]
    subst hLA
    have c2 : V.cell? ⟨w.heap.size, 0, none⟩ = some (.pointer (some ⟨b, 0, none⟩)) := by simp [World.cell?, hi.t2]
    have q := q84.out V hi.g
    unfold setV sc at q
    have hik := Keep.mk hi
    have hDk := Keep.mk hD
    have hLk := Keep.mk hL
    clear hi hI hD hL hA q84
    gi_wp2
    go_wp2_with (first
      | (go_at_call 84; (with_reducible refine q.mono ?_); rintro e V5 ⟨rfl, hb5⟩
         have hi5 := hik.out.after hb5
         obtain ⟨z0, z1, z2, z3, z4, z5, z6, z7, z8, z9, z10, z11⟩ := hi5.t4.c12
         obtain ⟨f0, f1, f2, f3, f4, f5, f6, f7, f8, f9, f10, f11⟩ := hi5.t4.f12
         obtain ⟨V9, hV9⟩ : ∃ V9, st12 V5 (w.heap.size + 1 + 1) L = V9 := ⟨_, rfl⟩
         have hr9 := hi5.res L hgl
         have hd9 : V9.heap[wd.heap.size]? = some (.deferred (some [])) := by rw [← hV9, st12_heap _ _ _ (by omega), hb5.block _ (by omega)]; exact hDk.out
         rw [hV9] at hr9
         have hb5k := Keep.mk (And.intro hr9 hd9); clear hb5 hi5 hr9 hd9
         unfold st12 at hV9))
    try rw [hV9]
    obtain ⟨hr9, hd9⟩ := hb5k.out
    rw [sd] at hd9
    have hz9 := hr9.sz
    refine Qr.leaves_mark hd9 fun w' hk => ⟨.agg #[.bool (L 0), .bool (L 1), .bool (L 2), .bool (L 3), .bool (L 4), .bool (L 5), .bool (L 6), .bool (L 7), .bool (L 8), .bool (L 9), .bool (L 10), .bool (L 11)], ?_, rfl, hr9.bw.trans (hk.below (by omega) (by omega))⟩
    have hst2 : SetAt w' (w.heap.size + 1 + 1) L := (hk.block _ (by omega) (by omega) (by omega)).trans hr9.t4
    obtain ⟨c0, c1, c2, c3, c4, c5, c6, c7, c8, c9, c10, c11⟩ := hst2.c12
    first
      | (rw [results_cell rfl]; go_simp; done)
      | (simp [results, Try.results70, go_sem]; go_simp)
  case stop =>
    intro q V p x post hx hgo hf hi hsz2 hD
    have hLx : L = x := by rw [← hL]; exact leastOf_stop hx hgo (by simpa using hf)
    subst hLx
    have hi2 : LeI w b n adj (.func (.func f) bd cp) L V := by simpa using hi
    have hz9 := hi2.sz
    clear hI hi q84 hL
    gi_wp2
    refine Qr.leaves_mark hD fun w' hk => ⟨.agg #[.bool (L 0), .bool (L 1), .bool (L 2), .bool (L 3), .bool (L 4), .bool (L 5), .bool (L 6), .bool (L 7), .bool (L 8), .bool (L 9), .bool (L 10), .bool (L 11)], ?_, rfl, hi2.bw.trans (hk.below (by omega) (by omega))⟩
    have hst2 : SetAt w' (w.heap.size + 1 + 1) L := (hk.block _ (by omega) (by omega) (by omega)).trans hi2.t4
    obtain ⟨c0, c1, c2, c3, c4, c5, c6, c7, c8, c9, c10, c11⟩ := hst2.c12
    first
      | (rw [results_cell rfl]; go_simp; done)
      | (simp [results, Try.results70, go_sem]; go_simp)
end Go.Proofs.Yteekigpdiklppaa
