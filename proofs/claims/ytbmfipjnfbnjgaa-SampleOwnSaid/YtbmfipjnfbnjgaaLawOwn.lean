import Derived.Test.YtbmfipjnfbnjgaaTameAll
import Derived.Test.YtbmfipjnfbnjgaaChancesFn
import Derived.Test.YtbmfipjnfbnjgaaLawCurtailed
set_option linter.unusedSimpArgs false
set_option linter.unusedVariables false
namespace Go.Proofs.Ytbmfipjnfbnjgaa
open Go Go.Proofs Go.RowKit Go.Sample Go.Seq
theorem args_crs {W : World} {c : Crs} (h : CrsIn W c) (hl : 1 ≤ c.L) (h1 : c.L ≤ c.ca ∧ c.ca ≤ maxLen ∧ c.L ≤ c.cr ∧ c.cr ≤ maxLen) : ArgInts W c.sa ((List.range c.L).map c.A) ∧ ArgInts W c.sr ((List.range c.L).map c.R) := by
  refine ⟨.inr (.inr ⟨c.ga, c.oa, c.ca, by unfold Crs.sa; simp, by simpa using h1.1, h1.2.1, cell_lt (h.las 0 (by omega)), fun i hi => ?_⟩), .inr (.inr ⟨c.gr, c.ro, c.cr, by unfold Crs.sr; simp, by simpa using h1.2.2.1, h1.2.2.2, cell_lt (h.lrs 0 (by omega)), fun i hi => ?_⟩)⟩
  · have hi' : i < c.L := by simpa using hi
    rw [h.las i hi']; unfold vz; simp [List.getD_eq_getElem?_getD, hi']
  · have hi' : i < c.L := by simpa using hi
    rw [h.lrs i hi']; unfold vz; simp [List.getD_eq_getElem?_getD, hi']
theorem ints_row {W : World} {B n : Nat} {f : Nat → Int} {v : Value} (h : W.ownsRow B 3 1 v n (rowL f n)) : IntsO W v ((List.range n).map f) := by
  have e : rowL f n = ((List.range n).map f).map vz := by unfold rowL; simp
  rw [e] at h
  exact (row_ints h).1
/-- A row that is written. -/
def Wr (W : World) (g n : Nat) : Prop := ∃ cur, W.heap[g]? = some (.cells cur 3 (0, 0)) ∧ n ≤ cur.size
theorem Wr.of {W : World} {B n cap g : Nat} {xs : List Value} (h : W.ownsRow B 3 1 (.slice (some ⟨g, 0, none⟩) n cap) n xs) : Wr W g n ∧ B ≤ g := by
  rcases h.2 with ⟨e, _⟩ | ⟨g', cap', cur, e, hg, hh, hn, hc, hs, _⟩
  · cases e
  · injection e with e1 e2 e3
    injection e1 with e1
    injection e1 with e1
    subst e1 e3
    exact ⟨⟨cur, hh, by omega⟩, hg⟩
theorem Wr.cell {W : World} {g n j : Nat} (h : Wr W g n) (hj : j < n) : (∃ u, W.cell? ⟨g, j, none⟩ = some u) ∧ W.frozen? ⟨g, j, none⟩ = false := by
  obtain ⟨cur, h1, h2⟩ := h
  have hlt : j < cur.size := by omega
  exact ⟨⟨cur[j], by simp [World.cell?, h1, hlt]⟩, by simp [World.frozen?, h1]⟩
theorem Wr.set {W : World} {g g' n j : Nat} (h : Wr W g n) (u : Value) : Wr (W.setCell ⟨g', j, none⟩ u) g n := by
  obtain ⟨cur, h1, h2⟩ := h
  by_cases e : g = g'
  · subst e; exact ⟨_, heap_set h1 _, by simpa using h2⟩
  · exact ⟨cur, (Below.heap_setCell W ⟨g', j, none⟩ u g e).trans h1, h2⟩
theorem Wr.keep {W W' : World} {g n : Nat} (h : Wr W g n) (hb : Below W.heap.size W W') : Wr W' g n := by
  obtain ⟨cur, h1, h2⟩ := h
  exact ⟨cur, (hb.block g (Array.getElem?_eq_some_iff.1 h1).1).trans h1, h2⟩
structure CurI (W1 : World) (g12 ga gr n : Nat) (va vr : Value) (W : World) : Prop where
  bw : Below W1.heap.size W1 W
  o : Own2 W g12 va vr
  ra : Wr W ga n
  rr : Wr W gr n
  ne : W1.heap.size ≤ ga ∧ W1.heap.size ≤ gr ∧ g12 ≠ ga ∧ g12 ≠ gr
theorem CurI.setA {W1 W : World} {g12 ga gr n j : Nat} {va vr : Value} (h : CurI W1 g12 ga gr n va vr W) (u : Value) : CurI W1 g12 ga gr n va vr (W.setCell ⟨ga, j, none⟩ u) :=
  ⟨h.bw.setCell (p := ⟨ga, j, none⟩) h.ne.1 _, h.o.other h.ne.2.2.1, h.ra.set _, h.rr.set _, h.ne⟩
theorem CurI.setR {W1 W : World} {g12 ga gr n j : Nat} {va vr : Value} (h : CurI W1 g12 ga gr n va vr W) (u : Value) : CurI W1 g12 ga gr n va vr (W.setCell ⟨gr, j, none⟩ u) :=
  ⟨h.bw.setCell (p := ⟨gr, j, none⟩) h.ne.2.1 _, h.o.other h.ne.2.2.2, h.ra.set _, h.rr.set _, h.ne⟩
/-- What is compared at the end. -/
structure FinI (w : World) (g10 g11 : Nat) (v1 v2 v3 v4 : Value) (A C : List Int) (W : World) : Prop where
  o10 : Own2 W g10 v1 v2
  o11 : Own2 W g11 v3 v4
  i1 : IntsO W v1 A
  i2 : IntsO W v2 C
  i3 : IntsO W v3 A
  i4 : IntsO W v4 C
  bw : Below w.heap.size w W
theorem FinI.after {w W W' : World} {g10 g11 : Nat} {v1 v2 v3 v4 : Value} {A C : List Int} (h : FinI w g10 g11 v1 v2 v3 v4 A C W) (hb : Below W.heap.size W W') : FinI w g10 g11 v1 v2 v3 v4 A C W' :=
  ⟨h.o10.after hb, h.o11.after hb, intsO_below h.i1 hb, intsO_below h.i2 hb, intsO_below h.i3 hb, intsO_below h.i4 hb, h.bw.trans (hb.mono h.bw.size)⟩
set_option maxHeartbeats 4000000 in
set_option maxRecDepth 100000 in
theorem own_any (a0 a1 a2 : Int) {va vr : Value} {za zr : List Int} {w : World} (ha : ArgInts w va za) (hr : ArgInts w vr zr) : Calls Try.prog 16 #[.agg #[.int .i64 a0, .int .i64 a1, .int .i64 a2], va, vr] w fun e w' => e = .returned (.bool true) ∧ Below w.heap.size w w' := by
  obtain ⟨N, n, c, ⟨h1, h36, hcn, hnN⟩, hmk⟩ := mkSingle a0 a1 a2
  have n1 : 1 ≤ n := by omega
  have q42 := fun w => curtail_own h1 h36 hcn hnN w
  have q43 := fun w => refCurtail_any (n := n) (c := c) n1 (by omega) (by omega) w
  obtain ⟨n0, hn0⟩ : ∃ k, Keep (tmL N za = k) := ⟨_, ⟨rfl⟩⟩
  have k1 : 1 ≤ n0 := by rw [← hn0.out]; unfold tmL; omega
  have k2 : n0 ≤ N := by rw [← hn0.out]; unfold tmL; omega
  have hcok := Keep.mk (fun (ga oa ca gr ro cr : Nat) => (tame_ok za zr k1 k2 : CrsOk (⟨ga, oa, ca, gr, ro, cr, n0, tmA n0 za, tmR n0 za zr⟩ : Crs) N))
  have q50 := Keep.mk (fun (W : World) (ha : ArgInts W va za) (hr : ArgInts W vr zr) => tame_any h1 h36 (argInts_at ha).1 (argInts_at hr).1 (argInts_at ha).2 (argInts_at hr).2)
  have q33 := Keep.mk (fun (W : World) (x : Crs) (hc : CrsIn W x) (hok : CrsOk x N) => (course_any (d := 0) h1 h36 (by omega) hc hok))
  have q34 := Keep.mk (fun (W : World) (x : Crs) (hc : CrsIn W x) (hok : CrsOk x N) => (chances_any (d := N) h1 h36 (Nat.le_refl _) hc hok))
  have q32 := Keep.mk (fun (W : World) (x : Crs) (hc : CrsIn W x) (hok : CrsOk x N) => (fits_any h1 h36 hc hok))
  have q31 := Keep.mk (fun (W : World) (x : Crs) (hc : CrsIn W x) (hl : 1 ≤ x.L ∧ x.L ≤ 36) (hcap : x.L ≤ x.ca ∧ x.ca ≤ maxLen ∧ x.L ≤ x.cr ∧ x.cr ≤ maxLen) => courseCopy_any (A := (List.range x.L).map x.A) (C := (List.range x.L).map x.R) ⟨List.take_of_length_le (by simp; omega)⟩ ⟨List.take_of_length_le (by simp; omega)⟩ (args_crs hc hl.1 hcap).1 (args_crs hc hl.1 hcap).2)
  have q44 := Keep.mk (fun (W : World) (a b : Value) (z : List Int) (ha : IntsO W a z) (hb : IntsO W b z) (hl : z.length ≤ 100000) => (ints_any ha hb hl).mono (R' := fun e w' => e = .returned (.bool true) ∧ Below W.heap.size W w') (fun e w' h => ⟨by rw [h.1, decide_eq_true rfl], by obtain ⟨m, hm⟩ := h.2; rw [hm]; exact below_drewN (Below.refl _ _) m⟩))
  obtain ⟨A0, hA0⟩ : ∃ f, Keep (tmA n0 za = f) := ⟨_, ⟨rfl⟩⟩
  obtain ⟨R0, hR0⟩ : ∃ f, Keep (tmR n0 za zr = f) := ⟨_, ⟨rfl⟩⟩
  simp only [hA0.out, hR0.out] at hcok
  obtain ⟨wq, hwq⟩ : ∃ wq, w.alloc (.cells #[.int .i64 a0, .int .i64 a1, .int .i64 a2] 61) = wq := ⟨_, rfl⟩
  have bw0 : Below w.heap.size w wq := by rw [← hwq]; exact (Below.refl _ _).alloc (Nat.le_refl _) _
  have bq : Below w.heap.size w wq := bw0
  have ha0 := argInts_keep ha bq
  have hr0 := argInts_keep hr bq
  have f3 : wq.heap[w.heap.size]? = some (.cells #[.int .i64 a0, .int .i64 a1, .int .i64 a2] 61 (0, 0)) := by rw [← hwq]; exact World.alloc_heap_new w _
  have x0 : wq.cell? ⟨w.heap.size, 0, none⟩ = some (.int .i64 a0) := by simp [World.cell?, f3]
  have x1 : wq.cell? ⟨w.heap.size, 1, none⟩ = some (.int .i64 a1) := by simp [World.cell?, f3]
  have x2 : wq.cell? ⟨w.heap.size, 2, none⟩ = some (.int .i64 a2) := by simp [World.cell?, f3]
  have tk := Keep.mk True.intro
  clear f3 bq
  go_enter Try.func16, Try.ntmps16
  go_wp2_with (first
    | (go_at_call 47; (with_reducible refine (hmk _).mono ?_); rintro e w1 ⟨rfl, hb1⟩
       have ha1 := argInts_keep ha0 hb1
       have hr1 := argInts_keep hr0 hb1
       have bw1 := bw0.trans (hb1.mono bw0.size)
       have q50' := q50.out w1 ha1 hr1
       clear hb1 hmk ha0 hr0)
    | (go_at_call 50; (with_reducible refine q50'.mono ?_); rintro e w2 ⟨⟨ga, oa, ca, gr, ro, cr, L', xA, xR⟩, rfl, hx, xL1, xA1, xR1, hb2, xg1, xg2, xc1, xc2, xc3, xc4, xg3⟩
       have xL2 : L' = n0 := xL1.trans hn0.out
       have xA2 : xA = A0 := by rw [← hA0.out, ← hn0.out]; exact xA1
       have xR2 : xR = R0 := by rw [← hR0.out, ← hn0.out]; exact xR1
       subst xL2 xA2 xR2
       have bw2 := bw1.trans (hb2.mono bw1.size)
       simp only [Crs.val, Crs.sa, Crs.sr]
       obtain ⟨w3, hw3⟩ : ∃ w3, w2.alloc (.cells #[.slice (some ⟨ga, oa, none⟩) L' ca, .slice (some ⟨gr, ro, none⟩) L' cr] 42) = w3 := ⟨_, rfl⟩
       have b3 : Below w2.heap.size w2 w3 := by rw [← hw3]; exact (Below.refl _ _).alloc (Nat.le_refl _) _
       have hX3 : XR w2.heap.size (⟨ga, oa, ca, gr, ro, cr, L', xA, xR⟩ : Crs) w3 := ⟨by rw [← hw3]; exact Own2.new _ _ _ _, hx.after b3⟩
       have bw3 := bw2.trans (b3.mono bw2.size)
       have q31' := q31.out w3 _ hX3.c (by show 1 ≤ L' ∧ L' ≤ 36; omega) ⟨xc1, xc2, xc3, xc4⟩
       obtain ⟨v0, v1, _, _⟩ := hX3.o
       simp only [Crs.sa, Crs.sr] at v0 v1
       simp only [Crs.sa, Crs.sr] at q31'
       have hok := Keep.mk (hcok.out ga oa ca gr ro cr)
       clear hb2 b3 q50' hx xL1 xA1 xR1 xg1 xg2 xc1 xc2 xc3 xc4 xg3 bw1 bw2)
    | (go_at_call 31; (with_reducible refine q31'.mono ?_); rintro e w4 ⟨y1, y2, rfl, hy1, hy2, hyap, hb4⟩
       obtain ⟨ya, yl, yc, rfl⟩ := row_slice hy1
       obtain ⟨za', zl, zc, rfl⟩ := row_slice hy2
       have hX4 := hX3.after hb4
       have bw4 := bw3.trans (hb4.mono bw3.size)
       obtain ⟨w5, hw5⟩ : ∃ w5, w4.alloc (.cells #[.slice ya yl yc, .slice za' zl zc] 42) = w5 := ⟨_, rfl⟩
       have b5 : Below w4.heap.size w4 w5 := by rw [← hw5]; exact (Below.refl _ _).alloc (Nat.le_refl _) _
       have hX5 := hX4.after b5
       have hF5 : FinI w w2.heap.size w4.heap.size (.slice (some ⟨ga, oa, none⟩) L' ca) (.slice (some ⟨gr, ro, none⟩) L' cr) (.slice ya yl yc) (.slice za' zl zc) ((List.range L').map xA) ((List.range L').map xR) w5 :=
         ⟨hX5.o, by rw [← hw5]; exact Own2.new _ _ _ _, (ints_crs hX5.c).1, (ints_crs hX5.c).2, intsO_below (row_ints hy1).1 b5, intsO_below (row_ints hy2).1 b5, bw4.trans (b5.mono bw4.size)⟩
       obtain ⟨v0, v1, _, _⟩ := hX5.o
       simp only [Crs.sa, Crs.sr] at v0 v1
       have q33' := q33.out w5 _ hX5.c hok.out
       simp only [Crs.val, Crs.sa, Crs.sr, redV, fracV, Int.ofNat_zero, Int.natCast_zero] at q33'
       clear hb4 b5 q31' hX3 hX4 bw3 bw4 hy1 hy2 hyap)
    | (go_at_call 33; (with_reducible refine q33'.mono ?_); rintro e w6 ⟨rfl, hb6⟩
       have hX6 := hX5.after hb6
       have hF6 := hF5.after hb6
       obtain ⟨v0, v1, _, _⟩ := hX6.o
       simp only [Crs.sa, Crs.sr] at v0 v1
       have q34' := q34.out w6 _ hX6.c hok.out
       simp only [Crs.val, Crs.sa, Crs.sr] at q34'
       clear hb6 q33' hX5 hF5)
    | (go_at_call 34; (with_reducible refine q34'.mono ?_); rintro e w7 ⟨ua, ur, rfl, _, _, hb7⟩
       have hX7 := hX6.after hb7
       have hF7 := hF6.after hb7
       obtain ⟨v0, v1, _, _⟩ := hX7.o
       simp only [Crs.sa, Crs.sr] at v0 v1
       have q32' := q32.out w7 _ hX7.c hok.out
       simp only [Crs.val, Crs.sa, Crs.sr] at q32'
       clear hb7 q34' hX6 hF6)
    | (go_at_call 32; (with_reducible refine q32'.mono ?_); rintro e w8 ⟨rfl, hb8⟩
       have hF8 := hF7.after hb8
       clear hb8 q32' hX7 hF7)
    | (go_at_call 42; (with_reducible refine (q42 _).mono ?_); clear tk; rintro e w9 ⟨B, u1, u2, rfl, hB, hT9, hb9⟩
       obtain ⟨ha9, ca9, rfl, hg1, _⟩ := row_parts n1 hT9.a
       obtain ⟨hr9, cr9, rfl, hg2, _⟩ := row_parts n1 hT9.r
       obtain ⟨w10, hw10⟩ : ∃ w10, w9.alloc (.cells #[.slice (some ⟨ha9, 0, none⟩) n ca9, .slice (some ⟨hr9, 0, none⟩) n cr9] 42) = w10 := ⟨_, rfl⟩
       have b10 : Below w9.heap.size w9 w10 := by rw [← hw10]; exact (Below.refl _ _).alloc (Nat.le_refl _) _
       have hwa := (Wr.of hT9.a).1.keep b10
       have hwr := (Wr.of hT9.r).1.keep b10
       have l1 := (hT9.a.lt ha9 rfl).2
       have l2 := (hT9.r.lt hr9 rfl).2
       have hI10 : CurI w8 w9.heap.size ha9 hr9 n (.slice (some ⟨ha9, 0, none⟩) n ca9) (.slice (some ⟨hr9, 0, none⟩) n cr9) w10 :=
         ⟨hb9.trans (b10.mono hb9.size), by rw [← hw10]; exact Own2.new _ _ _ _, hwa, hwr, by omega, by omega, by omega, by omega⟩
       clear hb9 b10 hT9 hwa hwr hB hg1 hg2))
  try rw [hw10]
  obtain ⟨g12, hg12⟩ : ∃ g, w9.heap.size = g := ⟨_, rfl⟩
  rw [hg12] at hI10 ⊢
  clear hg12
  go_loopw [14] (fun i wr => ∃ k : Nat, k ≤ n ∧ i = .int .i64 k ∧ Keep (CurI w8 g12 ha9 hr9 n (.slice (some ⟨ha9, 0, none⟩) n ca9) (.slice (some ⟨hr9, 0, none⟩) n cr9) wr)) (fun i _ => n - (intOf i).toNat)
  case atStart => exact ⟨0, by omega, rfl, ⟨hI10⟩⟩
  case round =>
    obtain ⟨k, hk, rfl, hI⟩ := hrel
    obtain ⟨d0, d1, _, _⟩ := hI.out.o
    by_cases hlt : k < n
    · have hlt' : (k : Int) < (n : Int) := by omega
      obtain ⟨⟨u, hu⟩, hz⟩ := hI.out.ra.cell hlt
      have wk : IntKind.i64.wrap ((k : Int) + 1) = (k : Int) + 1 := IntWalk.i64_in _ (by omega)
      go_wp2
      exact ⟨⟨k + 1, by omega, by go_num, ⟨hI.out.setA _⟩⟩, by simp [intOf]; omega⟩
    · obtain rfl : k = n := by omega
      have hlt' : ¬ (k : Int) < (k : Int) := by omega
      go_wp2
      go_loopw [15] (fun i wr => ∃ j : Nat, j ≤ k ∧ i = .int .i64 j ∧ Keep (CurI w8 g12 ha9 hr9 k (.slice (some ⟨ha9, 0, none⟩) k ca9) (.slice (some ⟨hr9, 0, none⟩) k cr9) wr)) (fun i _ => k - (intOf i).toNat)
      case atStart => exact ⟨0, by omega, rfl, hI⟩
      case round =>
        obtain ⟨j, hj, rfl, hJ⟩ := hrel
        obtain ⟨d0, d1, _, _⟩ := hJ.out.o
        by_cases hjn : j < k
        · have hjn' : (j : Int) < (k : Int) := by omega
          obtain ⟨⟨u, hu⟩, hz⟩ := hJ.out.rr.cell hjn
          have wk : IntKind.i64.wrap ((j : Int) + 1) = (j : Int) + 1 := IntWalk.i64_in _ (by omega)
          go_wp2
          exact ⟨⟨j + 1, by omega, by go_num, ⟨hJ.out.setR _⟩⟩, by simp [intOf]; omega⟩
        · obtain rfl : j = k := by omega
          have hjn' : ¬ (j : Int) < (j : Int) := by omega
          have hF := hF8.after hJ.out.bw
          have lA : ((List.range L').map xA).length ≤ 100000 := by simp; omega
          have lR : ((List.range L').map xR).length ≤ 100000 := by simp; omega
          clear hF8 hI10 hI hJ
          go_wp2_with (first
            | (go_at_call 42; (with_reducible refine (q42 _).mono ?_); rintro e w11 ⟨B, u1, u2, rfl, hB, hT11, hb11⟩
               obtain ⟨ha11, ca11, rfl, hg1, _⟩ := row_parts n1 hT11.a
               obtain ⟨hr11, cr11, rfl, hg2, _⟩ := row_parts n1 hT11.r
               have hF := hF.after hb11
               obtain ⟨w12, hw12⟩ : ∃ w12, w11.alloc (.cells #[.slice (some ⟨ha11, 0, none⟩) j ca11, .slice (some ⟨hr11, 0, none⟩) j cr11] 42) = w12 := ⟨_, rfl⟩
               have b12 : Below w11.heap.size w11 w12 := by rw [← hw12]; exact (Below.refl _ _).alloc (Nat.le_refl _) _
               have hF := hF.after b12
               have i5 := intsO_below (ints_row hT11.a) b12
               have i6 := intsO_below (ints_row hT11.r) b12
               have o16 : Own2 w12 w11.heap.size (.slice (some ⟨ha11, 0, none⟩) j ca11) (.slice (some ⟨hr11, 0, none⟩) j cr11) := by rw [← hw12]; exact Own2.new _ _ _ _
               clear hb11 b12 hT11 hB hg1 hg2 q42)
            | (go_at_call 43; (with_reducible refine (q43 _).mono ?_); rintro e w13 ⟨⟨gA, oA, cA, gR, oR, cR, L'', yA, yR⟩, rfl, hy, yL1, yA1, yR1, hb13⟩
               have yL2 : L'' = j := yL1
               have yA2 : yA = curA j c := yA1
               have yR2 : yR = curR c := yR1
               subst yL2 yA2 yR2
               have hF := hF.after hb13
               simp only [Crs.val, Crs.sa, Crs.sr]
               obtain ⟨w14, hw14⟩ : ∃ w14, w13.alloc (.cells #[.slice (some ⟨gA, oA, none⟩) L'' cA, .slice (some ⟨gR, oR, none⟩) L'' cR] 42) = w14 := ⟨_, rfl⟩
               have b14 : Below w13.heap.size w13 w14 := by rw [← hw14]; exact (Below.refl _ _).alloc (Nat.le_refl _) _
               have hF := hF.after b14
               have i5 := intsO_below (intsO_below i5 hb13) b14
               have i6 := intsO_below (intsO_below i6 hb13) b14
               have o16 := (o16.after hb13).after b14
               have i7 := intsO_below (ints_crs hy).1 b14
               have i8 := intsO_below (ints_crs hy).2 b14
               have o18 : Own2 w14 w13.heap.size (.slice (some ⟨gA, oA, none⟩) L'' cA) (.slice (some ⟨gR, oR, none⟩) L'' cR) := by rw [← hw14]; exact Own2.new _ _ _ _
               have lC : ((List.range L'').map (curA L'' c)).length ≤ 100000 := by simp; omega
               have lD : ((List.range L'').map (curR c)).length ≤ 100000 := by simp; omega
               have r1 := Keep.mk (And.intro hF (And.intro i5 (And.intro i6 (And.intro i7 (And.intro i8 (And.intro o16 o18))))))
               obtain ⟨s0, s1, _, _⟩ := hF.o10
               obtain ⟨t0, t1, _, _⟩ := hF.o11
               have q44a := q44.out w14 _ _ _ hF.i1 hF.i3 lA
               have lk := Keep.mk (And.intro lR (And.intro lC lD))
               clear hb13 b14 q43 hy yL1 yA1 yR1 hF i5 i6 i7 i8 o16 o18 lA lR lC lD)
            | (go_at_call 44; (with_reducible refine q44a.mono ?_); rintro e w15 ⟨rfl, hb15⟩
               obtain ⟨hF, i5, i6, i7, i8, o16, o18⟩ := r1.out
               have hF := hF.after hb15
               have r2 := Keep.mk (And.intro hF (And.intro (intsO_below i5 hb15) (And.intro (intsO_below i6 hb15) (And.intro (intsO_below i7 hb15) (And.intro (intsO_below i8 hb15) (And.intro (o16.after hb15) (o18.after hb15)))))))
               obtain ⟨s0, s1, _, _⟩ := hF.o10
               obtain ⟨t0, t1, _, _⟩ := hF.o11
               have q44b := q44.out w15 _ _ _ hF.i2 hF.i4 lk.out.1
               clear hb15 q44a r1 hF i5 i6 i7 i8 o16 o18)
            | (go_at_call 44; (with_reducible refine q44b.mono ?_); rintro e w16 ⟨rfl, hb16⟩
               obtain ⟨hF, i5, i6, i7, i8, o16, o18⟩ := r2.out
               have r3 := Keep.mk (And.intro (hF.after hb16) (And.intro (intsO_below i6 hb16) (And.intro (intsO_below i8 hb16) (And.intro (o16.after hb16) (o18.after hb16)))))
               obtain ⟨s0, s1, _, _⟩ := o16.after hb16
               obtain ⟨t0, t1, _, _⟩ := o18.after hb16
               have q44c := q44.out w16 _ _ _ (intsO_below i5 hb16) (intsO_below i7 hb16) lk.out.2.1
               simp only [Crs.sa, Crs.sr] at q44c
               clear hb16 q44b r2 hF i5 i6 i7 i8 o16 o18)
            | (go_at_call 44; (with_reducible refine q44c.mono ?_); rintro e w17 ⟨rfl, hb17⟩
               obtain ⟨hF, i6, i8, o16, o18⟩ := r3.out
               have hF := hF.after hb17
               obtain ⟨s0, s1, _, _⟩ := o16.after hb17
               obtain ⟨t0, t1, _, _⟩ := o18.after hb17
               have q44d := q44.out w17 _ _ _ (intsO_below i6 hb17) (intsO_below i8 hb17) lk.out.2.2
               simp only [Crs.sa, Crs.sr] at q44d
               have hbw17 := hF.bw
               clear hb17 q44c r3 hF i6 i8 o16 o18)
            | (go_at_call 44; (with_reducible refine q44d.mono ?_); rintro e w18 ⟨rfl, hb18⟩)
            | (go_at_call 20; refine (awake_any _).mono ?_; rintro e w19 ⟨rfl, hb19⟩))
          all_goals go_ret
          all_goals exact ⟨rfl, bstep (bstep hbw17 hb18) hb19⟩
end Go.Proofs.Ytbmfipjnfbnjgaa
