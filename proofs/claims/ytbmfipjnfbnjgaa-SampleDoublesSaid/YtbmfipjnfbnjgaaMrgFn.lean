import Derived.Test.YtbmfipjnfbnjgaaTwice
import Derived.Test.YtbmfipjnfbnjgaaMrgMath
set_option linter.unusedSimpArgs false
set_option linter.unusedVariables false
namespace Go.Proofs.Ytbmfipjnfbnjgaa
open Go Go.Proofs Go.RowKit Go.Sample Go.Seq
def cst (z : Int) (_ : Nat) : Int := z
def twF (n1 c1 r1 n2 c2 : Nat) (j : Nat) : Nat := if j = 0 then n1 else if j = 1 then c1 else if j = 2 then r1 else if j = 3 then n2 else c2
theorem tw_new (w : World) (n1 c1 r1 n2 c2 : Nat) : NumsAt (w.alloc (.cells #[.int .i64 n1, .int .i64 c1, .int .i64 r1, .int .i64 n2, .int .i64 c2] 102)) w.heap.size 5 102 (twF n1 c1 r1 n2 c2) := by
  refine ⟨_, World.alloc_heap_new w _, rfl, fun j hj => ?_⟩
  match j, hj with
  | 0, _ => rfl
  | 1, _ => rfl
  | 2, _ => rfl
  | 3, _ => rfl
  | 4, _ => rfl
  | j + 5, hj => omega
structure TwG (n1 c1 r1 n2 c2 b g2 : Nat) (W : World) : Prop where
  f : NumsAt W b 5 102 (twF n1 c1 r1 n2 c2)
  o : Own2 W g2 (.slice none 0 0) (.slice none 0 0)
theorem TwG.below {n1 c1 r1 n2 c2 b g2 B : Nat} {W W' : World} (h : TwG n1 c1 r1 n2 c2 b g2 W) (hb : Below B W W') (h1 : b < B) (h2 : g2 < B) (_ : g2 < B) : TwG n1 c1 r1 n2 c2 b g2 W' := ⟨h.f.below hb h1, h.o.below hb h2⟩
theorem TwG.set {n1 c1 r1 n2 c2 b g2 g' i : Nat} {W : World} (h : TwG n1 c1 r1 n2 c2 b g2 W) (h1 : b ≠ g') (h2 : g2 ≠ g') (_ : g2 ≠ g') (u : Value) : TwG n1 c1 r1 n2 c2 b g2 (W.setCell ⟨g', i, none⟩ u) := ⟨h.f.other h1 u, h.o.other h2⟩
theorem TwG.cells {n1 c1 r1 n2 c2 b g2 : Nat} {W : World} (h : TwG n1 c1 r1 n2 c2 b g2 W) : W.cell? ⟨b, 0, none⟩ = some (.int .i64 n1) ∧ W.cell? ⟨b, 1, none⟩ = some (.int .i64 c1) ∧ W.cell? ⟨b, 2, none⟩ = some (.int .i64 r1) ∧ W.cell? ⟨b, 3, none⟩ = some (.int .i64 n2) ∧ W.cell? ⟨b, 4, none⟩ = some (.int .i64 c2) :=
  ⟨(h.f.cell (j := 0) (by omega)).1, (h.f.cell (j := 1) (by omega)).1, (h.f.cell (j := 2) (by omega)).1, (h.f.cell (j := 3) (by omega)).1, (h.f.cell (j := 4) (by omega)).1⟩
/-- The first n cells of a list's block. -/
def RowAt (W : World) (g n : Nat) (f : Nat → Int) : Prop := ∃ (cs : Array Value) (t : TypeId), W.heap[g]? = some (.cells cs t (0, 0)) ∧ n ≤ cs.size ∧ ∀ k, k < n → cs[k]? = some (.int .i64 (f k))
theorem RowAt.cell {W : World} {g n : Nat} {f : Nat → Int} (h : RowAt W g n f) {k : Nat} (hk : k < n) : W.cell? ⟨g, k, none⟩ = some (.int .i64 (f k)) ∧ W.frozen? ⟨g, k, none⟩ = false := by
  obtain ⟨cs, t, h1, h2, h3⟩ := h
  exact ⟨by simp [World.cell?, h1, h3 k hk], by simp [World.frozen?, h1]⟩
theorem RowAt.same {W W' : World} {g n : Nat} {f : Nat → Int} (h : RowAt W g n f) (e : W'.heap[g]? = W.heap[g]?) : RowAt W' g n f := by
  obtain ⟨cs, t, h1, h2, h3⟩ := h
  exact ⟨cs, t, e.trans h1, h2, h3⟩
theorem RowAt.set {W : World} {g n p : Nat} {x : Int} {f f' : Nat → Int} (h : RowAt W g n f) (hp : p < n) (hx : f' p = x) (hf : ∀ j, j < n → j ≠ p → f' j = f j) : RowAt (W.setCell ⟨g, p, none⟩ (.int .i64 x)) g n f' := by
  obtain ⟨cs, t, h1, h2, h3⟩ := h
  refine ⟨_, t, heap_set h1 _, by simpa using h2, fun k hk => ?_⟩
  by_cases e : p = k
  · subst e; rw [Array.getElem?_setIfInBounds_self]; simp [show p < cs.size by omega, hx]
  · rw [Array.getElem?_setIfInBounds_ne e, h3 k hk, hf k hk (fun e' => e e'.symm)]
theorem row_at {W : World} {B n : Nat} {v : Value} {f : Nat → Int} (hn : 1 ≤ n) (h : W.ownsRow B 3 1 v n (rowL f n)) : ∃ g cap, v = .slice (some ⟨g, 0, none⟩) n cap ∧ B ≤ g ∧ v.ownBlock = some g ∧ RowAt W g n f := by
  obtain ⟨h1, h2⟩ := h
  rcases h2 with ⟨rfl, h0⟩ | ⟨g, cap, cur, rfl, hg, hh, hn', hcap, hsz, htake⟩
  · omega
  · refine ⟨g, cap, rfl, hg, rfl, cur, _, hh, by omega, fun k hk => ?_⟩
    have e : (cur.toList.take (n * 1))[k]? = (rowL f n)[k]? := by rw [htake]
    rw [List.getElem?_take_of_lt (by omega)] at e
    rw [← Array.getElem?_toList, e]
    simp [rowL, vz, hk]
def upA (p : Nat) (x : Int) (f : Nat → Int) (b : Bool) (k : Nat) : Int := if b = true ∧ k = p then x else f k
theorem mrg_fA {n1 c1 c2 n q z : Nat} (hq : n1 = q + 1) (hz : n = z + 1) (k : Nat) : upA z (c2 : Int) (upA q (c1 : Int) (cst (-1)) true) true k = mrgA n1 c1 c2 n k := by
  subst hq hz
  unfold upA mrgA cst
  simp only [Nat.add_sub_cancel]
  by_cases a : k = z <;> simp [a]
theorem mrg_fR {n1 r1 c2 n q z : Nat} (hq : n1 = q + 1) (hz : n = z + 1) (k : Nat) : upA z ((c2 : Int) + 1) (upA q (r1 : Int) (cst ((n : Int) + 1)) true) true k = mrgR n1 r1 c2 n k := by
  subst hq hz
  unfold upA mrgR cst
  simp only [Nat.add_sub_cancel]
  by_cases a : k = z <;> simp [a]
structure MgC (w : World) (n1 c1 r1 n2 c2 g2 g10 ya yr n cya cyr p : Nat) (xa xr : Int) (fa fr : Nat → Int) (bA bR : Bool) (W : World) : Prop where
  a : RowAt W ya n (upA p xa fa bA)
  r : RowAt W yr n (upA p xr fr bR)
  o : Own2 W g10 (.slice (some ⟨ya, 0, none⟩) n cya) (.slice (some ⟨yr, 0, none⟩) n cyr)
  t : TwG n1 c1 r1 n2 c2 w.heap.size g2 W
  bw : Below w.heap.size w W
  ne : ya ≠ yr ∧ g10 ≠ ya ∧ g10 ≠ yr ∧ w.heap.size < ya ∧ w.heap.size < yr ∧ g2 ≠ ya ∧ g2 ≠ yr ∧ p < n
section
variable {w W : World} {n1 c1 r1 n2 c2 g2 g10 ya yr n cya cyr p : Nat} {xa xr : Int} {fa fr : Nat → Int} {bA bR : Bool}
theorem MgC.drew (h : MgC w n1 c1 r1 n2 c2 g2 g10 ya yr n cya cyr p xa xr fa fr bA bR W) : MgC w n1 c1 r1 n2 c2 g2 g10 ya yr n cya cyr p xa xr fa fr bA bR W.drew :=
  ⟨h.a.same rfl, h.r.same rfl, ⟨h.o.c0, h.o.c1, h.o.f0, h.o.f1⟩, ⟨h.t.f.same rfl, ⟨h.t.o.c0, h.t.o.c1, h.t.o.f0, h.t.o.f1⟩⟩, h.bw.drew, h.ne⟩
theorem MgC.setA (h : MgC w n1 c1 r1 n2 c2 g2 g10 ya yr n cya cyr p xa xr fa fr false bR W) : MgC w n1 c1 r1 n2 c2 g2 g10 ya yr n cya cyr p xa xr fa fr true bR (W.setCell ⟨ya, p, none⟩ (.int .i64 xa)) := by
  obtain ⟨e1, e2, e3, e4, e5, e6, e7, e8⟩ := h.ne
  exact ⟨h.a.set e8 (by simp [upA]) (fun j _ hj => by simp [upA, hj]), h.r.same (Below.heap_setCell W ⟨ya, p, none⟩ _ yr (Ne.symm e1)), h.o.other e2, h.t.set (by omega) e6 e6 _, h.bw.setCell (p := ⟨ya, p, none⟩) (Nat.le_of_lt e4) _, h.ne⟩
theorem MgC.setR (h : MgC w n1 c1 r1 n2 c2 g2 g10 ya yr n cya cyr p xa xr fa fr bA false W) : MgC w n1 c1 r1 n2 c2 g2 g10 ya yr n cya cyr p xa xr fa fr bA true (W.setCell ⟨yr, p, none⟩ (.int .i64 xr)) := by
  obtain ⟨e1, e2, e3, e4, e5, e6, e7, e8⟩ := h.ne
  exact ⟨h.a.same (Below.heap_setCell W ⟨yr, p, none⟩ _ ya e1), h.r.set e8 (by simp [upA]) (fun j _ hj => by simp [upA, hj]), h.o.other e3, h.t.set (by omega) e7 e7 _, h.bw.setCell (p := ⟨yr, p, none⟩) (Nat.le_of_lt e5) _, h.ne⟩
theorem MgC.next (h : MgC w n1 c1 r1 n2 c2 g2 g10 ya yr n cya cyr p xa xr fa fr true true W) (q : Nat) (ya' yr' : Int) (hq : q < n) : MgC w n1 c1 r1 n2 c2 g2 g10 ya yr n cya cyr q ya' yr' (upA p xa fa true) (upA p xr fr true) false false W := by
  obtain ⟨e1, e2, e3, e4, e5, e6, e7, e8⟩ := h.ne
  have f1 : upA q ya' (upA p xa fa true) false = upA p xa fa true := by funext k; simp [upA]
  have f2 : upA q yr' (upA p xr fr true) false = upA p xr fr true := by funext k; simp [upA]
  exact ⟨by rw [f1]; exact h.a, by rw [f2]; exact h.r, h.o, h.t, h.bw, ⟨e1, e2, e3, e4, e5, e6, e7, hq⟩⟩
end
set_option maxHeartbeats 2000000 in
set_option maxRecDepth 100000 in
theorem mrgCourse_any {n1 c1 r1 n2 c2 : Nat} (h1 : 1 ≤ n1) (h2 : 1 ≤ n2) (hL : n1 + n2 ≤ 36) (k1 : c1 + 1 < r1) (k2 : r1 ≤ n1 + 1) (k3 : c2 < n1 + n2) (w : World) :
    Calls Try.prog 59 #[twV n1 c1 r1 n2 c2] w fun e w' => ∃ x : Crs, e = .returned x.val ∧ CrsIn w' x ∧ x.L = n1 + n2 ∧ x.A = mrgA n1 c1 c2 (n1 + n2) ∧ x.R = mrgR n1 r1 c2 (n1 + n2) ∧ Below w.heap.size w w' ∧ w.heap.size ≤ x.ga ∧ w.heap.size ≤ x.gr := by
  obtain ⟨i0, hi, hz0, hz1, hz2⟩ := info_parts info3
  have wL : IntKind.i64.wrap ((n1 : Int) + (n2 : Int)) = ((n1 + n2 : Nat) : Int) := by rw [← Int.natCast_add, IntWalk.i64_in _ (by omega)]
  obtain ⟨n, hn⟩ : ∃ n, n = n1 + n2 := ⟨_, rfl⟩
  rw [← hn] at wL ⊢
  have wn : IntKind.i64.wrap ((n : Int) + 1) = (n : Int) + 1 := IntWalk.i64_in _ (by omega)
  unfold twV
  go_enter Try.func59, Try.ntmps59
  go_wp2
  obtain ⟨w0, hw0⟩ : ∃ w0, ((w.alloc (.cells #[.int .i64 n1, .int .i64 c1, .int .i64 r1, .int .i64 n2, .int .i64 c2] 102)).alloc (.cells #[.slice none 0 0, .slice none 0 0] 42)).alloc (.cells #[.slice none 0 0, .slice none 0 0] 42) = w0 := ⟨_, rfl⟩
  obtain ⟨g10, hg10⟩ : ∃ g10, w.heap.size + 1 + 1 = g10 := ⟨_, rfl⟩
  obtain ⟨B, hB⟩ : ∃ B, w0.heap.size = B := ⟨_, rfl⟩
  have hs0 : w0.heap.size = w.heap.size + 3 := by rw [← hw0]; simp
  have hT0 : TwG n1 c1 r1 n2 c2 w.heap.size (w.heap.size + 1) w0 := by
    have f1 := tw_new w n1 c1 r1 n2 c2
    rw [← hw0]
    have b1 : Below (w.alloc (.cells #[.int .i64 n1, .int .i64 c1, .int .i64 r1, .int .i64 n2, .int .i64 c2] 102)).heap.size (w.alloc (.cells #[.int .i64 n1, .int .i64 c1, .int .i64 r1, .int .i64 n2, .int .i64 c2] 102)) ((w.alloc (.cells #[.int .i64 n1, .int .i64 c1, .int .i64 r1, .int .i64 n2, .int .i64 c2] 102)).alloc (.cells #[.slice none 0 0, .slice none 0 0] 42)) := (Below.refl _ _).alloc (Nat.le_refl _) _
    have o1 := Own2.new (w.alloc (.cells #[.int .i64 n1, .int .i64 c1, .int .i64 r1, .int .i64 n2, .int .i64 c2] 102)) (.slice none 0 0) (.slice none 0 0) 42
    rw [World.size_alloc] at o1
    have f2 := f1.below b1 f1.lt
    have b2 : Below ((w.alloc (.cells #[.int .i64 n1, .int .i64 c1, .int .i64 r1, .int .i64 n2, .int .i64 c2] 102)).alloc (.cells #[.slice none 0 0, .slice none 0 0] 42)).heap.size ((w.alloc (.cells #[.int .i64 n1, .int .i64 c1, .int .i64 r1, .int .i64 n2, .int .i64 c2] 102)).alloc (.cells #[.slice none 0 0, .slice none 0 0] 42)) (((w.alloc (.cells #[.int .i64 n1, .int .i64 c1, .int .i64 r1, .int .i64 n2, .int .i64 c2] 102)).alloc (.cells #[.slice none 0 0, .slice none 0 0] 42)).alloc (.cells #[.slice none 0 0, .slice none 0 0] 42)) := (Below.refl _ _).alloc (Nat.le_refl _) _
    exact ⟨f2.below b2 f2.lt, o1.after b2⟩
  have hO0 : Own2 w0 g10 (.slice none 0 0) (.slice none 0 0) := by
    rw [← hw0, ← hg10]
    have := Own2.new ((w.alloc (.cells #[.int .i64 n1, .int .i64 c1, .int .i64 r1, .int .i64 n2, .int .i64 c2] 102)).alloc (.cells #[.slice none 0 0, .slice none 0 0] 42)) (.slice none 0 0) (.slice none 0 0) 42
    rwa [World.size_alloc, World.size_alloc] at this
  have hbw0 : Below w.heap.size w w0 := by rw [← hw0]; exact (((Below.refl _ _).alloc (Nat.le_refl _) _).alloc (by simp) _).alloc (by simp; omega) _
  have hgs : Keep (w.heap.size < B ∧ w.heap.size + 1 < B ∧ w.heap.size + 1 < B ∧ w.heap.size ≠ g10 ∧ w.heap.size + 1 ≠ g10 ∧ w.heap.size + 1 ≠ g10 ∧ w.heap.size ≤ g10) := ⟨by omega⟩
  have hmk : Keep (g10 < B) := ⟨by omega⟩
  try rw [hw0]
  try rw [hg10]
  have hBk := Keep.mk hB
  have hnk := Keep.mk hn
  have hn36 : n ≤ 36 := by omega
  have hn1 : 1 ≤ n := by omega
  rw [show (n1 : Int) + (n2 : Int) = (n : Int) by omega]
  clear hw0 hg10 hB hs0 wL hn
  go_loopw [11] (fun i wr => ∃ k : Nat, k ≤ n ∧ i = .int .i64 (k : Int) ∧ ∃ va vr, Two wr B k (cst (-1)) (cst ((n : Int) + 1)) va vr ∧ Own2 wr g10 va vr ∧ TwG n1 c1 r1 n2 c2 w.heap.size (w.heap.size + 1) wr ∧ Below w.heap.size w wr ∧ B ≤ wr.heap.size) (fun i _ => n - (intOf i).toNat)
  case atStart => exact ⟨0, by omega, rfl, _, _, Two.nil _ _ _ _, hO0, hT0, hbw0, by rw [hBk.out]; exact Nat.le_refl _⟩
  case round =>
    obtain ⟨k, hk, rfl, va, vr, ⟨ta, tr, tap⟩, ⟨o0, o1, o2, o3⟩, hX, hbw, hbz⟩ := hrel
    by_cases hlt : k < n
    · have hle : (k : Int) < (n : Int) := by omega
      have tak := Keep.mk ta
      have trk := Keep.mk tr
      have tapk := Keep.mk tap
      have hbwk := Keep.mk hbw
      have hbzk := Keep.mk hbz
      clear ta tr tap hbw hbz
      have t1 : Keep True := ⟨trivial⟩
      have hgl : g10 < wr.heap.size := by have := hbzk.out; have := hmk.out; omega
      have hxe : Keep (cst (-1) k = -1) := ⟨rfl⟩
      have hye : Keep (cst ((n : Int) + 1) k = (n : Int) + 1) := ⟨rfl⟩
      go_wp2_with (first
        | (at_builtin; go_loud (
           clear t1
           refine wpList_append_own_at _ rfl _ _ 40 rfl B 3 i0 (.int .i64 0) 1 8 ty40 hi hz0 hz1 hz2 rfl (by decide) _ _ _ rfl (tak.out.alloc _) ⟨wr.heap.size, 0, none⟩ 1 1 [.int .i64 (-1)] rfl rfl (cell_one_new _ _ _) (fun x hx => by simp at hx; subst hx; rfl) (by unfold maxLen; omega) (by omega) (by have := hbzk.out; simp; try omega) ?_
           intro v3 w3 hoa3 hgrow3 hnil3 hblk3
           have hb3 : Below B wr w3 := Below.grown ((Below.refl _ wr).alloc hbzk.out _) hgrow3 (by simp; have := hbzk.out; omega) (fun j hj => by have := (tak.out.lt _ hj).1; omega)
           obtain ⟨o0, o1, o2, o3⟩ := (⟨o0, o1, o2, o3⟩ : Own2 wr g10 va vr).below hb3 hmk.out
           have hX3 := hX.below hb3 hgs.out.1 hgs.out.2.1 hgs.out.2.2.1
           have hob3 := Keep.mk ((trk.out.alloc (.cells #[.int .i64 (-1)] 3)).kept hgrow3 (apart_ne tapk.out))
           have hap3 := Keep.mk (apart_new tapk.out hblk3 (fun j hj => by have := (trk.out.lt _ hj).2; simp; omega))
           have hoa3' : w3.ownsRow B 3 1 v3 (k + 1) (rowL ((cst (-1))) (k + 1)) := by rw [rowL_succ, hxe.out]; exact hoa3
           have hoa3k := Keep.mk hoa3'
           obtain ⟨g3, c3, rfl, _⟩ := row_parts (by omega) hoa3'
           have hbw3 := Keep.mk (hbwk.out.trans (hb3.mono (by have := hmk.out; have := hgs.out; omega)))
           have hbz3 := Keep.mk (Nat.le_trans hbzk.out hb3.size)
           have hgl3 : g10 < w3.heap.size := Nat.lt_of_lt_of_le hgl hb3.size
           have t2 : Keep True := ⟨trivial⟩
           clear hgrow3 hnil3 hblk3 hoa3 hoa3' hb3 tak tapk hX))
        | (at_builtin; go_loud (
           clear t2
           refine wpList_append_own_at _ rfl _ _ 40 rfl B 3 i0 (.int .i64 0) 1 8 ty40 hi hz0 hz1 hz2 rfl (by decide) _ _ _ rfl ((ownsRow_setCell_below hob3.out (a := ⟨g10, 0, none⟩) (by exact hmk.out) _).alloc _) ⟨w3.heap.size, 0, none⟩ 1 1 [.int .i64 ((n : Int) + 1)] rfl rfl (cell_one_at (size_setCell _ _ _)) (fun x hx => by simp at hx; subst hx; rfl) (by unfold maxLen; omega) (by omega) (by have := hbz3.out; rw [World.size_alloc, size_setCell]; omega) ?_
           intro v4 w4 hob4 hgrow4 hnil4 hblk4
           have hb4 : Below B (w3.setCell ⟨g10, 0, none⟩ (.slice (some ⟨g3, 0, none⟩) (k + 1) c3)) w4 := Below.grown ((Below.refl _ _).alloc (by rw [size_setCell]; exact hbz3.out) _) hgrow4 (by rw [World.size_alloc, size_setCell]; have := hbz3.out; omega) (fun j hj => by have := (hob3.out.lt _ hj).1; omega)
           obtain ⟨o0, o1, o2, o3⟩ := ((⟨o0, o1, o2, o3⟩ : Own2 w3 g10 (va) vr).set0 (u := .slice (some ⟨g3, 0, none⟩) (k + 1) c3)).below hb4 hmk.out
           have hX4 := (hX3.set (g' := g10) (i := 0) hgs.out.2.2.2.1 hgs.out.2.2.2.2.1 hgs.out.2.2.2.2.2.1 (.slice (some ⟨g3, 0, none⟩) (k + 1) c3)).below hb4 hgs.out.1 hgs.out.2.1 hgs.out.2.2.1
           have hoa4 := ((ownsRow_setCell_below hoa3k.out (a := ⟨g10, 0, none⟩) (by exact hmk.out) (.slice (some ⟨g3, 0, none⟩) (k + 1) c3)).alloc (.cells #[.int .i64 ((n : Int) + 1)] 3)).kept hgrow4 (apart_ne (apart_symm hap3.out))
           have hap4 := apart_symm (apart_new (apart_symm hap3.out) hblk4 (fun j hj => by have := (hoa3k.out.lt _ hj).2; rw [World.size_alloc, size_setCell]; omega))
           have hob4' : w4.ownsRow B 3 1 v4 (k + 1) (rowL ((cst ((n : Int) + 1))) (k + 1)) := by rw [rowL_succ, hye.out]; exact hob4
           have hT4 := Keep.mk (Two.mk hoa4 hob4' hap4)
           obtain ⟨g4, c4, rfl, _⟩ := row_parts (by omega) hob4'
           have hbw4 := Keep.mk ((hbw3.out.setCell (p := ⟨g10, 0, none⟩) (show w.heap.size ≤ g10 from hgs.out.2.2.2.2.2.2) (.slice (some ⟨g3, 0, none⟩) (k + 1) c3)).trans (hb4.mono (by have := hmk.out; have := hgs.out.2.2.2.2.2.2; omega)))
           have hbz4 := Keep.mk (Nat.le_trans hbz3.out (by have := hb4.size; rwa [size_setCell] at this))
           have t3 : Keep True := ⟨trivial⟩
           clear hob4 hgrow4 hnil4 hblk4 hoa4 hap4 hob4' hb4 hob3 hap3 hoa3k hX3 hbw3 hbz3)))
      have hO5 := (⟨o0, o1, o2, o3⟩ : Own2 w4 g10 (.slice (some ⟨g3, 0, none⟩) (k + 1) c3) vr).set1 (u := .slice (some ⟨g4, 0, none⟩) (k + 1) c4)
      exact ⟨⟨k + 1, by omega, by go_num, _, _, hT4.out.set hmk.out, hO5, hX4.set hgs.out.2.2.2.1 hgs.out.2.2.2.2.1 hgs.out.2.2.2.2.2.1 _, hbw4.out.setCell (p := ⟨g10, 1, none⟩) (show w.heap.size ≤ g10 from hgs.out.2.2.2.2.2.2) _, by rw [size_setCell]; exact hbz4.out⟩, by simp [intOf]; omega⟩
    · obtain rfl : n = k := by omega
      have hle : ¬ (n : Int) < (n : Int) := by omega
      obtain ⟨ya, cya, rfl, zga, oba, ra⟩ := row_at hn1 ta
      obtain ⟨yr, cyr, rfl, zgr, obr, rr⟩ := row_at hn1 tr
      have hne : ya ≠ yr := fun e => tap ya oba (by rw [e]; exact obr)
      obtain ⟨q, hq⟩ : ∃ q, Keep (n1 = q + 1) := ⟨n1 - 1, ⟨by omega⟩⟩
      obtain ⟨z, hzk⟩ : ∃ z, Keep (n = z + 1) := ⟨n - 1, ⟨by omega⟩⟩
      have hqn : q < n := by have := hq.out; have := hnk.out; omega
      have hzn : z < n := by have := hzk.out; omega
      have hmx : Try.prog.follows .mixedOrders = true := by kernel_rfl
      have hgs' := hgs.out
      have hmk' := hmk.out
      have hC0 : MgC w n1 c1 r1 n2 c2 (w.heap.size + 1) g10 ya yr n cya cyr q c1 r1 (cst (-1)) (cst ((n : Int) + 1)) false false wr :=
        ⟨by have : upA q (c1 : Int) (cst (-1)) false = cst (-1) := by { funext k; simp [upA] }
            rw [this]; exact ra,
         by have : upA q (r1 : Int) (cst ((n : Int) + 1)) false = cst ((n : Int) + 1) := by { funext k; simp [upA] }
            rw [this]; exact rr,
         ⟨o0, o1, o2, o3⟩, hX, hbw, ⟨hne, by omega, by omega, by omega, by omega, by omega, by omega, hqn⟩⟩
      have w1 : IntKind.i64.wrap ((n1 : Int) - 1) = (q : Int) := by rw [show (n1 : Int) - 1 = (q : Int) by have := hq.out; omega, IntWalk.i64_in _ (by omega)]
      have w2 : IntKind.i64.wrap ((n : Int) - 1) = (z : Int) := by rw [show (n : Int) - 1 = (z : Int) by have := hzk.out; omega, IntWalk.i64_in _ (by omega)]
      have w3 : IntKind.i64.wrap ((c2 : Int) + 1) = (c2 : Int) + 1 := IntWalk.i64_in _ (by omega)
      have b1 : ¬ (n : Int) ≤ (q : Int) := by omega
      have b2 : ¬ n ≤ q := by omega
      have b3 : ¬ (n : Int) ≤ (z : Int) := by omega
      have b4 : ¬ n ≤ z := by omega
      clear ra rr zga zgr oba obr hne hgs' hmk' hX hbw o0 o1 o2 o3 ta tr tap hbz hgs hmk hBk h1 h2 hL k1 k2 k3 hn36 hn1
      go_wp2
      refine (wpIn_wide (n := 0)).1 ?_
      refine Many.region_many (fun s W => MgC w n1 c1 r1 n2 c2 (w.heap.size + 1) g10 ya yr n cya cyr q c1 r1 (cst (-1)) (cst ((n : Int) + 1)) (s 15) (s 17) W) hmx (by kernel_rfl) (fun s s' W' h hc => by rw [← h 15, ← h 17]; exact hc) (fun s hs => by rw [hs 15 (by decide), hs 17 (by decide)]; exact hC0.drew) ?_
      refine Many.lex_want (by rfl) (Many.tr_read (v := .pointer (some ⟨g10, 0, none⟩)) (fun W => ∃ bA bR, MgC w n1 c1 r1 n2 c2 (w.heap.size + 1) g10 ya yr n cya cyr q c1 r1 (cst (-1)) (cst ((n : Int) + 1)) bA bR W) (fun s W h => ⟨_, _, h⟩) (fun s W h => by simpa [Many.upd] using h) (fun W hC => by (obtain ⟨bA, bR, hC⟩ := hC; obtain ⟨d0, d1, d2, d3, d4⟩ := hC.t.cells; obtain ⟨o0, o1, _, _⟩ := hC.o; clear hC; go_simp; try rfl; try (intro hx; first | exact absurd hx b1 | exact absurd hx b2 | exact absurd hx b3 | exact absurd hx b4)))) ?_
      simp only [Act.put, List.setIfInBounds_toArray, List.set_cons_succ, List.set_cons_zero, Nat.reduceAdd]
      refine Many.lex_want (by rfl) (Many.tr_read (v := .slice (some ⟨ya, 0, none⟩) n cya) (fun W => ∃ bA bR, MgC w n1 c1 r1 n2 c2 (w.heap.size + 1) g10 ya yr n cya cyr q c1 r1 (cst (-1)) (cst ((n : Int) + 1)) bA bR W) (fun s W h => ⟨_, _, h⟩) (fun s W h => by simpa [Many.upd] using h) (fun W hC => by (obtain ⟨bA, bR, hC⟩ := hC; obtain ⟨d0, d1, d2, d3, d4⟩ := hC.t.cells; obtain ⟨o0, o1, _, _⟩ := hC.o; clear hC; go_simp; try rfl; try (intro hx; first | exact absurd hx b1 | exact absurd hx b2 | exact absurd hx b3 | exact absurd hx b4)))) ?_
      simp only [Act.put, List.setIfInBounds_toArray, List.set_cons_succ, List.set_cons_zero, Nat.reduceAdd]
      refine Many.lex_want (by rfl) (Many.tr_read (v := .pointer (some ⟨w.heap.size, 0, none⟩)) (fun W => ∃ bA bR, MgC w n1 c1 r1 n2 c2 (w.heap.size + 1) g10 ya yr n cya cyr q c1 r1 (cst (-1)) (cst ((n : Int) + 1)) bA bR W) (fun s W h => ⟨_, _, h⟩) (fun s W h => by simpa [Many.upd] using h) (fun W hC => by (obtain ⟨bA, bR, hC⟩ := hC; obtain ⟨d0, d1, d2, d3, d4⟩ := hC.t.cells; obtain ⟨o0, o1, _, _⟩ := hC.o; clear hC; go_simp; try rfl; try (intro hx; first | exact absurd hx b1 | exact absurd hx b2 | exact absurd hx b3 | exact absurd hx b4)))) ?_
      simp only [Act.put, List.setIfInBounds_toArray, List.set_cons_succ, List.set_cons_zero, Nat.reduceAdd]
      refine Many.lex_want (by rfl) (Many.tr_read (v := .int .i64 (n1 : Int)) (fun W => ∃ bA bR, MgC w n1 c1 r1 n2 c2 (w.heap.size + 1) g10 ya yr n cya cyr q c1 r1 (cst (-1)) (cst ((n : Int) + 1)) bA bR W) (fun s W h => ⟨_, _, h⟩) (fun s W h => by simpa [Many.upd] using h) (fun W hC => by (obtain ⟨bA, bR, hC⟩ := hC; obtain ⟨d0, d1, d2, d3, d4⟩ := hC.t.cells; obtain ⟨o0, o1, _, _⟩ := hC.o; clear hC; go_simp; try rfl; try (intro hx; first | exact absurd hx b1 | exact absurd hx b2 | exact absurd hx b3 | exact absurd hx b4)))) ?_
      simp only [Act.put, List.setIfInBounds_toArray, List.set_cons_succ, List.set_cons_zero, Nat.reduceAdd]
      refine Many.lex_want (by rfl) (Many.tr_read (v := .int .i64 (q : Int)) (fun W => ∃ bA bR, MgC w n1 c1 r1 n2 c2 (w.heap.size + 1) g10 ya yr n cya cyr q c1 r1 (cst (-1)) (cst ((n : Int) + 1)) bA bR W) (fun s W h => ⟨_, _, h⟩) (fun s W h => by simpa [Many.upd] using h) (fun W hC => by (obtain ⟨bA, bR, hC⟩ := hC; obtain ⟨d0, d1, d2, d3, d4⟩ := hC.t.cells; obtain ⟨o0, o1, _, _⟩ := hC.o; clear hC; go_simp; try rfl; try (intro hx; first | exact absurd hx b1 | exact absurd hx b2 | exact absurd hx b3 | exact absurd hx b4)))) ?_
      simp only [Act.put, List.setIfInBounds_toArray, List.set_cons_succ, List.set_cons_zero, Nat.reduceAdd]
      refine Many.lex_want (by rfl) (Many.tr_read (v := .pointer (some ⟨g10, 1, none⟩)) (fun W => ∃ bA bR, MgC w n1 c1 r1 n2 c2 (w.heap.size + 1) g10 ya yr n cya cyr q c1 r1 (cst (-1)) (cst ((n : Int) + 1)) bA bR W) (fun s W h => ⟨_, _, h⟩) (fun s W h => by simpa [Many.upd] using h) (fun W hC => by (obtain ⟨bA, bR, hC⟩ := hC; obtain ⟨d0, d1, d2, d3, d4⟩ := hC.t.cells; obtain ⟨o0, o1, _, _⟩ := hC.o; clear hC; go_simp; try rfl; try (intro hx; first | exact absurd hx b1 | exact absurd hx b2 | exact absurd hx b3 | exact absurd hx b4)))) ?_
      simp only [Act.put, List.setIfInBounds_toArray, List.set_cons_succ, List.set_cons_zero, Nat.reduceAdd]
      refine Many.lex_want (by rfl) (Many.tr_read (v := .slice (some ⟨yr, 0, none⟩) n cyr) (fun W => ∃ bA bR, MgC w n1 c1 r1 n2 c2 (w.heap.size + 1) g10 ya yr n cya cyr q c1 r1 (cst (-1)) (cst ((n : Int) + 1)) bA bR W) (fun s W h => ⟨_, _, h⟩) (fun s W h => by simpa [Many.upd] using h) (fun W hC => by (obtain ⟨bA, bR, hC⟩ := hC; obtain ⟨d0, d1, d2, d3, d4⟩ := hC.t.cells; obtain ⟨o0, o1, _, _⟩ := hC.o; clear hC; go_simp; try rfl; try (intro hx; first | exact absurd hx b1 | exact absurd hx b2 | exact absurd hx b3 | exact absurd hx b4)))) ?_
      simp only [Act.put, List.setIfInBounds_toArray, List.set_cons_succ, List.set_cons_zero, Nat.reduceAdd]
      refine Many.lex_want (by rfl) (Many.tr_read (v := .pointer (some ⟨w.heap.size, 0, none⟩)) (fun W => ∃ bA bR, MgC w n1 c1 r1 n2 c2 (w.heap.size + 1) g10 ya yr n cya cyr q c1 r1 (cst (-1)) (cst ((n : Int) + 1)) bA bR W) (fun s W h => ⟨_, _, h⟩) (fun s W h => by simpa [Many.upd] using h) (fun W hC => by (obtain ⟨bA, bR, hC⟩ := hC; obtain ⟨d0, d1, d2, d3, d4⟩ := hC.t.cells; obtain ⟨o0, o1, _, _⟩ := hC.o; clear hC; go_simp; try rfl; try (intro hx; first | exact absurd hx b1 | exact absurd hx b2 | exact absurd hx b3 | exact absurd hx b4)))) ?_
      simp only [Act.put, List.setIfInBounds_toArray, List.set_cons_succ, List.set_cons_zero, Nat.reduceAdd]
      refine Many.lex_want (by rfl) (Many.tr_read (v := .int .i64 (n1 : Int)) (fun W => ∃ bA bR, MgC w n1 c1 r1 n2 c2 (w.heap.size + 1) g10 ya yr n cya cyr q c1 r1 (cst (-1)) (cst ((n : Int) + 1)) bA bR W) (fun s W h => ⟨_, _, h⟩) (fun s W h => by simpa [Many.upd] using h) (fun W hC => by (obtain ⟨bA, bR, hC⟩ := hC; obtain ⟨d0, d1, d2, d3, d4⟩ := hC.t.cells; obtain ⟨o0, o1, _, _⟩ := hC.o; clear hC; go_simp; try rfl; try (intro hx; first | exact absurd hx b1 | exact absurd hx b2 | exact absurd hx b3 | exact absurd hx b4)))) ?_
      simp only [Act.put, List.setIfInBounds_toArray, List.set_cons_succ, List.set_cons_zero, Nat.reduceAdd]
      refine Many.lex_want (by rfl) (Many.tr_read (v := .int .i64 (q : Int)) (fun W => ∃ bA bR, MgC w n1 c1 r1 n2 c2 (w.heap.size + 1) g10 ya yr n cya cyr q c1 r1 (cst (-1)) (cst ((n : Int) + 1)) bA bR W) (fun s W h => ⟨_, _, h⟩) (fun s W h => by simpa [Many.upd] using h) (fun W hC => by (obtain ⟨bA, bR, hC⟩ := hC; obtain ⟨d0, d1, d2, d3, d4⟩ := hC.t.cells; obtain ⟨o0, o1, _, _⟩ := hC.o; clear hC; go_simp; try rfl; try (intro hx; first | exact absurd hx b1 | exact absurd hx b2 | exact absurd hx b3 | exact absurd hx b4)))) ?_
      simp only [Act.put, List.setIfInBounds_toArray, List.set_cons_succ, List.set_cons_zero, Nat.reduceAdd]
      refine Many.lex_want (by rfl) (Many.tr_read (v := .pointer (some ⟨w.heap.size, 1, none⟩)) (fun W => ∃ bA bR, MgC w n1 c1 r1 n2 c2 (w.heap.size + 1) g10 ya yr n cya cyr q c1 r1 (cst (-1)) (cst ((n : Int) + 1)) bA bR W) (fun s W h => ⟨_, _, h⟩) (fun s W h => by simpa [Many.upd] using h) (fun W hC => by (obtain ⟨bA, bR, hC⟩ := hC; obtain ⟨d0, d1, d2, d3, d4⟩ := hC.t.cells; obtain ⟨o0, o1, _, _⟩ := hC.o; clear hC; go_simp; try rfl; try (intro hx; first | exact absurd hx b1 | exact absurd hx b2 | exact absurd hx b3 | exact absurd hx b4)))) ?_
      simp only [Act.put, List.setIfInBounds_toArray, List.set_cons_succ, List.set_cons_zero, Nat.reduceAdd]
      refine Many.lex_want (by rfl) (Many.tr_read (v := .int .i64 (c1 : Int)) (fun W => ∃ bA bR, MgC w n1 c1 r1 n2 c2 (w.heap.size + 1) g10 ya yr n cya cyr q c1 r1 (cst (-1)) (cst ((n : Int) + 1)) bA bR W) (fun s W h => ⟨_, _, h⟩) (fun s W h => by simpa [Many.upd] using h) (fun W hC => by (obtain ⟨bA, bR, hC⟩ := hC; obtain ⟨d0, d1, d2, d3, d4⟩ := hC.t.cells; obtain ⟨o0, o1, _, _⟩ := hC.o; clear hC; go_simp; try rfl; try (intro hx; first | exact absurd hx b1 | exact absurd hx b2 | exact absurd hx b3 | exact absurd hx b4)))) ?_
      simp only [Act.put, List.setIfInBounds_toArray, List.set_cons_succ, List.set_cons_zero, Nat.reduceAdd]
      refine Many.lex_want (by rfl) (Many.tr_read (v := .pointer (some ⟨w.heap.size, 2, none⟩)) (fun W => ∃ bA bR, MgC w n1 c1 r1 n2 c2 (w.heap.size + 1) g10 ya yr n cya cyr q c1 r1 (cst (-1)) (cst ((n : Int) + 1)) bA bR W) (fun s W h => ⟨_, _, h⟩) (fun s W h => by simpa [Many.upd] using h) (fun W hC => by (obtain ⟨bA, bR, hC⟩ := hC; obtain ⟨d0, d1, d2, d3, d4⟩ := hC.t.cells; obtain ⟨o0, o1, _, _⟩ := hC.o; clear hC; go_simp; try rfl; try (intro hx; first | exact absurd hx b1 | exact absurd hx b2 | exact absurd hx b3 | exact absurd hx b4)))) ?_
      simp only [Act.put, List.setIfInBounds_toArray, List.set_cons_succ, List.set_cons_zero, Nat.reduceAdd]
      refine Many.lex_want (by rfl) (Many.tr_read (v := .int .i64 (r1 : Int)) (fun W => ∃ bA bR, MgC w n1 c1 r1 n2 c2 (w.heap.size + 1) g10 ya yr n cya cyr q c1 r1 (cst (-1)) (cst ((n : Int) + 1)) bA bR W) (fun s W h => ⟨_, _, h⟩) (fun s W h => by simpa [Many.upd] using h) (fun W hC => by (obtain ⟨bA, bR, hC⟩ := hC; obtain ⟨d0, d1, d2, d3, d4⟩ := hC.t.cells; obtain ⟨o0, o1, _, _⟩ := hC.o; clear hC; go_simp; try rfl; try (intro hx; first | exact absurd hx b1 | exact absurd hx b2 | exact absurd hx b3 | exact absurd hx b4)))) ?_
      simp only [Act.put, List.setIfInBounds_toArray, List.set_cons_succ, List.set_cons_zero, Nat.reduceAdd]
      refine Many.lex_want (by rfl) (Many.tr_read (v := .pointer (some ⟨ya, q, none⟩)) (fun W => ∃ bA bR, MgC w n1 c1 r1 n2 c2 (w.heap.size + 1) g10 ya yr n cya cyr q c1 r1 (cst (-1)) (cst ((n : Int) + 1)) bA bR W) (fun s W h => ⟨_, _, h⟩) (fun s W h => by simpa [Many.upd] using h) (fun W hC => by (obtain ⟨bA, bR, hC⟩ := hC; obtain ⟨d0, d1, d2, d3, d4⟩ := hC.t.cells; obtain ⟨o0, o1, _, _⟩ := hC.o; clear hC; go_simp; try rfl; try (intro hx; first | exact absurd hx b1 | exact absurd hx b2 | exact absurd hx b3 | exact absurd hx b4)))) ?_
      simp only [Act.put, List.setIfInBounds_toArray, List.set_cons_succ, List.set_cons_zero, Nat.reduceAdd]
      refine Many.lex_want (by rfl) (Many.tr_step (v := undef) (fun s W hs hC => ?_)) ?_
      · rw [hs] at hC
        obtain ⟨x0, x1⟩ := hC.a.cell (k := q) hqn
        have hst := hC.setA
        clear hC
        go_simp
        exact ⟨rfl, by simpa [Many.upd] using hst⟩
      simp only [Act.put, List.setIfInBounds_toArray, List.set_cons_succ, List.set_cons_zero, Nat.reduceAdd]
      refine Many.lex_want (by rfl) (Many.tr_read (v := .pointer (some ⟨yr, q, none⟩)) (fun W => ∃ bA bR, MgC w n1 c1 r1 n2 c2 (w.heap.size + 1) g10 ya yr n cya cyr q c1 r1 (cst (-1)) (cst ((n : Int) + 1)) bA bR W) (fun s W h => ⟨_, _, h⟩) (fun s W h => by simpa [Many.upd] using h) (fun W hC => by (obtain ⟨bA, bR, hC⟩ := hC; obtain ⟨d0, d1, d2, d3, d4⟩ := hC.t.cells; obtain ⟨o0, o1, _, _⟩ := hC.o; clear hC; go_simp; try rfl; try (intro hx; first | exact absurd hx b1 | exact absurd hx b2 | exact absurd hx b3 | exact absurd hx b4)))) ?_
      simp only [Act.put, List.setIfInBounds_toArray, List.set_cons_succ, List.set_cons_zero, Nat.reduceAdd]
      refine Many.lex_want (by rfl) (Many.tr_step (v := undef) (fun s W hs hC => ?_)) ?_
      · rw [hs] at hC
        obtain ⟨x0, x1⟩ := hC.r.cell (k := q) hqn
        have hst := hC.setR
        clear hC
        go_simp
        exact ⟨rfl, by simpa [Many.upd] using hst⟩
      simp only [Act.put, List.setIfInBounds_toArray, List.set_cons_succ, List.set_cons_zero, Nat.reduceAdd]
      refine Many.lex_nil fun s W9 hs hC9 => ?_
      have hC8 := hC9
      rw [hs 15 (by decide), hs 17 (by decide)] at hC8
      clear hC9 hs hC0
      have hC1 := hC8.next z (c2 : Int) ((c2 : Int) + 1) hzn
      clear hC8
      go_wp2
      refine (wpIn_wide (n := 0)).1 ?_
      refine Many.region_many (fun s W => MgC w n1 c1 r1 n2 c2 (w.heap.size + 1) g10 ya yr n cya cyr z (c2 : Int) ((c2 : Int) + 1) (upA q c1 (cst (-1)) true) (upA q r1 (cst ((n : Int) + 1)) true) (s 14) (s 16) W) hmx (by kernel_rfl) (fun s s' W' h hc => by rw [← h 14, ← h 16]; exact hc) (fun s hs => by rw [hs 14 (by decide), hs 16 (by decide)]; exact hC1.drew) ?_
      refine Many.lex_want (by rfl) (Many.tr_read (v := .pointer (some ⟨g10, 0, none⟩)) (fun W => ∃ bA bR, MgC w n1 c1 r1 n2 c2 (w.heap.size + 1) g10 ya yr n cya cyr z (c2 : Int) ((c2 : Int) + 1) (upA q c1 (cst (-1)) true) (upA q r1 (cst ((n : Int) + 1)) true) bA bR W) (fun s W h => ⟨_, _, h⟩) (fun s W h => by simpa [Many.upd] using h) (fun W hC => by (obtain ⟨bA, bR, hC⟩ := hC; obtain ⟨d0, d1, d2, d3, d4⟩ := hC.t.cells; obtain ⟨o0, o1, _, _⟩ := hC.o; clear hC; go_simp; try rfl; try (intro hx; first | exact absurd hx b1 | exact absurd hx b2 | exact absurd hx b3 | exact absurd hx b4)))) ?_
      simp only [Act.put, List.setIfInBounds_toArray, List.set_cons_succ, List.set_cons_zero, Nat.reduceAdd]
      refine Many.lex_want (by rfl) (Many.tr_read (v := .slice (some ⟨ya, 0, none⟩) n cya) (fun W => ∃ bA bR, MgC w n1 c1 r1 n2 c2 (w.heap.size + 1) g10 ya yr n cya cyr z (c2 : Int) ((c2 : Int) + 1) (upA q c1 (cst (-1)) true) (upA q r1 (cst ((n : Int) + 1)) true) bA bR W) (fun s W h => ⟨_, _, h⟩) (fun s W h => by simpa [Many.upd] using h) (fun W hC => by (obtain ⟨bA, bR, hC⟩ := hC; obtain ⟨d0, d1, d2, d3, d4⟩ := hC.t.cells; obtain ⟨o0, o1, _, _⟩ := hC.o; clear hC; go_simp; try rfl; try (intro hx; first | exact absurd hx b1 | exact absurd hx b2 | exact absurd hx b3 | exact absurd hx b4)))) ?_
      simp only [Act.put, List.setIfInBounds_toArray, List.set_cons_succ, List.set_cons_zero, Nat.reduceAdd]
      refine Many.lex_want (by rfl) (Many.tr_read (v := .int .i64 (n : Int)) (fun W => ∃ bA bR, MgC w n1 c1 r1 n2 c2 (w.heap.size + 1) g10 ya yr n cya cyr z (c2 : Int) ((c2 : Int) + 1) (upA q c1 (cst (-1)) true) (upA q r1 (cst ((n : Int) + 1)) true) bA bR W) (fun s W h => ⟨_, _, h⟩) (fun s W h => by simpa [Many.upd] using h) (fun W hC => by (obtain ⟨bA, bR, hC⟩ := hC; obtain ⟨d0, d1, d2, d3, d4⟩ := hC.t.cells; obtain ⟨o0, o1, _, _⟩ := hC.o; clear hC; go_simp; try rfl; try (intro hx; first | exact absurd hx b1 | exact absurd hx b2 | exact absurd hx b3 | exact absurd hx b4)))) ?_
      simp only [Act.put, List.setIfInBounds_toArray, List.set_cons_succ, List.set_cons_zero, Nat.reduceAdd]
      refine Many.lex_want (by rfl) (Many.tr_read (v := .int .i64 (z : Int)) (fun W => ∃ bA bR, MgC w n1 c1 r1 n2 c2 (w.heap.size + 1) g10 ya yr n cya cyr z (c2 : Int) ((c2 : Int) + 1) (upA q c1 (cst (-1)) true) (upA q r1 (cst ((n : Int) + 1)) true) bA bR W) (fun s W h => ⟨_, _, h⟩) (fun s W h => by simpa [Many.upd] using h) (fun W hC => by (obtain ⟨bA, bR, hC⟩ := hC; obtain ⟨d0, d1, d2, d3, d4⟩ := hC.t.cells; obtain ⟨o0, o1, _, _⟩ := hC.o; clear hC; go_simp; try rfl; try (intro hx; first | exact absurd hx b1 | exact absurd hx b2 | exact absurd hx b3 | exact absurd hx b4)))) ?_
      simp only [Act.put, List.setIfInBounds_toArray, List.set_cons_succ, List.set_cons_zero, Nat.reduceAdd]
      refine Many.lex_want (by rfl) (Many.tr_read (v := .pointer (some ⟨g10, 1, none⟩)) (fun W => ∃ bA bR, MgC w n1 c1 r1 n2 c2 (w.heap.size + 1) g10 ya yr n cya cyr z (c2 : Int) ((c2 : Int) + 1) (upA q c1 (cst (-1)) true) (upA q r1 (cst ((n : Int) + 1)) true) bA bR W) (fun s W h => ⟨_, _, h⟩) (fun s W h => by simpa [Many.upd] using h) (fun W hC => by (obtain ⟨bA, bR, hC⟩ := hC; obtain ⟨d0, d1, d2, d3, d4⟩ := hC.t.cells; obtain ⟨o0, o1, _, _⟩ := hC.o; clear hC; go_simp; try rfl; try (intro hx; first | exact absurd hx b1 | exact absurd hx b2 | exact absurd hx b3 | exact absurd hx b4)))) ?_
      simp only [Act.put, List.setIfInBounds_toArray, List.set_cons_succ, List.set_cons_zero, Nat.reduceAdd]
      refine Many.lex_want (by rfl) (Many.tr_read (v := .slice (some ⟨yr, 0, none⟩) n cyr) (fun W => ∃ bA bR, MgC w n1 c1 r1 n2 c2 (w.heap.size + 1) g10 ya yr n cya cyr z (c2 : Int) ((c2 : Int) + 1) (upA q c1 (cst (-1)) true) (upA q r1 (cst ((n : Int) + 1)) true) bA bR W) (fun s W h => ⟨_, _, h⟩) (fun s W h => by simpa [Many.upd] using h) (fun W hC => by (obtain ⟨bA, bR, hC⟩ := hC; obtain ⟨d0, d1, d2, d3, d4⟩ := hC.t.cells; obtain ⟨o0, o1, _, _⟩ := hC.o; clear hC; go_simp; try rfl; try (intro hx; first | exact absurd hx b1 | exact absurd hx b2 | exact absurd hx b3 | exact absurd hx b4)))) ?_
      simp only [Act.put, List.setIfInBounds_toArray, List.set_cons_succ, List.set_cons_zero, Nat.reduceAdd]
      refine Many.lex_want (by rfl) (Many.tr_read (v := .int .i64 (n : Int)) (fun W => ∃ bA bR, MgC w n1 c1 r1 n2 c2 (w.heap.size + 1) g10 ya yr n cya cyr z (c2 : Int) ((c2 : Int) + 1) (upA q c1 (cst (-1)) true) (upA q r1 (cst ((n : Int) + 1)) true) bA bR W) (fun s W h => ⟨_, _, h⟩) (fun s W h => by simpa [Many.upd] using h) (fun W hC => by (obtain ⟨bA, bR, hC⟩ := hC; obtain ⟨d0, d1, d2, d3, d4⟩ := hC.t.cells; obtain ⟨o0, o1, _, _⟩ := hC.o; clear hC; go_simp; try rfl; try (intro hx; first | exact absurd hx b1 | exact absurd hx b2 | exact absurd hx b3 | exact absurd hx b4)))) ?_
      simp only [Act.put, List.setIfInBounds_toArray, List.set_cons_succ, List.set_cons_zero, Nat.reduceAdd]
      refine Many.lex_want (by rfl) (Many.tr_read (v := .int .i64 (z : Int)) (fun W => ∃ bA bR, MgC w n1 c1 r1 n2 c2 (w.heap.size + 1) g10 ya yr n cya cyr z (c2 : Int) ((c2 : Int) + 1) (upA q c1 (cst (-1)) true) (upA q r1 (cst ((n : Int) + 1)) true) bA bR W) (fun s W h => ⟨_, _, h⟩) (fun s W h => by simpa [Many.upd] using h) (fun W hC => by (obtain ⟨bA, bR, hC⟩ := hC; obtain ⟨d0, d1, d2, d3, d4⟩ := hC.t.cells; obtain ⟨o0, o1, _, _⟩ := hC.o; clear hC; go_simp; try rfl; try (intro hx; first | exact absurd hx b1 | exact absurd hx b2 | exact absurd hx b3 | exact absurd hx b4)))) ?_
      simp only [Act.put, List.setIfInBounds_toArray, List.set_cons_succ, List.set_cons_zero, Nat.reduceAdd]
      refine Many.lex_want (by rfl) (Many.tr_read (v := .pointer (some ⟨w.heap.size, 4, none⟩)) (fun W => ∃ bA bR, MgC w n1 c1 r1 n2 c2 (w.heap.size + 1) g10 ya yr n cya cyr z (c2 : Int) ((c2 : Int) + 1) (upA q c1 (cst (-1)) true) (upA q r1 (cst ((n : Int) + 1)) true) bA bR W) (fun s W h => ⟨_, _, h⟩) (fun s W h => by simpa [Many.upd] using h) (fun W hC => by (obtain ⟨bA, bR, hC⟩ := hC; obtain ⟨d0, d1, d2, d3, d4⟩ := hC.t.cells; obtain ⟨o0, o1, _, _⟩ := hC.o; clear hC; go_simp; try rfl; try (intro hx; first | exact absurd hx b1 | exact absurd hx b2 | exact absurd hx b3 | exact absurd hx b4)))) ?_
      simp only [Act.put, List.setIfInBounds_toArray, List.set_cons_succ, List.set_cons_zero, Nat.reduceAdd]
      refine Many.lex_want (by rfl) (Many.tr_read (v := .int .i64 (c2 : Int)) (fun W => ∃ bA bR, MgC w n1 c1 r1 n2 c2 (w.heap.size + 1) g10 ya yr n cya cyr z (c2 : Int) ((c2 : Int) + 1) (upA q c1 (cst (-1)) true) (upA q r1 (cst ((n : Int) + 1)) true) bA bR W) (fun s W h => ⟨_, _, h⟩) (fun s W h => by simpa [Many.upd] using h) (fun W hC => by (obtain ⟨bA, bR, hC⟩ := hC; obtain ⟨d0, d1, d2, d3, d4⟩ := hC.t.cells; obtain ⟨o0, o1, _, _⟩ := hC.o; clear hC; go_simp; try rfl; try (intro hx; first | exact absurd hx b1 | exact absurd hx b2 | exact absurd hx b3 | exact absurd hx b4)))) ?_
      simp only [Act.put, List.setIfInBounds_toArray, List.set_cons_succ, List.set_cons_zero, Nat.reduceAdd]
      refine Many.lex_want (by rfl) (Many.tr_read (v := .pointer (some ⟨w.heap.size, 4, none⟩)) (fun W => ∃ bA bR, MgC w n1 c1 r1 n2 c2 (w.heap.size + 1) g10 ya yr n cya cyr z (c2 : Int) ((c2 : Int) + 1) (upA q c1 (cst (-1)) true) (upA q r1 (cst ((n : Int) + 1)) true) bA bR W) (fun s W h => ⟨_, _, h⟩) (fun s W h => by simpa [Many.upd] using h) (fun W hC => by (obtain ⟨bA, bR, hC⟩ := hC; obtain ⟨d0, d1, d2, d3, d4⟩ := hC.t.cells; obtain ⟨o0, o1, _, _⟩ := hC.o; clear hC; go_simp; try rfl; try (intro hx; first | exact absurd hx b1 | exact absurd hx b2 | exact absurd hx b3 | exact absurd hx b4)))) ?_
      simp only [Act.put, List.setIfInBounds_toArray, List.set_cons_succ, List.set_cons_zero, Nat.reduceAdd]
      refine Many.lex_want (by rfl) (Many.tr_read (v := .int .i64 (c2 : Int)) (fun W => ∃ bA bR, MgC w n1 c1 r1 n2 c2 (w.heap.size + 1) g10 ya yr n cya cyr z (c2 : Int) ((c2 : Int) + 1) (upA q c1 (cst (-1)) true) (upA q r1 (cst ((n : Int) + 1)) true) bA bR W) (fun s W h => ⟨_, _, h⟩) (fun s W h => by simpa [Many.upd] using h) (fun W hC => by (obtain ⟨bA, bR, hC⟩ := hC; obtain ⟨d0, d1, d2, d3, d4⟩ := hC.t.cells; obtain ⟨o0, o1, _, _⟩ := hC.o; clear hC; go_simp; try rfl; try (intro hx; first | exact absurd hx b1 | exact absurd hx b2 | exact absurd hx b3 | exact absurd hx b4)))) ?_
      simp only [Act.put, List.setIfInBounds_toArray, List.set_cons_succ, List.set_cons_zero, Nat.reduceAdd]
      refine Many.lex_want (by rfl) (Many.tr_read (v := .int .i64 ((c2 : Int) + 1)) (fun W => ∃ bA bR, MgC w n1 c1 r1 n2 c2 (w.heap.size + 1) g10 ya yr n cya cyr z (c2 : Int) ((c2 : Int) + 1) (upA q c1 (cst (-1)) true) (upA q r1 (cst ((n : Int) + 1)) true) bA bR W) (fun s W h => ⟨_, _, h⟩) (fun s W h => by simpa [Many.upd] using h) (fun W hC => by (obtain ⟨bA, bR, hC⟩ := hC; obtain ⟨d0, d1, d2, d3, d4⟩ := hC.t.cells; obtain ⟨o0, o1, _, _⟩ := hC.o; clear hC; go_simp; try rfl; try (intro hx; first | exact absurd hx b1 | exact absurd hx b2 | exact absurd hx b3 | exact absurd hx b4)))) ?_
      simp only [Act.put, List.setIfInBounds_toArray, List.set_cons_succ, List.set_cons_zero, Nat.reduceAdd]
      refine Many.lex_want (by rfl) (Many.tr_read (v := .pointer (some ⟨ya, z, none⟩)) (fun W => ∃ bA bR, MgC w n1 c1 r1 n2 c2 (w.heap.size + 1) g10 ya yr n cya cyr z (c2 : Int) ((c2 : Int) + 1) (upA q c1 (cst (-1)) true) (upA q r1 (cst ((n : Int) + 1)) true) bA bR W) (fun s W h => ⟨_, _, h⟩) (fun s W h => by simpa [Many.upd] using h) (fun W hC => by (obtain ⟨bA, bR, hC⟩ := hC; obtain ⟨d0, d1, d2, d3, d4⟩ := hC.t.cells; obtain ⟨o0, o1, _, _⟩ := hC.o; clear hC; go_simp; try rfl; try (intro hx; first | exact absurd hx b1 | exact absurd hx b2 | exact absurd hx b3 | exact absurd hx b4)))) ?_
      simp only [Act.put, List.setIfInBounds_toArray, List.set_cons_succ, List.set_cons_zero, Nat.reduceAdd]
      refine Many.lex_want (by rfl) (Many.tr_step (v := undef) (fun s W hs hC => ?_)) ?_
      · rw [hs] at hC
        obtain ⟨x0, x1⟩ := hC.a.cell (k := z) hzn
        have hst := hC.setA
        clear hC
        go_simp
        exact ⟨rfl, by simpa [Many.upd] using hst⟩
      simp only [Act.put, List.setIfInBounds_toArray, List.set_cons_succ, List.set_cons_zero, Nat.reduceAdd]
      refine Many.lex_want (by rfl) (Many.tr_read (v := .pointer (some ⟨yr, z, none⟩)) (fun W => ∃ bA bR, MgC w n1 c1 r1 n2 c2 (w.heap.size + 1) g10 ya yr n cya cyr z (c2 : Int) ((c2 : Int) + 1) (upA q c1 (cst (-1)) true) (upA q r1 (cst ((n : Int) + 1)) true) bA bR W) (fun s W h => ⟨_, _, h⟩) (fun s W h => by simpa [Many.upd] using h) (fun W hC => by (obtain ⟨bA, bR, hC⟩ := hC; obtain ⟨d0, d1, d2, d3, d4⟩ := hC.t.cells; obtain ⟨o0, o1, _, _⟩ := hC.o; clear hC; go_simp; try rfl; try (intro hx; first | exact absurd hx b1 | exact absurd hx b2 | exact absurd hx b3 | exact absurd hx b4)))) ?_
      simp only [Act.put, List.setIfInBounds_toArray, List.set_cons_succ, List.set_cons_zero, Nat.reduceAdd]
      refine Many.lex_want (by rfl) (Many.tr_step (v := undef) (fun s W hs hC => ?_)) ?_
      · rw [hs] at hC
        obtain ⟨x0, x1⟩ := hC.r.cell (k := z) hzn
        have hst := hC.setR
        clear hC
        go_simp
        exact ⟨rfl, by simpa [Many.upd] using hst⟩
      simp only [Act.put, List.setIfInBounds_toArray, List.set_cons_succ, List.set_cons_zero, Nat.reduceAdd]
      refine Many.lex_nil fun s W9 hs hC9 => ?_
      have hC10 := hC9
      rw [hs 14 (by decide), hs 16 (by decide)] at hC10
      clear hC9 hs hC1
      have fA := mrg_fA (c1 := c1) (c2 := c2) hq.out hzk.out
      have fR := mrg_fR (r1 := r1) (c2 := c2) hq.out hzk.out
      obtain ⟨e1, e2, e3, e4, e5, e6, e7, e8⟩ := hC10.ne
      obtain ⟨o0, o1, o2, o3⟩ := hC10.o
      obtain ⟨s0, s1, s2, s3⟩ := hC10.t.o
      have hca := hC10.a
      have hcr := hC10.r
      have hbw := hC10.bw
      clear hC10
      go_wp2
      refine bodyPost_ret (v := .agg #[.slice (some ⟨ya, 0, none⟩) n cya, .slice (some ⟨yr, 0, none⟩) n cyr]) (by simp [results, Try.results59, go_sem]; try go_simp) rfl ?_
      refine ⟨⟨ya, 0, cya, yr, 0, cyr, n, mrgA n1 c1 c2 n, mrgR n1 r1 c2 n⟩, rfl, ⟨fun k hk => ?_, fun k hk => ?_⟩, rfl, rfl, rfl, (hbw.setCell (p := ⟨w.heap.size + 1, 0, none⟩) (by simp) _).setCell (p := ⟨w.heap.size + 1, 1, none⟩) (by simp) _, Nat.le_of_lt e4, Nat.le_of_lt e5⟩
      · have h := (((hca.same (Below.heap_setCell W9 ⟨w.heap.size + 1, 0, none⟩ (.slice (some ⟨ya, 0, none⟩) n cya) ya (Ne.symm e6))).same (Below.heap_setCell _ ⟨w.heap.size + 1, 1, none⟩ (.slice (some ⟨yr, 0, none⟩) n cyr) ya (Ne.symm e6))).cell (k := k) hk).1
        rw [fA k] at h
        show World.cell? _ ⟨ya, 0 + k, none⟩ = _
        rw [Nat.zero_add]; exact h
      · have h := (((hcr.same (Below.heap_setCell W9 ⟨w.heap.size + 1, 0, none⟩ (.slice (some ⟨ya, 0, none⟩) n cya) yr (Ne.symm e7))).same (Below.heap_setCell _ ⟨w.heap.size + 1, 1, none⟩ (.slice (some ⟨yr, 0, none⟩) n cyr) yr (Ne.symm e7))).cell (k := k) hk).1
        rw [fR k] at h
        show World.cell? _ ⟨yr, 0 + k, none⟩ = _
        rw [Nat.zero_add]; exact h
end Go.Proofs.Ytbmfipjnfbnjgaa
