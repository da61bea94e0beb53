import Derived.Test.YtbmfipjnfbnjgaaIsCourse
import Derived.Test.YtbmfipjnfbnjgaaPaths
import Derived.Laws.Rows
import Derived.Laws.CopyOwn
import Derived.Sort.CutIn
import Derived.Test.YtbmfipjnfbnjgaaSeqG
import Derived.Laws.Tables
set_option linter.unusedSimpArgs false
set_option linter.unusedVariables false
namespace Go.Proofs.Ytbmfipjnfbnjgaa
open Go Go.Proofs Go.RowKit Go.Seq Go.Sample
attribute [local go_sem] Oper.semAt_some
/-- Numbers in the cells of a block. -/
def NumsAt (w : World) (G M : Nat) (t : TypeId) (f : Nat → Nat) : Prop := ∃ cs : Array Value, w.heap[G]? = some (.cells cs t (0, 0)) ∧ cs.size = M ∧ ∀ j, j < M → cs[j]? = some (.int .i64 (f j))
theorem NumsAt.cell {w : World} {G M : Nat} {t : TypeId} {f : Nat → Nat} (h : NumsAt w G M t f) {j : Nat} (hj : j < M) : w.cell? ⟨G, j, none⟩ = some (.int .i64 (f j)) ∧ w.frozen? ⟨G, j, none⟩ = false := by
  obtain ⟨cs, h1, h2, h3⟩ := h
  exact ⟨by simp only [World.cell?, h1]; exact h3 j hj, by simp [World.frozen?, h1]⟩
theorem NumsAt.same {w w' : World} {G M : Nat} {t : TypeId} {f : Nat → Nat} (h : NumsAt w G M t f) (e : w'.heap[G]? = w.heap[G]?) : NumsAt w' G M t f := by
  obtain ⟨cs, h1, h2⟩ := h; exact ⟨cs, e.trans h1, h2⟩
theorem NumsAt.lt {w : World} {G M : Nat} {t : TypeId} {f : Nat → Nat} (h : NumsAt w G M t f) : G < w.heap.size := by
  obtain ⟨cs, h1, _⟩ := h; exact (Array.getElem?_eq_some_iff.1 h1).1
theorem NumsAt.below {w w' : World} {G M B : Nat} {t : TypeId} {f : Nat → Nat} (h : NumsAt w G M t f) (hb : Below B w w') (hl : G < B) : NumsAt w' G M t f := h.same (hb.block G hl)
theorem NumsAt.other {w : World} {G G' M p : Nat} {t : TypeId} {f : Nat → Nat} (h : NumsAt w G M t f) (hne : G ≠ G') (u : Value) : NumsAt (w.setCell ⟨G', p, none⟩ u) G M t f := h.same (Below.heap_setCell w ⟨G', p, none⟩ u G hne)
theorem NumsAt.fn {w : World} {G M : Nat} {t : TypeId} {f g : Nat → Nat} (h : NumsAt w G M t f) (e : ∀ j, j < M → g j = f j) : NumsAt w G M t g := by
  obtain ⟨cs, h1, h2, h3⟩ := h; exact ⟨cs, h1, h2, fun j hj => by rw [e j hj]; exact h3 j hj⟩
theorem heap_set {W : World} {b : Nat} {a : Array Value} {t : TypeId} (h : W.heap[b]? = some (.cells a t (0, 0))) {i : Nat} (v : Value) : (W.setCell ⟨b, i, none⟩ v).heap[b]? = some (.cells (a.setIfInBounds i v) t (0, 0)) := by
  obtain ⟨hlt, hk⟩ := Array.getElem?_eq_some_iff.1 h
  simp only [World.setCell]
  rw [Array.getElem?_eq_getElem (by rw [Array.size_modify]; exact hlt), Array.getElem_modify_self, hk]
  simp
theorem NumsAt.set {w : World} {G M p x : Nat} {t : TypeId} {f g : Nat → Nat} (h : NumsAt w G M t f) (hp : p < M) (hx : g p = x) (hg : ∀ j, j < M → j ≠ p → g j = f j) : NumsAt (w.setCell ⟨G, p, none⟩ (.int .i64 x)) G M t g := by
  obtain ⟨cs, h1, h2, h3⟩ := h
  refine ⟨_, heap_set h1 _, by simp [h2], fun j hj => ?_⟩
  by_cases e : j = p
  · subst e; rw [hx]; simp [h2, hj]
  · rw [hg j hj e, Array.getElem?_setIfInBounds_ne (by omega)]; exact h3 j hj
theorem NumsAt.new (w : World) {M : Nat} {t : TypeId} {cs : Array Value} (h2 : cs.size = M) (h3 : ∀ j, j < M → cs[j]? = some (.int .i64 0)) : NumsAt (w.alloc (.cells cs t)) w.heap.size M t (fun _ => 0) :=
  ⟨cs, World.alloc_heap_new w _, h2, h3⟩
/-- The value that the ends have: the numbers of ways in which a course accepts, and rejects. -/
def endsCells (N d : Nat) (A R : Nat → Int) (L : Nat) : Array Value := Array.ofFn fun j : Fin 74 => .int .i64 (tabE N d A R L 0 j : Nat)
theorem zeros114 : (Try.zeroCells114.size == 74 && Try.zeroCells114.toList.all (fun v => match v with | .int .i64 z => z == 0 | _ => false)) = true := by kernel_rfl
theorem all_zero {cs : Array Value} {M : Nat} (h : (cs.size == M && cs.toList.all (fun v => match v with | .int .i64 z => z == 0 | _ => false)) = true) : cs.size = M ∧ ∀ j, j < M → cs[j]? = some (.int .i64 0) := by
  rw [Bool.and_eq_true, beq_iff_eq] at h
  obtain ⟨h1, h2⟩ := h
  refine ⟨h1, fun k hk => ?_⟩
  have hlt : k < cs.size := by omega
  rw [Array.getElem?_eq_getElem hlt]
  have := List.all_eq_true.1 h2 _ (Array.getElem_mem_toList hlt)
  generalize cs[k] = v at this
  split at this
  · rename_i z
    rw [beq_iff_eq] at this
    rw [this]
  · exact absurd this (by simp)
section
variable (N d : Nat) (A R : Nat → Int)
theorem tabE_at {m k j : Nat} (hm : m + 1 < 37) : tabE N d A R m k (m + 1) = yesTo N d A R m k ∧ tabE N d A R m k (37 + (m + 1)) = noTo N d A R m k := by
  constructor
  · unfold tabE tabY
    rw [if_pos hm, if_neg (by omega), if_pos rfl]
  · unfold tabE tabN
    rw [if_neg (by omega), Nat.add_sub_cancel_left, if_neg (by omega), if_pos rfl]
theorem tabE_off {m k j : Nat} (h1 : j ≠ m + 1) (h2 : j ≠ 37 + (m + 1)) : tabE N d A R m (k + 1) j = tabE N d A R m k j := by
  unfold tabE tabY tabN
  by_cases h : j < 37
  · rw [if_pos h, if_pos h, if_neg h1, if_neg h1]
  · rw [if_neg h, if_neg h, if_neg (show ¬ j - 37 = m + 1 by omega), if_neg (show ¬ j - 37 = m + 1 by omega)]
theorem tabE_yes {m k : Nat} (hm : m + 1 < 37) (h : (k : Int) ≤ A m) : ∀ j, j ≠ m + 1 → tabE N d A R m (k + 1) j = tabE N d A R m k j := by
  intro j hj
  by_cases h2 : j = 37 + (m + 1)
  · subst h2
    rw [(tabE_at N d A R (j := 0) hm).2, (tabE_at N d A R (j := 0) hm).2]
    show noTo N d A R m k + _ = _
    rw [if_pos h, Nat.add_zero]
  · exact tabE_off N d A R hj h2
theorem tabE_no {m k : Nat} (hm : m + 1 < 37) (h : ¬ (k : Int) ≤ A m) : ∀ j, j ≠ 37 + (m + 1) → tabE N d A R m (k + 1) j = tabE N d A R m k j := by
  intro j hj
  by_cases h2 : j = m + 1
  · subst h2
    rw [(tabE_at N d A R (j := 0) hm).1, (tabE_at N d A R (j := 0) hm).1]
    show yesTo N d A R m k + _ = _
    rw [if_neg h, Nat.add_zero]
  · exact tabE_off N d A R h2 hj
theorem tabE_none {m k : Nat} (hm : m + 1 < 37) (h : ¬ (k : Int) ≤ A m) (h2 : ¬ R m ≤ (k : Int)) : ∀ j, tabE N d A R m (k + 1) j = tabE N d A R m k j := by
  intro j
  by_cases h3 : j = 37 + (m + 1)
  · subst h3
    rw [(tabE_at N d A R (j := 0) hm).2, (tabE_at N d A R (j := 0) hm).2]
    show noTo N d A R m k + _ = _
    rw [if_neg h, if_neg h2, Nat.add_zero]
  · exact tabE_no N d A R hm h j h3
theorem midB_off {m k j : Nat} (h : j ≠ k) : midB A R m (k + 1) j = midB A R m k j := by
  unfold midB
  by_cases h1 : j < k
  · rw [if_pos h1, if_pos (by omega)]
  · rw [if_neg h1, if_neg (by omega)]
theorem midB_cut {m k : Nat} (h : (k : Int) ≤ A m ∨ R m ≤ (k : Int)) : midB A R m (k + 1) k = 0 := by
  unfold midB; rw [if_pos (by omega), opn_succ, if_pos h]
theorem midB_keep {m k : Nat} (h1 : ¬ (k : Int) ≤ A m) (h2 : ¬ R m ≤ (k : Int)) : ∀ j, midB A R m (k + 1) j = midB A R m k j := by
  intro j
  by_cases h : j = k
  · subst h
    unfold midB
    rw [if_pos (by omega), if_neg (by omega), opn_succ, if_neg (fun e => e.elim h1 h2)]
  · exact midB_off A R h
theorem midA_off {m k j : Nat} (h : j ≠ k + 1) : midA A R m k j = midA A R m (k + 1) j := by
  unfold midA
  by_cases h1 : k + 1 < j
  · rw [if_pos h1, if_pos (by omega)]
  · rw [if_neg h1, if_neg (by omega)]
end
/-- What the walk of the ends holds: the pieces, the number of bad ones, the course, the zero result, the ends so far, and the open orders. -/
structure EndsI (w : World) (b d : Nat) (c : Crs) (E O : Nat → Nat) (W : World) : Prop where
  box : CrsBox W (w.heap.size + 6) c
  p : W.heap[w.heap.size]? = some (.cells #[.pointer (some ⟨b, 0, none⟩)] 88 (0, 0))
  dd : W.heap[w.heap.size + 1]? = some (.cells #[.int .i64 d] 3 (0, 0))
  res : W.heap[w.heap.size + 1 + 1 + 1]? = some (.cells Try.zeroCells114 114 (0, 0))
  e : NumsAt W (w.heap.size + 1 + 1 + 1 + 1) 74 114 E
  o : NumsAt W (w.heap.size + 1 + 1 + 1 + 1 + 1) 37 91 O
  bw : Below w.heap.size w W
theorem EndsI.below {w : World} {b d : Nat} {c : Crs} {E O : Nat → Nat} {W W' : World} {B : Nat} (h : EndsI w b d c E O W) (hb : Below B W W') (hB : w.heap.size + 7 ≤ B) (hga : c.ga < w.heap.size) (hgr : c.gr < w.heap.size) : EndsI w b d c E O W' := by
  obtain ⟨h1, h2, h3, h4, h5, h6, h7⟩ := h
  exact ⟨⟨h1.own.below hb (by omega), h1.inn.below hb (by omega) (by omega)⟩, (hb.block _ (by omega)).trans h2, (hb.block _ (by omega)).trans h3, (hb.block _ (by omega)).trans h4, h5.below hb (by omega), h6.below hb (by omega), h7.trans (hb.mono (by omega))⟩
theorem CrsBox.same {W W' : World} {B : Nat} {c : Crs} (h : CrsBox W B c) (e1 : W'.heap[B]? = W.heap[B]?) (e2 : W'.heap[c.ga]? = W.heap[c.ga]?) (e3 : W'.heap[c.gr]? = W.heap[c.gr]?) : CrsBox W' B c :=
  ⟨⟨(World.cell?_of_block (a := ⟨B, 0, none⟩) e1).trans h.own.c0, (World.cell?_of_block (a := ⟨B, 1, none⟩) e1).trans h.own.c1, (World.frozen?_of_block (a := ⟨B, 0, none⟩) e1).trans h.own.f0, (World.frozen?_of_block (a := ⟨B, 1, none⟩) e1).trans h.own.f1⟩,
    ⟨fun k hk => (World.cell?_of_block (a := ⟨c.ga, c.oa + k, none⟩) e2).trans (h.inn.las k hk), fun k hk => (World.cell?_of_block (a := ⟨c.gr, c.ro + k, none⟩) e3).trans (h.inn.lrs k hk)⟩⟩
/-- The same in a round that began at V. -/
structure EndsJ (w : World) (b d : Nat) (c : Crs) (E O : Nat → Nat) (V W : World) : Prop where
  i : EndsI w b d c E O W
  fr : From (w.heap.size + 7) V W
  ot : W.os = V.os ∧ W.tape = V.tape ∧ W.output = V.output
theorem EndsJ.drewN {w : World} {b d : Nat} {c : Crs} {E O : Nat → Nat} {V W : World} (h : EndsJ w b d c E O V W) (n : Nat) : EndsJ w b d c E O V (W.drewN n) := by
  obtain ⟨⟨h1, h2, h3, h4, h5, h6, h7⟩, hf, ho⟩ := h
  exact ⟨⟨h1.same rfl rfl rfl, h2, h3, h4, h5.same rfl, h6.same rfl, below_drewN h7 n⟩, hf, ho⟩
theorem EndsJ.setE {w : World} {b d : Nat} {c : Crs} {E E' O : Nat → Nat} {V W : World} (h : EndsJ w b d c E O V W) (hga : c.ga < w.heap.size) (hgr : c.gr < w.heap.size) {p x : Nat} (hp : p < 74) (hx : E' p = x) (hE : ∀ j, j ≠ p → E' j = E j) :
    EndsJ w b d c E' O V (W.setCell ⟨w.heap.size + 1 + 1 + 1 + 1, p, none⟩ (.int .i64 x)) := by
  obtain ⟨⟨h1, h2, h3, h4, h5, h6, h7⟩, hf, ho⟩ := h
  have ne : ∀ k, k ≠ w.heap.size + 1 + 1 + 1 + 1 → (W.setCell ⟨w.heap.size + 1 + 1 + 1 + 1, p, none⟩ (.int .i64 x)).heap[k]? = W.heap[k]? := fun k hk => Below.heap_setCell W ⟨w.heap.size + 1 + 1 + 1 + 1, p, none⟩ _ k hk
  exact ⟨⟨h1.same (ne _ (by omega)) (ne _ (by omega)) (ne _ (by omega)), (ne _ (by omega)).trans h2, (ne _ (by omega)).trans h3, (ne _ (by omega)).trans h4, h5.set hp hx (fun j _ => hE j), h6.same (ne _ (by omega)), h7.setCell (p := ⟨w.heap.size + 1 + 1 + 1 + 1, p, none⟩) (by simp; omega) _⟩, hf.setCell (p := ⟨w.heap.size + 1 + 1 + 1 + 1, p, none⟩) (by simp) _, ho⟩
theorem EndsJ.setO {w : World} {b d : Nat} {c : Crs} {E O O' : Nat → Nat} {V W : World} (h : EndsJ w b d c E O V W) (hga : c.ga < w.heap.size) (hgr : c.gr < w.heap.size) {p x : Nat} (hp : p < 37) (hx : O' p = x) (hO : ∀ j, j ≠ p → O' j = O j) :
    EndsJ w b d c E O' V (W.setCell ⟨w.heap.size + 1 + 1 + 1 + 1 + 1, p, none⟩ (.int .i64 x)) := by
  obtain ⟨⟨h1, h2, h3, h4, h5, h6, h7⟩, hf, ho⟩ := h
  have ne : ∀ k, k ≠ w.heap.size + 1 + 1 + 1 + 1 + 1 → (W.setCell ⟨w.heap.size + 1 + 1 + 1 + 1 + 1, p, none⟩ (.int .i64 x)).heap[k]? = W.heap[k]? := fun k hk => Below.heap_setCell W ⟨w.heap.size + 1 + 1 + 1 + 1 + 1, p, none⟩ _ k hk
  exact ⟨⟨h1.same (ne _ (by omega)) (ne _ (by omega)) (ne _ (by omega)), (ne _ (by omega)).trans h2, (ne _ (by omega)).trans h3, (ne _ (by omega)).trans h4, h5.same (ne _ (by omega)), h6.set hp hx (fun j _ => hO j), h7.setCell (p := ⟨w.heap.size + 1 + 1 + 1 + 1 + 1, p, none⟩) (by simp; omega) _⟩, hf.setCell (p := ⟨w.heap.size + 1 + 1 + 1 + 1 + 1, p, none⟩) (by simp) _, ho⟩
theorem EndsJ.fn {w : World} {b d : Nat} {c : Crs} {E E' O O' : Nat → Nat} {V W : World} (h : EndsJ w b d c E O V W) (hE : ∀ j, E' j = E j) (hO : ∀ j, O' j = O j) : EndsJ w b d c E' O' V W := by
  rw [show E' = E from funext hE, show O' = O from funext hO]; exact h
def openCells : Array Value := #[.int .i64 1, .int .i64 0, .int .i64 0, .int .i64 0, .int .i64 0, .int .i64 0, .int .i64 0, .int .i64 0, .int .i64 0, .int .i64 0, .int .i64 0, .int .i64 0, .int .i64 0, .int .i64 0, .int .i64 0, .int .i64 0, .int .i64 0, .int .i64 0, .int .i64 0, .int .i64 0, .int .i64 0, .int .i64 0, .int .i64 0, .int .i64 0, .int .i64 0, .int .i64 0, .int .i64 0, .int .i64 0, .int .i64 0, .int .i64 0, .int .i64 0, .int .i64 0, .int .i64 0, .int .i64 0, .int .i64 0, .int .i64 0, .int .i64 0]
theorem openCells_at : openCells.size = 37 ∧ ∀ (A R : Nat → Int) j, j < 37 → openCells[j]? = some (.int .i64 (opn A R 0 j)) := by
  have e : openCells = Array.ofFn (fun j : Fin 37 => Value.int .i64 ((if j.val = 0 then 1 else 0 : Nat) : Int)) := by kernel_rfl
  refine ⟨rfl, fun A R j hj => ?_⟩
  rw [e]
  simp [hj, opn]
set_option maxHeartbeats 2000000 in
set_option maxRecDepth 100000 in
theorem ends_any {b N d : Nat} {c : Crs} {w : World} (hP : Pieces w b N) (hd : d ≤ N) (hc : CrsIn w c) (l1 : 1 ≤ c.L) (l2 : c.L ≤ N) :
    Calls Try.prog 64 #[.pointer (some ⟨b, 0, none⟩), .int .i64 d, c.val] w fun e w' => e = .returned (.agg (endsCells N d c.A c.R c.L)) ∧ Below w.heap.size w w' := by
  have h36 := hP.h36
  have hmx : Try.prog.follows .mixedOrders = true := by kernel_rfl
  have hlb := hP.lt
  have hga : c.ga < w.heap.size := cell_lt (hc.las 0 (by omega))
  have hgr : c.gr < w.heap.size := cell_lt (hc.lrs 0 (by omega))
  unfold Crs.val Crs.sa Crs.sr
  refine (callsIn_wide (n := 0)).1 ?_
  refine callsIn_of_wp_marks Try.func64 rfl trivial ?_ rfl
  simp only [Try.ntmps64, List.size_toArray, List.length_cons, List.length_nil, Nat.reduceAdd, Nat.reduceSub, Array.replicate_succ, Array.replicate_zero, List.push_toArray, List.append_toArray, List.nil_append, List.cons_append]
  gi_wp2
  obtain ⟨w0, hw0⟩ : ∃ w0, ((((((w.alloc (.cells #[.pointer (some ⟨b, 0, none⟩)] 88)).alloc (.cells #[.int .i64 d] 3)).alloc (.cells #[.slice (some ⟨c.ga, c.oa, none⟩) c.L c.ca, .slice (some ⟨c.gr, c.ro, none⟩) c.L c.cr] 42)).alloc (.cells Try.zeroCells114 114)).alloc (.cells Try.zeroCells114 114)).alloc (.cells openCells 91)) = w0 := ⟨_, rfl⟩
  have hw0' := hw0
  unfold openCells at hw0'
  rw [hw0']
  clear hw0'
  obtain ⟨wa, hwa⟩ : ∃ wa, w.alloc (.cells #[.pointer (some ⟨b, 0, none⟩)] 88) = wa := ⟨_, rfl⟩
  obtain ⟨wb, hwb⟩ : ∃ wb, wa.alloc (.cells #[.int .i64 d] 3) = wb := ⟨_, rfl⟩
  obtain ⟨wc, hwc⟩ : ∃ wc, wb.alloc (.cells #[c.sa, c.sr] 42) = wc := ⟨_, rfl⟩
  obtain ⟨wd, hwd⟩ : ∃ wd, wc.alloc (.cells Try.zeroCells114 114) = wd := ⟨_, rfl⟩
  obtain ⟨we, hwe⟩ : ∃ we, wd.alloc (.cells Try.zeroCells114 114) = we := ⟨_, rfl⟩
  have hwf : we.alloc (.cells openCells 91) = w0 := by rw [← hwe, ← hwd, ← hwc, ← hwb, ← hwa]; exact hw0
  clear hw0
  have sa : wa.heap.size = w.heap.size + 1 := by rw [← hwa]; simp
  have sb : wb.heap.size = w.heap.size + 1 + 1 := by rw [← hwb]; simp [sa]
  have sc : wc.heap.size = w.heap.size + 1 + 1 + 1 := by rw [← hwc]; simp [sb]
  have sd : wd.heap.size = w.heap.size + 1 + 1 + 1 + 1 := by rw [← hwd]; simp [sc]
  have se : we.heap.size = w.heap.size + 1 + 1 + 1 + 1 + 1 := by rw [← hwe]; simp [sd]
  have sf : w0.heap.size = w.heap.size + 6 := by rw [← hwf]; simp [se]
  have ba : Below w.heap.size w wa := by rw [← hwa]; exact (Below.refl _ _).alloc (Nat.le_refl _) _
  have bb : Below wa.heap.size wa wb := by rw [← hwb]; exact (Below.refl _ _).alloc (Nat.le_refl _) _
  have bc : Below wb.heap.size wb wc := by rw [← hwc]; exact (Below.refl _ _).alloc (Nat.le_refl _) _
  have bd : Below wc.heap.size wc wd := by rw [← hwd]; exact (Below.refl _ _).alloc (Nat.le_refl _) _
  have be : Below wd.heap.size wd we := by rw [← hwe]; exact (Below.refl _ _).alloc (Nat.le_refl _) _
  have bf : Below we.heap.size we w0 := by rw [← hwf]; exact (Below.refl _ _).alloc (Nat.le_refl _) _
  have be0 : Below wd.heap.size wd w0 := be.trans (bf.mono (by omega))
  have bd0 : Below wc.heap.size wc w0 := bd.trans (be0.mono (by omega))
  have bc0 : Below wb.heap.size wb w0 := bc.trans (bd0.mono (by omega))
  have bb0 : Below wa.heap.size wa w0 := bb.trans (bc0.mono (by omega))
  have bw0 : Below w.heap.size w w0 := ba.trans (bb0.mono (by omega))
  obtain ⟨z1, z2⟩ := all_zero zeros114
  have ha0 : w0.heap[w.heap.size]? = some (.cells #[.pointer (some ⟨b, 0, none⟩)] 88 (0, 0)) := by
    rw [bb0.block _ (by omega), ← hwa]; exact World.alloc_heap_new w _
  have hd0 : w0.heap[w.heap.size + 1]? = some (.cells #[.int .i64 d] 3 (0, 0)) := by
    rw [bc0.block _ (by omega), ← hwb, ← sa]; exact World.alloc_heap_new wa _
  have hC0 : CrsBox w0 (w.heap.size + 1 + 1) c := by
    have hcb : CrsIn wb c := (hc.after ba).after bb
    have := CrsBox.new hcb 42
    rw [hwc, sb] at this
    exact this.after bd0
  have hr0 : w0.heap[w.heap.size + 1 + 1 + 1]? = some (.cells Try.zeroCells114 114 (0, 0)) := by
    rw [be0.block _ (by omega), ← hwd, ← sc]; exact World.alloc_heap_new wc _
  have he0 : NumsAt w0 (w.heap.size + 1 + 1 + 1 + 1) 74 114 (tabE N d c.A c.R 0 0) := by
    have := NumsAt.new wd (t := 114) z1 z2
    rw [hwe, sd] at this
    exact (this.below bf (by omega)).fn (fun j _ => tabE_zero N d c.A c.R j)
  have ho0 : NumsAt w0 (w.heap.size + 1 + 1 + 1 + 1 + 1) 37 91 (opn c.A c.R 0) := by
    refine ⟨openCells, ?_, openCells_at.1, openCells_at.2 c.A c.R⟩
    rw [← hwf, ← se]; exact World.alloc_heap_new we _
  clear ba bb bc bd be bf be0 bd0 bc0 bb0 sa sb sc sd se hwa hwb hwc hwd hwe hwf z1 z2
  have hbs := bounds_any hC0.inn
  unfold Crs.val Crs.sa Crs.sr at hbs
  gi_wp2_with (refine ⟨trivial, rfl, ?_⟩; gi_at_call 65; refine (callsIn_wide.2 hbs).mono ?_; rintro e w' ⟨rfl, rfl⟩)
  have hI2 : EndsI w b d c (tabE N d c.A c.R 0 0) (opn c.A c.R 0) (w0.alloc (.cells #[c.sa, c.sr] 42)) := by
    have hb2 : Below w0.heap.size w0 (w0.alloc (.cells #[c.sa, c.sr] 42)) := (Below.refl _ _).alloc (Nat.le_refl _) _
    have hbx := CrsBox.new hC0.inn 42
    rw [sf] at hbx
    exact ⟨hbx, (hb2.block _ (by omega)).trans ha0, (hb2.block _ (by omega)).trans hd0, (hb2.block _ (by omega)).trans hr0, he0.below hb2 (by omega), ho0.below hb2 (by omega), bw0.trans (hb2.mono (by omega))⟩
  unfold Crs.sa Crs.sr at hI2
  have hs2 : (w0.alloc (.cells #[.slice (some ⟨c.ga, c.oa, none⟩) c.L c.ca, .slice (some ⟨c.gr, c.ro, none⟩) c.L c.cr] 42)).heap.size = w.heap.size + 7 := by simp [sf]
  revert hI2 hs2
  generalize w0.alloc (.cells #[.slice (some ⟨c.ga, c.oa, none⟩) c.L c.ca, .slice (some ⟨c.gr, c.ro, none⟩) c.L c.cr] 42) = w2
  intro hI2 hs2
  clear hbs ha0 hd0 hC0 hr0 he0 ho0 bw0 sf
  refine range_gives (gf := 72) (lb := #[.pointer (some ⟨w.heap.size + 6, 0, none⟩)]) rfl (enters_of Try.func72 (by kernel_rfl) rfl) (encs := encB) (xs := bnds c)
    (R := fun W => CrsBox W (w.heap.size + 6) c) (fun x => rfl) (fun W1' _ _ => bounds_gives (by omega) W1')
    (fun pre W => ∃ m, m ≤ c.L ∧ pre = bndTo c m ∧ EndsI w b d c (tabE N d c.A c.R m 0) (opn c.A c.R m) W)
    ?_ (fun pre W ⟨m, _, _, h⟩ => h.box) ⟨0, by omega, rfl, hI2⟩
    (fun x a' W => ∃ Bx, w2.heap.size + 2 ≤ Bx ∧ W.heap[Bx]? = some (.cells #[.int .i64 x.2.1, .int .i64 x.2.2] 121 (0, 0)) ∧ a' = { tmps := #[.pointer (some ⟨b, 0, none⟩), .int .i64 d, .agg #[Value.slice (some ⟨c.ga, c.oa, none⟩) c.L c.ca, Value.slice (some ⟨c.gr, c.ro, none⟩) c.L c.cr], .pointer (some ⟨w.heap.size, 0, none⟩), .pointer (some ⟨w.heap.size + 1, 0, none⟩), .pointer (some ⟨w.heap.size + 1 + 1, 0, none⟩), .pointer (some ⟨w.heap.size + 1 + 1 + 1, 0, none⟩), .pointer (some ⟨w.heap.size + 1 + 1 + 1 + 1, 0, none⟩), .pointer (some ⟨w.heap.size + 1 + 1 + 1 + 1 + 1, 0, none⟩), .int .i64 (x.1 : Nat), .pointer (some ⟨Bx, 0, none⟩), undef, undef, undef, .pointer (some ⟨w.heap.size + 1 + 1 + 1 + 1 + 1, 0, none⟩), .agg #[Value.slice (some ⟨c.ga, c.oa, none⟩) c.L c.ca, Value.slice (some ⟨c.gr, c.ro, none⟩) c.L c.cr], .func (.func 72) #[] #[.pointer (some ⟨w.heap.size + 6, 0, none⟩)], .int .i64 (x.1 : Nat), .agg #[.int .i64 x.2.1, .int .i64 x.2.2], undef, undef, undef, undef, undef, undef, undef, undef, undef, undef, undef, undef, undef, undef, undef, undef, undef, undef, undef, undef, undef, undef, undef, undef, undef, undef, undef, undef, undef, undef, undef, undef, undef, undef, undef, undef, undef, undef, undef, undef, undef, undef, undef, undef, undef, undef, undef, undef, undef, undef, undef, undef, undef, undef, undef, undef, undef, undef, undef, undef, undef], defers := [] })
    ?_ ?assign ?body ?done
  · rintro pre W W' ⟨m, k1, k2, k3⟩ hb
    exact ⟨m, k1, k2, k3.below hb (by omega) hga hgr⟩
  · rintro x a' W W' ⟨Bx, k1, k2, k3⟩ hf
    exact ⟨Bx, k1, (hf.2 Bx k1 (Array.getElem?_eq_some_iff.1 k2).1).trans k2, k3⟩
  case assign =>
    intro l2 pre x W K hi hsz2 hK
    simp only [encB]
    gi_wp2
    exact hK _ _ ((Below.refl _ W).alloc (Nat.le_refl _) _) ⟨W.heap.size, by omega, World.alloc_heap_new W _, rfl⟩
  case body =>
    rintro l2 pre x a' V ⟨m, k1, k2, k3⟩ ⟨Bx, hBx, hbx, rfl⟩ hsz2 ⟨post, hpost⟩
    have hmL : m < c.L ∧ x = bndAt c m := by
      subst k2
      rcases Nat.lt_or_ge m c.L with h | h
      · obtain ⟨rest, hr⟩ := bndTo_rest c h
        unfold bnds at hpost
        rw [hr] at hpost
        have := List.append_cancel_left hpost
        injection this with e1 e2
        exact ⟨h, e1.symm⟩
      · obtain rfl : m = c.L := by omega
        exfalso
        unfold bnds at hpost
        have := congrArg List.length hpost
        simp at this
    obtain ⟨hmL, hx⟩ := hmL
    obtain ⟨a, ha⟩ : ∃ a, Keep (c.A m = a) := ⟨_, ⟨rfl⟩⟩
    obtain ⟨r, hr⟩ : ∃ r, Keep (c.R m = r) := ⟨_, ⟨rfl⟩⟩
    subst hx
    simp only [bndAt] at hbx ⊢
    rw [ha.out, hr.out] at hbx ⊢
    have hJ0 : EndsJ w b d c (tabE N d c.A c.R m 0) (midA c.A c.R m (m + 1)) V V := ⟨by
      rw [show midA c.A c.R m (m + 1) = opn c.A c.R m from funext fun j => midA_start c.A c.R]; exact k3, From.refl _ _, rfl, rfl, rfl⟩
    have hBxV := (Array.getElem?_eq_some_iff.1 hbx).1
    obtain ⟨i, hi⟩ : ∃ i, Keep (m + 1 = i) := ⟨_, ⟨rfl⟩⟩
    have hi36 : i ≤ 36 := by have := hi.out; omega
    have hiN : i ≤ N := by have := hi.out; omega
    rw [hi.out] at hJ0 ⊢
    clear k3 hpost
    gi_wp2
    gi_loopw [11] (fun t wr => ∃ k : Nat, k ≤ i ∧ t = .int .i64 k ∧ EndsJ w b d c (tabE N d c.A c.R m 0) (midA c.A c.R m k) V wr) (fun t _ => (intOf t).toNat)
    case atStart => exact ⟨i, Nat.le_refl _, rfl, hJ0⟩
    case round =>
      obtain ⟨k, hk, rfl, hJ⟩ := hrel
      by_cases hk0 : 0 < k
      · obtain ⟨q, hq⟩ : ∃ q, Keep (k = q + 1) := ⟨k - 1, ⟨by omega⟩⟩
        have hqk : q < k := by have := hq.out; omega
        obtain ⟨a1, a2⟩ := hJ.i.o.cell (j := k) (by omega)
        obtain ⟨b1, b2⟩ := hJ.i.o.cell (j := q) (by omega)
        have e1 : midA c.A c.R m k k = opn c.A c.R m k := by unfold midA; rw [if_neg (by omega)]
        have e2 : midA c.A c.R m k q = opn c.A c.R m q := by unfold midA; rw [if_neg (by omega)]
        rw [e1] at a1
        rw [e2] at b1
        have l1 := Nat.le_trans (opn_le c.A c.R m k) (ch_le (n := m) (by have := hi.out; omega) k)
        have l2 := Nat.le_trans (opn_le c.A c.R m q) (ch_le (n := m) (by have := hi.out; omega) q)
        have hnx : Keep (nxt (opn c.A c.R m) k = opn c.A c.R m k + opn c.A c.R m q) := ⟨by unfold nxt; rw [if_neg (by omega), show k - 1 = q by have := hq.out; omega]⟩
        obtain ⟨u, hu⟩ : ∃ u, Keep (opn c.A c.R m k = u) := ⟨_, ⟨rfl⟩⟩
        obtain ⟨v, hv⟩ : ∃ v, Keep (opn c.A c.R m q = v) := ⟨_, ⟨rfl⟩⟩
        rw [hu.out] at a1 l1 hnx
        rw [hv.out] at b1 l2 hnx
        have hw1 : IntKind.i64.wrap ((k : Int) - 1) = (q : Int) := by rw [IntWalk.i64_in _ (by omega)]; have := hq.out; omega
        have hw2 : IntKind.i64.wrap ((u : Int) + (v : Int)) = (u : Int) + (v : Int) := IntWalk.i64_in _ (by omega)
        have g1 : k < 37 := by omega
        have g2 : q < 37 := by omega
        have g3 : (k : Int) < 37 := by omega
        have g4 : (q : Int) < 37 := by omega
        have g5 : (0 : Int) < (k : Int) := by omega
        clear e1 e2
        gi_wp2
        refine Manyd.region_round (Manyd.One wr.drew (wr.drew.setCell ⟨w.heap.size + 1 + 1 + 1 + 1 + 1, k, none⟩ (.int .i64 ((u : Int) + (v : Int)))) 9) hmx (by kernel_rfl) (by kernel_rfl) Manyd.one_ext (Manyd.one_start (by decide)) ?_
        refine Manyd.lex_want (by rfl) (Manyd.one_pu (by decide) (fun w => by (go_simp; try rfl))) ?_
        simp only [Act.put, List.setIfInBounds_toArray, List.set_cons_succ, List.set_cons_zero, Nat.reduceAdd]
        refine Manyd.lex_want (by rfl) (Manyd.one_rd (v := .pointer (some ⟨w.heap.size + 1 + 1 + 1 + 1 + 1, k, none⟩)) (by kernel_rfl) (by decide) (by (go_simp; (try (first | done | omega | (intros; omega)))))) ?_
        simp only [Act.put, List.setIfInBounds_toArray, List.set_cons_succ, List.set_cons_zero, Nat.reduceAdd]
        refine Manyd.lex_want (by rfl) (Manyd.one_rd (v := .int .i64 u) (by kernel_rfl) (by decide) (by (go_simp; try rfl))) ?_
        simp only [Act.put, List.setIfInBounds_toArray, List.set_cons_succ, List.set_cons_zero, Nat.reduceAdd]
        refine Manyd.lex_want (by rfl) (Manyd.one_pu (by decide) (fun w => by (go_simp; try rfl))) ?_
        simp only [Act.put, List.setIfInBounds_toArray, List.set_cons_succ, List.set_cons_zero, Nat.reduceAdd]
        refine Manyd.lex_want (by rfl) (Manyd.one_pu (v := .int .i64 q) (by decide) (fun w => by (go_simp; try exact hw1))) ?_
        simp only [Act.put, List.setIfInBounds_toArray, List.set_cons_succ, List.set_cons_zero, Nat.reduceAdd]
        refine Manyd.lex_want (by rfl) (Manyd.one_rd (v := .pointer (some ⟨w.heap.size + 1 + 1 + 1 + 1 + 1, q, none⟩)) (by kernel_rfl) (by decide) (by (go_simp; (try (first | done | omega | (intros; omega)))))) ?_
        simp only [Act.put, List.setIfInBounds_toArray, List.set_cons_succ, List.set_cons_zero, Nat.reduceAdd]
        refine Manyd.lex_want (by rfl) (Manyd.one_rd (v := .int .i64 v) (by kernel_rfl) (by decide) (by (go_simp; try rfl))) ?_
        simp only [Act.put, List.setIfInBounds_toArray, List.set_cons_succ, List.set_cons_zero, Nat.reduceAdd]
        refine Manyd.lex_want (by rfl) (Manyd.one_pu (v := .int .i64 ((u : Int) + (v : Int))) (by decide) (fun w => by (go_simp; try exact hw2))) ?_
        simp only [Act.put, List.setIfInBounds_toArray, List.set_cons_succ, List.set_cons_zero, Nat.reduceAdd]
        refine Manyd.lex_want (by rfl) (Manyd.one_rd (v := .pointer (some ⟨w.heap.size + 1 + 1 + 1 + 1 + 1, k, none⟩)) (by kernel_rfl) (by decide) (by (go_simp; (try (first | done | omega | (intros; omega)))))) ?_
        simp only [Act.put, List.setIfInBounds_toArray, List.set_cons_succ, List.set_cons_zero, Nat.reduceAdd]
        refine Manyd.lex_want (by rfl) (Manyd.one_st (v := undef) (by (go_simp; try exact ⟨rfl, rfl⟩))) ?_
        simp only [Act.put, List.setIfInBounds_toArray, List.set_cons_succ, List.set_cons_zero, Nat.reduceAdd]
        refine Manyd.lex_nil fun s W' hs hC => ?_
        obtain rfl := Manyd.one_end (by decide) hs hC
        clear hC hs
        gi_wp2
        refine ⟨⟨q, by omega, by try rfl, ?_⟩, by simp [intOf]; omega⟩
        have := (hJ.drewN 1).setO hga hgr (p := k) (x := u + v) (O' := midA c.A c.R m q) g1 (by unfold midA; rw [if_pos hqk, hnx.out]) (fun j hj => by
          have := midA_off c.A c.R (m := m) (k := q) (j := j) (by have := hq.out; omega)
          rwa [← hq.out] at this)
        rw [show ((u + v : Nat) : Int) = (u : Int) + (v : Int) by push_cast; rfl] at this
        exact this
      · obtain rfl : k = 0 := by omega
        have hJ1 : EndsJ w b d c (tabE N d c.A c.R m 0) (midB c.A c.R m 0) V wr := hJ.fn (fun _ => rfl) (fun j => (midA_end c.A c.R).symm)
        clear hJ
        gi_wp2
        gi_loopw [35] (fun t wr2 => ∃ k : Nat, k ≤ i + 1 ∧ t = .int .i64 k ∧ EndsJ w b d c (tabE N d c.A c.R m k) (midB c.A c.R m k) V wr2) (fun t _ => i + 1 - (intOf t).toNat)
        case atStart => exact ⟨0, by omega, rfl, hJ1⟩
        case round =>
          obtain ⟨k, hk, rfl, hJ⟩ := hrel
          by_cases hk1 : k < i + 1
          · obtain ⟨a1, a2⟩ := hJ.i.o.cell (j := k) (by omega)
            have e1 : midB c.A c.R m k k = nxt (opn c.A c.R m) k := by unfold midB; rw [if_neg (by omega)]
            rw [e1] at a1
            have hP2 : Pieces wr b N := hP.below hJ.i.bw hlb
            have hch := ch_le h36 d
            have l1 := Nat.le_trans (nxt_le_ch c.A c.R m k) (ch_le (n := m + 1) (by have := hi.out; omega) k)
            have l2 := wy_ch N d c.A c.R (i := m) (by have := hi.out; omega) k
            have hbe : ∀ m', Calls Try.prog 70 #[.pointer (some ⟨b, 0, none⟩), .int .i64 i, .int .i64 ((d : Int) - (k : Int))] (wr.drewN m') fun e w' => e = .returned (.int .i64 (chZ (N - i) ((d : Int) - (k : Int)) : Nat)) ∧ ∃ m'', w' = wr.drewN m'' := fun m' =>
              (behind_any (hP2.drewN m') hiN ⟨by omega, by omega⟩).mono fun e w' h => ⟨h.1, by obtain ⟨m'', hm'⟩ := h.2; exact ⟨m' + m'', by rw [hm', drewN_add]⟩⟩
            have hwy : wy N d c.A c.R m k = nxt (opn c.A c.R m) k * chZ (N - i) ((d : Int) - (k : Int)) := by unfold wy; rw [hi.out]
            have hwyk := Keep.mk hwy
            obtain ⟨x, hx⟩ : ∃ x, Keep (nxt (opn c.A c.R m) k = x) := ⟨_, ⟨rfl⟩⟩
            obtain ⟨y, hy⟩ : ∃ y, Keep (chZ (N - i) ((d : Int) - (k : Int)) = y) := ⟨_, ⟨rfl⟩⟩
            obtain ⟨z, hz⟩ : ∃ z, Keep (wy N d c.A c.R m k = z) := ⟨_, ⟨rfl⟩⟩
            rw [hx.out, hy.out, hz.out] at hwyk
            rw [hx.out] at a1 l1
            rw [hy.out] at hbe
            rw [hz.out] at l2
            have hw1 : IntKind.i64.wrap ((d : Int) - (k : Int)) = (d : Int) - (k : Int) := IntWalk.i64_in _ (by omega)
            have hw2 : IntKind.i64.wrap ((x : Int) * (y : Int)) = (z : Int) := by rw [← Int.natCast_mul, ← hwyk.out, IntWalk.i64_in _ (by omega)]
            have g1 : k < 37 := by omega
            have g2 : (k : Int) < 37 := by omega
            have g3 : (k : Int) < (i : Int) + 1 := by omega
            have p0 : wr.cell? ⟨w.heap.size, 0, none⟩ = some (.pointer (some ⟨b, 0, none⟩)) := by simp [World.cell?, hJ.i.p]
            have p1 : wr.cell? ⟨w.heap.size + 1, 0, none⟩ = some (.int .i64 d) := by simp [World.cell?, hJ.i.dd]
            clear hwy e1
            gi_wp2
            refine Manyd.region_round (Manyd.Qt wr) hmx (by kernel_rfl) (by kernel_rfl) Manyd.qt_ext Manyd.qt_start ?_
            refine Manyd.lex_want (by rfl) (Manyd.qt_rd (v := .int .i64 k) (fun n => by (go_simp; (try (first | done | rfl | omega | (intros; omega)))))) ?_
            simp only [Act.put, List.setIfInBounds_toArray, List.set_cons_succ, List.set_cons_zero, Nat.reduceAdd]
            refine Manyd.lex_want (by rfl) (Manyd.qt_rd (v := .pointer (some ⟨w.heap.size + 1 + 1 + 1 + 1 + 1, k, none⟩)) (fun n => by (go_simp; (try (first | done | rfl | omega | (intros; omega)))))) ?_
            simp only [Act.put, List.setIfInBounds_toArray, List.set_cons_succ, List.set_cons_zero, Nat.reduceAdd]
            refine Manyd.lex_want (by rfl) (Manyd.qt_rd (v := .int .i64 x) (fun n => by (go_simp; (try (first | done | rfl | omega | (intros; omega)))))) ?_
            simp only [Act.put, List.setIfInBounds_toArray, List.set_cons_succ, List.set_cons_zero, Nat.reduceAdd]
            refine Manyd.lex_want (by rfl) (Manyd.qt_rd (v := .pointer (some ⟨b, 0, none⟩)) (fun n => by (go_simp; (try (first | done | rfl | omega | (intros; omega)))))) ?_
            simp only [Act.put, List.setIfInBounds_toArray, List.set_cons_succ, List.set_cons_zero, Nat.reduceAdd]
            refine Manyd.lex_want (by rfl) (Manyd.qt_rd (v := .int .i64 i) (fun n => by (go_simp; (try (first | done | rfl | omega | (intros; omega)))))) ?_
            simp only [Act.put, List.setIfInBounds_toArray, List.set_cons_succ, List.set_cons_zero, Nat.reduceAdd]
            refine Manyd.lex_want (by rfl) (Manyd.qt_rd (v := .int .i64 d) (fun n => by (go_simp; (try (first | done | rfl | omega | (intros; omega)))))) ?_
            simp only [Act.put, List.setIfInBounds_toArray, List.set_cons_succ, List.set_cons_zero, Nat.reduceAdd]
            refine Manyd.lex_want (by rfl) (Manyd.qt_rd (v := .int .i64 k) (fun n => by (go_simp; (try (first | done | rfl | omega | (intros; omega)))))) ?_
            simp only [Act.put, List.setIfInBounds_toArray, List.set_cons_succ, List.set_cons_zero, Nat.reduceAdd]
            refine Manyd.lex_want (by rfl) (Manyd.qt_rd (v := .int .i64 ((d : Int) - (k : Int))) (fun n => by (go_simp; (try (first | done | rfl | omega | (intros; omega)))))) ?_
            simp only [Act.put, List.setIfInBounds_toArray, List.set_cons_succ, List.set_cons_zero, Nat.reduceAdd]
            refine Manyd.lex_want (by rfl) (Manyd.qt_call (v := .int .i64 y) (fun n => by (go_simp; try rfl)) hbe) ?_
            simp only [Act.put, List.setIfInBounds_toArray, List.set_cons_succ, List.set_cons_zero, Nat.reduceAdd]
            refine Manyd.lex_want (by rfl) (Manyd.qt_rd (v := .int .i64 z) (fun n => by (go_simp; (try (first | done | rfl | omega | (intros; omega)))))) ?_
            simp only [Act.put, List.setIfInBounds_toArray, List.set_cons_succ, List.set_cons_zero, Nat.reduceAdd]
            refine Manyd.lex_want (by rfl) (Manyd.qt_rd (v := .int .i64 z) (fun n => by (go_simp; (try (first | done | rfl | omega | (intros; omega)))))) ?_
            simp only [Act.put, List.setIfInBounds_toArray, List.set_cons_succ, List.set_cons_zero, Nat.reduceAdd]
            refine Manyd.lex_nil fun s W' hs hC => ?_
            obtain ⟨nq, rfl⟩ := hC
            clear hs
            have hJ2 := hJ.drewN nq
            revert hJ2
            generalize wr.drewN nq = W2
            intro hJ2
            have hbx2 := (hJ2.fr.2 Bx (by omega) hBxV).trans hbx
            have c0 : W2.cell? ⟨Bx, 0, none⟩ = some (.int .i64 a) := by simp [World.cell?, hbx2]
            have c1 : W2.cell? ⟨Bx, 1, none⟩ = some (.int .i64 r) := by simp [World.cell?, hbx2]
            obtain ⟨o1, o2⟩ := hJ2.i.o.cell (j := k) (by omega)
            obtain ⟨s1, s2⟩ := hJ2.i.e.cell (j := i) (by omega)
            obtain ⟨t1, t2⟩ := hJ2.i.e.cell (j := 37 + i) (by omega)
            have hbo := both_ch N d c.A c.R (i := m) (by have := hi.out; omega) k
            have hbo2 := both_ch N d c.A c.R (i := m) (by have := hi.out; omega) (k + 1)
            obtain ⟨E1, E2⟩ := tabE_at N d c.A c.R (m := m) (k := k) (j := 0) (by have := hi.out; omega)
            obtain ⟨E3, E4⟩ := tabE_at N d c.A c.R (m := m) (k := k + 1) (j := 0) (by have := hi.out; omega)
            rw [hi.out] at E1 E2 E3 E4
            rw [E1] at s1
            rw [E2] at t1
            have hm37 : Keep (m + 1 < 37) := ⟨by have := hi.out; omega⟩
            have hY : Keep (yesTo N d c.A c.R m (k + 1) = yesTo N d c.A c.R m k + (if (k : Int) ≤ c.A m then wy N d c.A c.R m k else 0)) := ⟨rfl⟩
            have hN : Keep (noTo N d c.A c.R m (k + 1) = noTo N d c.A c.R m k + (if (k : Int) ≤ c.A m then 0 else if c.R m ≤ (k : Int) then wy N d c.A c.R m k else 0)) := ⟨rfl⟩
            obtain ⟨Y, hYk⟩ : ∃ Y, Keep (yesTo N d c.A c.R m k = Y) := ⟨_, ⟨rfl⟩⟩
            obtain ⟨Z, hZk⟩ : ∃ Z, Keep (noTo N d c.A c.R m k = Z) := ⟨_, ⟨rfl⟩⟩
            rw [hYk.out] at s1 hY hbo
            rw [hZk.out] at t1 hN hbo
            rw [hz.out, ha.out] at hY
            rw [hz.out, ha.out, hr.out] at hN
            have h1 : i < 37 := by omega
            have h2 : (i : Int) < 37 := by omega
            have w1 : IntKind.i64.wrap ((Y : Int) + (z : Int)) = (Y : Int) + (z : Int) := IntWalk.i64_in _ (by omega)
            have w2' : IntKind.i64.wrap ((Z : Int) + (z : Int)) = (Z : Int) + (z : Int) := IntWalk.i64_in _ (by omega)
            have hyes := fun h => tabE_yes N d c.A c.R (m := m) (k := k) hm37.out h
            have hno := fun h => tabE_no N d c.A c.R (m := m) (k := k) hm37.out h
            have hnone := fun h h' => tabE_none N d c.A c.R (m := m) (k := k) hm37.out h h'
            have hcut := fun h => midB_cut c.A c.R (m := m) (k := k) h
            have hkeep := fun h h' => midB_keep c.A c.R (m := m) (k := k) h h'
            rw [ha.out] at hyes hno hnone
            rw [hr.out] at hnone
            rw [ha.out, hr.out] at hcut hkeep
            rw [hi.out] at hyes hno
            have K1 := Keep.mk hyes
            have K2 := Keep.mk hno
            have K3 := Keep.mk hnone
            have K4 := Keep.mk hcut
            have K5 := Keep.mk hkeep
            have K6 := Keep.mk E3
            have K7 := Keep.mk E4
            clear hyes hno hnone hcut hkeep E1 E2 E3 E4 hbo2 l1 l2 hbo hbe hJ
            by_cases hA : (k : Int) ≤ a
            · gi_wp2
              have hY2 := hY.out
              rw [if_pos hA] at hY2
              have q1 := hJ2.setE hga hgr (p := i) (x := Y + z) (E' := tabE N d c.A c.R m (k + 1)) (by omega) (by rw [K6.out, hY2]) (K1.out hA)
              have q2 := q1.setO hga hgr (p := k) (x := 0) (O' := midB c.A c.R m (k + 1)) g1 (K4.out (.inl hA)) (fun j hj => midB_off c.A c.R hj)
              rw [show ((Y + z : Nat) : Int) = (Y : Int) + (z : Int) by push_cast; rfl] at q2
              exact ⟨⟨k + 1, by omega, by go_num, q2⟩, by simp [intOf]; omega⟩
            · by_cases hR : r ≤ (k : Int)
              · gi_wp2
                have hN2 := hN.out
                rw [if_neg hA, if_pos hR] at hN2
                have q1 := hJ2.setE hga hgr (p := 37 + i) (x := Z + z) (E' := tabE N d c.A c.R m (k + 1)) (by omega) (by rw [K7.out, hN2]) (K2.out hA)
                have q2 := q1.setO hga hgr (p := k) (x := 0) (O' := midB c.A c.R m (k + 1)) g1 (K4.out (.inr hR)) (fun j hj => midB_off c.A c.R hj)
                rw [show ((Z + z : Nat) : Int) = (Z : Int) + (z : Int) by push_cast; rfl] at q2
                exact ⟨⟨k + 1, by omega, by go_num, q2⟩, by simp [intOf]; omega⟩
              · gi_wp2
                exact ⟨⟨k + 1, by omega, by go_num, hJ2.fn (K3.out hA hR) (K5.out hA hR)⟩, by simp [intOf]; omega⟩
          · obtain rfl : k = i + 1 := by omega
            have g3 : ¬ ((i + 1 : Nat) : Int) < (i : Int) + 1 := by omega
            have hJ3 : EndsJ w b d c (tabE N d c.A c.R (m + 1) 0) (opn c.A c.R (m + 1)) V wr := hJ.fn
              (fun j => by rw [← hi.out]; exact (tabE_step N d c.A c.R m j).symm) (fun j => by rw [← hi.out]; exact (midB_end c.A c.R).symm)
            clear hJ
            gi_wp2
            refine ⟨⟨m + 1, by omega, ?_, hJ3.i⟩, by exact hJ3.fr, hJ3.ot⟩
            rw [bndTo_succ]
            unfold bndAt
            rw [ha.out, hr.out, hi.out]
  case done =>
    rintro W ⟨m, k1, k2, k3⟩ hszW hD
    have hmL : m = c.L := by
      have := congrArg List.length k2
      simp [bnds, bndTo] at this
      omega
    subst hmL
    obtain ⟨cs, he1, he2, he3⟩ := k3.e
    have hcs : cs = endsCells N d c.A c.R c.L := by
      apply Array.ext
      · simp [endsCells, he2]
      · intro j h1 h2
        have := he3 j (by omega)
        rw [Array.getElem?_eq_getElem h1] at this
        rw [Option.some.inj this]
        simp [endsCells]
    rw [hcs] at he1
    have hr1 := k3.res
    have hb1 := k3.bw
    clear k2 he3 hcs k3
    have hu : Try.prog.underlying 114 = some (.struct (Try.prog.fieldsOf 114)) := by kernel_rfl
    have hi114 : (Try.prog.info? 114).map (·.size) = some (endsCells N d c.A c.R c.L).size := by
      rw [show (endsCells N d c.A c.R c.L).size = 74 by simp [endsCells]]; kernel_rfl
    have hone : (endsCells N d c.A c.R c.L).all (·.oneCell') = true := by
      rw [Array.all_eq_true]
      intro j hj
      simp [endsCells, Value.oneCell']
    have hsz : Try.zeroCells114.size = (endsCells N d c.A c.R c.L).size := by rw [show (endsCells N d c.A c.R c.L).size = 74 by simp [endsCells]]; kernel_rfl
    gi_upto_region 22 with fail
    refine wpIn_wide.2 ?_
    go_wp2_with (first | (refine wpList_load_row rfl 114 _ rfl (w.heap.size + 1 + 1 + 1 + 1) rfl 114 _ (0, 0) _ he1 hu rfl hi114 ?_) | (refine wpList_store_row rfl 114 _ _ rfl (w.heap.size + 1 + 1 + 1) _ rfl rfl 114 _ hr1 hi114 hsz hone ?_))
    have hD2 := (setRow_other W (w.heap.size + 1 + 1 + 1) w2.heap.size (endsCells N d c.A c.R c.L) (by omega)).trans hD
    have r0 := setRow_heap W (w.heap.size + 1 + 1 + 1) _ (endsCells N d c.A c.R c.L) 114 (0, 0) hr1
    have hbW : Below w.heap.size w (W.setRow (w.heap.size + 1 + 1 + 1) (endsCells N d c.A c.R c.L)) := below_setRow hb1 (by omega) _
    have hsW : w.heap.size + 1 + 1 + 1 < (W.setRow (w.heap.size + 1 + 1 + 1) (endsCells N d c.A c.R c.L)).heap.size := by rw [setRow_size]; omega
    revert hD2 r0 hbW hsW
    generalize W.setRow (w.heap.size + 1 + 1 + 1) (endsCells N d c.A c.R c.L) = W3
    intro hD2 r0 hbW hsW
    have hlaid : Laid [w2.heap.size] w2.heap.size W3 := ⟨by simp, by simp only [List.mem_singleton]; rintro D rfl; exact ⟨Nat.le_refl _, hD2⟩⟩
    simp only [Act.put, List.setIfInBounds_toArray, List.set_cons_succ, List.set_cons_zero, Nat.reduceAdd]
    gi_wp2
    refine leaves_marks [w2.heap.size] W3 hlaid fun w' hb' => ⟨.agg (endsCells N d c.A c.R c.L), ?_, rfl, hbW.trans (hb'.mono (by omega))⟩
    have r1 := (hb'.block (w.heap.size + 1 + 1 + 1) (by omega)).trans r0
    exact results_cell_row rfl _ _ (w.heap.size + 1 + 1 + 1) 114 _ (0, 0) _ rfl r1 hu rfl hi114
end Go.Proofs.Ytbmfipjnfbnjgaa
