import Derived.Test.YteekigpdiklppaaProg
import Derived.Test.YteekigpdiklppaaSeqJ
import Derived.WalkKit
import Derived.WalkSpells
import Derived.BigQuiet
import Derived.Deep.QuietTactic
import Derived.Deep.RegionWith
import Derived.BigRegion
import Derived.StillTailTactics
import Derived.Shelf.Abstract
import Derived.Shelf.RegionOpen
import Derived.OwnWalkIn
import Derived.TacticsInMore
import Derived.LoopNIn
import Derived.LoopIn
set_option linter.unusedSimpArgs false
set_option linter.unusedVariables false
namespace Go.Proofs.Yteekigpdiklppaa
open Go Go.Proofs Go.RowKit Go.Seq
attribute [local go_sem] Oper.semAt_some
structure Keep (p : Prop) : Prop where
  out : p
/-- A set of places, as its twelve Bools. -/
def sc (s : Nat → Bool) : Array Value := #[.bool (s 0), .bool (s 1), .bool (s 2), .bool (s 3), .bool (s 4), .bool (s 5), .bool (s 6), .bool (s 7), .bool (s 8), .bool (s 9), .bool (s 10), .bool (s 11)]
def setV (s : Nat → Bool) : Value := .agg (sc s)
theorem sc_at (s : Nat → Bool) : ∀ k, k < 12 → (sc s)[k]? = some (.bool (s k)) := by
  intro k hk
  match k, hk with
  | 0, _ => rfl | 1, _ => rfl | 2, _ => rfl | 3, _ => rfl | 4, _ => rfl | 5, _ => rfl | 6, _ => rfl | 7, _ => rfl | 8, _ => rfl | 9, _ => rfl | 10, _ => rfl | 11, _ => rfl
def SetAt (W : World) (b : Nat) (s : Nat → Bool) : Prop := W.heap[b]? = some (.cells (sc s) 79 (0, 0))
theorem SetAt.cell {W : World} {b : Nat} {s : Nat → Bool} (h : SetAt W b s) {k : Nat} (hk : k < 12) : W.cell? ⟨b, k, none⟩ = some (.bool (s k)) ∧ W.frozen? ⟨b, k, none⟩ = false := by
  unfold SetAt at h
  exact ⟨by simp only [World.cell?, h]; exact sc_at s k hk, by simp [World.frozen?, h]⟩
theorem SetAt.lt {W : World} {b : Nat} {s : Nat → Bool} (h : SetAt W b s) : b < W.heap.size := (Array.getElem?_eq_some_iff.1 h).1
theorem SetAt.below {W W' : World} {B b : Nat} {s : Nat → Bool} (h : SetAt W b s) (hb : Below B W W') (hl : b < B) : SetAt W' b s := (hb.block b hl).trans h
theorem SetAt.after {W W' : World} {b : Nat} {s : Nat → Bool} (h : SetAt W b s) (hb : Below W.heap.size W W') : SetAt W' b s := h.below hb h.lt
theorem SetAt.new (W : World) (s : Nat → Bool) : SetAt (W.alloc (.cells (sc s) 79)) W.heap.size s := World.alloc_heap_new W _
set_option maxRecDepth 100000 in
theorem idx49 (s : Nat → Bool) (k : Nat) (hk : k < 12) (w : World) : (Instr.index 79 (.agg (sc s)) (.int .i64 k)).run Try.prog w = .ok (.bool (s k)) w := by
  have h3 := Try.isAgg4
  have z3 := Try.sizeOf4
  have u := Try.underlying79
  have e := sc_at s k hk
  have hz : (sc s).size = 12 := rfl
  match k, hk with
  | 0, _ => simp [Instr.index, run_underlying u, asIntOf, go_sem, sc]
  | 1, _ => simp [Instr.index, run_underlying u, asIntOf, go_sem, sc]
  | 2, _ => simp [Instr.index, run_underlying u, asIntOf, go_sem, sc]
  | 3, _ => simp [Instr.index, run_underlying u, asIntOf, go_sem, sc]
  | 4, _ => simp [Instr.index, run_underlying u, asIntOf, go_sem, sc]
  | 5, _ => simp [Instr.index, run_underlying u, asIntOf, go_sem, sc]
  | 6, _ => simp [Instr.index, run_underlying u, asIntOf, go_sem, sc]
  | 7, _ => simp [Instr.index, run_underlying u, asIntOf, go_sem, sc]
  | 8, _ => simp [Instr.index, run_underlying u, asIntOf, go_sem, sc]
  | 9, _ => simp [Instr.index, run_underlying u, asIntOf, go_sem, sc]
  | 10, _ => simp [Instr.index, run_underlying u, asIntOf, go_sem, sc]
  | 11, _ => simp [Instr.index, run_underlying u, asIntOf, go_sem, sc]
set_option maxRecDepth 100000 in
theorem vertices_any (s : Nat → Bool) (w : World) : Calls Try.prog 62 #[setV s] w fun e w' => e = .returned (.func (.func 83) #[] #[.pointer (some ⟨w.heap.size, 0, none⟩)]) ∧ w' = w.alloc (.cells (sc s) 79) := by
  unfold setV sc
  go_enter Try.func62, Try.ntmps62
  go_wp2
  go_ret
  exact ⟨rfl, rfl⟩
/-- The places of a set, in ascending order, up to k. -/
def vsTo (s : Nat → Bool) (k : Nat) : List Nat := (List.range k).filter s
theorem vsTo_succ (s : Nat → Bool) (k : Nat) : vsTo s (k + 1) = if s k = true then vsTo s k ++ [k] else vsTo s k := by
  unfold vsTo
  rw [List.range_succ, List.filter_append]
  by_cases h : s k = true
  · simp [h]
  · simp [h]
theorem vsTo_rest (s : Nat → Bool) {k : Nat} (hs : s k = true) : ∀ {M}, k < M → ∃ rest, vsTo s M = vsTo s k ++ k :: rest
  | 0, h => by omega
  | M + 1, h => by
    by_cases e : k = M
    · subst e; exact ⟨[], by rw [vsTo_succ, if_pos hs]⟩
    · obtain ⟨rest, hr⟩ := vsTo_rest s hs (M := M) (by omega)
      rw [vsTo_succ]
      split
      · exact ⟨rest ++ [M], by rw [hr]; simp⟩
      · exact ⟨rest, hr⟩
def encK (k : Nat) : Array Value := #[.int .i64 k]
set_option maxHeartbeats 1000000 in
set_option maxRecDepth 100000 in
theorem vertices_gives {b : Nat} {s : Nat → Bool} (W1 : World) :
    Stp.GivesS Try.prog 83 #[.pointer (some ⟨b, 0, none⟩)] encK (vsTo s 12) (fun W => SetAt W b s) W1 := by
  intro l gs J hJ hR hY h0
  have hS := hR _ _ h0
  obtain ⟨c0, _⟩ := hS.cell (k := 0) (by omega)
  obtain ⟨c1, _⟩ := hS.cell (k := 1) (by omega)
  obtain ⟨c2, _⟩ := hS.cell (k := 2) (by omega)
  obtain ⟨c3, _⟩ := hS.cell (k := 3) (by omega)
  obtain ⟨c4, _⟩ := hS.cell (k := 4) (by omega)
  obtain ⟨c5, _⟩ := hS.cell (k := 5) (by omega)
  obtain ⟨c6, _⟩ := hS.cell (k := 6) (by omega)
  obtain ⟨c7, _⟩ := hS.cell (k := 7) (by omega)
  obtain ⟨c8, _⟩ := hS.cell (k := 8) (by omega)
  obtain ⟨c9, _⟩ := hS.cell (k := 9) (by omega)
  obtain ⟨c10, _⟩ := hS.cell (k := 10) (by omega)
  obtain ⟨c11, _⟩ := hS.cell (k := 11) (by omega)
  refine callsIn_of_wp Try.func83 rfl trivial ?_ rfl
  simp only [Try.ntmps83, List.size_toArray, List.length_cons, List.length_nil, Nat.reduceAdd, Nat.reduceSub, Array.replicate_succ, Array.replicate_zero, List.push_toArray, List.append_toArray, List.nil_append, List.cons_append]
  gi_wp2
  clear c0 c1 c2 c3 c4 c5 c6 c7 c8 c9 c10 c11
  gi_loopw [6] (fun i wr => ∃ k : Nat, k ≤ 12 ∧ i = .int .i64 k ∧ J (vsTo s k) wr ∧ Stp.going gs (vsTo s k) ∧ W1.heap.size ≤ wr.heap.size) (fun i _ => 12 - (intOf i).toNat)
  case atStart => exact ⟨0, by omega, rfl, by simpa [vsTo] using h0, by simpa [vsTo] using Stp.going_nil gs, by simp⟩
  case round =>
    obtain ⟨k, hk, rfl, hj, hgo, hsz⟩ := hrel
    have hw1 : IntKind.i64.wrap ((k : Int) + 1) = (k : Int) + 1 := IntWalk.i64_in _ (by omega)
    by_cases hlt : k < 12
    · have hlt' : (k : Int) < 12 := by omega
      have hidx := fun w => idx49 s k hlt w
      unfold sc at hidx
      cases hs : s k with
      | true =>
        rw [hs] at hidx
        obtain ⟨z, hz⟩ : ∃ z, gs (vsTo s k) k = z := ⟨_, rfl⟩
        obtain ⟨fn, tmps, assign, body, hy, hRd⟩ := hY (vsTo s k) k wr hj hgo hsz (vsTo_rest s hs hlt)
        unfold encK at hy
        gi_wp2
        refine ⟨rfl, hRd.mono ?_⟩
        rintro e w5 ⟨rfl, hj5, hf5, _⟩
        rw [hz]
        have hsz5 := Nat.le_trans hsz hf5.1
        cases z with
        | true =>
          gi_wp2
          exact ⟨⟨k + 1, by omega, by go_num, by rw [vsTo_succ, if_pos hs]; exact hj5, by rw [vsTo_succ, if_pos hs]; exact Stp.going_snoc.2 ⟨hgo, hz⟩, hsz5⟩, by simp [intOf]; omega⟩
        | false =>
          obtain ⟨rest, hrest⟩ := vsTo_rest s hs hlt
          gi_wp2
          refine bodyPost_ret (results_none rfl _ _ _) rfl ?_
          exact ⟨⟨_, rfl⟩, ⟨_, hj5, .inr ⟨vsTo s k, k, rest, hrest, rfl, hgo, hz⟩⟩, hsz5⟩
      | false =>
        rw [hs] at hidx
        gi_wp2
        refine ⟨fun f hf => (by cases hf), ?_⟩
        gi_wp2
        exact ⟨⟨k + 1, by omega, by go_num, by rw [vsTo_succ, hs]; exact hj, by rw [vsTo_succ, hs]; exact hgo, hsz⟩, by simp [intOf]; omega⟩
    · have : k = 12 := by omega
      subst this
      gi_wp2
      go_end0
      exact ⟨⟨_, rfl⟩, ⟨_, hj, .inl ⟨rfl, hgo⟩⟩, hsz⟩
end Go.Proofs.Yteekigpdiklppaa
set_option linter.unusedSimpArgs false
set_option linter.unusedVariables false
namespace Go.Proofs.Yteekigpdiklppaa
open Go Go.Proofs Go.RowKit Go.Seq
theorem heap_set {W : World} {b : Nat} {a : Array Value} {t : TypeId} (h : W.heap[b]? = some (.cells a t (0, 0))) {i : Nat} (v : Value) : (W.setCell ⟨b, i, none⟩ v).heap[b]? = some (.cells (a.setIfInBounds i v) t (0, 0)) := by
  obtain ⟨hlt, hk⟩ := Array.getElem?_eq_some_iff.1 h
  simp only [World.setCell]
  rw [Array.getElem?_eq_getElem (by rw [Array.size_modify]; exact hlt), Array.getElem_modify_self, hk]
  simp
theorem sc_size (s : Nat → Bool) : (sc s).size = 12 := rfl
theorem sc_ext {s s' : Nat → Bool} (h : ∀ j, j < 12 → s' j = s j) : sc s' = sc s := by
  apply Array.ext (by rfl)
  intro i h1 h2
  have hi : i < 12 := h1
  have e1 := sc_at s' i hi
  have e2 := sc_at s i hi
  rw [Array.getElem?_eq_getElem h1] at e1
  rw [Array.getElem?_eq_getElem h2] at e2
  injection e1 with e1
  injection e2 with e2
  rw [e1, e2, h i hi]
theorem SetAt.set {W : World} {b k : Nat} {s s' : Nat → Bool} {v : Bool} (h : SetAt W b s) (hk : k < 12) (hv : s' k = v) (he : ∀ j, j < 12 → j ≠ k → s' j = s j) : SetAt (W.setCell ⟨b, k, none⟩ (.bool v)) b s' := by
  unfold SetAt
  rw [heap_set h]
  have e : (sc s).setIfInBounds k (.bool v) = sc s' := by
    apply Array.ext_getElem?
    intro i
    by_cases hi : i < 12
    · rw [sc_at s' i hi]
      by_cases e : i = k
      · subst e; simp [hv, sc_size, hi]
      · rw [Array.getElem?_setIfInBounds_ne (by omega), sc_at s i hi, he i hi e]
    · rw [Array.getElem?_eq_none (by rw [Array.size_setIfInBounds, sc_size]; omega), Array.getElem?_eq_none (by rw [sc_size]; omega)]
  rw [e]
theorem SetAt.other {W : World} {b g k : Nat} {s : Nat → Bool} {u : Value} (h : SetAt W b s) (hne : b ≠ g) : SetAt (W.setCell ⟨g, k, none⟩ u) b s := (Below.heap_setCell W ⟨g, k, none⟩ u b hne).trans h
/-- A set in a variable, as the walk asks for it. -/
structure Cells12 (W : World) (b : Nat) (s : Nat → Bool) : Prop where
  c0 : W.cell? ⟨b, 0, none⟩ = some (.bool (s 0))
  c1 : W.cell? ⟨b, 1, none⟩ = some (.bool (s 1))
  c2 : W.cell? ⟨b, 2, none⟩ = some (.bool (s 2))
  c3 : W.cell? ⟨b, 3, none⟩ = some (.bool (s 3))
  c4 : W.cell? ⟨b, 4, none⟩ = some (.bool (s 4))
  c5 : W.cell? ⟨b, 5, none⟩ = some (.bool (s 5))
  c6 : W.cell? ⟨b, 6, none⟩ = some (.bool (s 6))
  c7 : W.cell? ⟨b, 7, none⟩ = some (.bool (s 7))
  c8 : W.cell? ⟨b, 8, none⟩ = some (.bool (s 8))
  c9 : W.cell? ⟨b, 9, none⟩ = some (.bool (s 9))
  c10 : W.cell? ⟨b, 10, none⟩ = some (.bool (s 10))
  c11 : W.cell? ⟨b, 11, none⟩ = some (.bool (s 11))
theorem SetAt.c12 {W : World} {b : Nat} {s : Nat → Bool} (h : SetAt W b s) : Cells12 W b s :=
  ⟨(h.cell (by omega)).1, (h.cell (by omega)).1, (h.cell (by omega)).1, (h.cell (by omega)).1, (h.cell (by omega)).1, (h.cell (by omega)).1, (h.cell (by omega)).1, (h.cell (by omega)).1, (h.cell (by omega)).1, (h.cell (by omega)).1, (h.cell (by omega)).1, (h.cell (by omega)).1⟩
structure Free12 (W : World) (b : Nat) : Prop where
  f0 : W.frozen? ⟨b, 0, none⟩ = false
  f1 : W.frozen? ⟨b, 1, none⟩ = false
  f2 : W.frozen? ⟨b, 2, none⟩ = false
  f3 : W.frozen? ⟨b, 3, none⟩ = false
  f4 : W.frozen? ⟨b, 4, none⟩ = false
  f5 : W.frozen? ⟨b, 5, none⟩ = false
  f6 : W.frozen? ⟨b, 6, none⟩ = false
  f7 : W.frozen? ⟨b, 7, none⟩ = false
  f8 : W.frozen? ⟨b, 8, none⟩ = false
  f9 : W.frozen? ⟨b, 9, none⟩ = false
  f10 : W.frozen? ⟨b, 10, none⟩ = false
  f11 : W.frozen? ⟨b, 11, none⟩ = false
theorem SetAt.f12 {W : World} {b : Nat} {s : Nat → Bool} (h : SetAt W b s) : Free12 W b :=
  ⟨(h.cell (by omega)).2, (h.cell (by omega)).2, (h.cell (by omega)).2, (h.cell (by omega)).2, (h.cell (by omega)).2, (h.cell (by omega)).2, (h.cell (by omega)).2, (h.cell (by omega)).2, (h.cell (by omega)).2, (h.cell (by omega)).2, (h.cell (by omega)).2, (h.cell (by omega)).2⟩
structure MinI (w : World) (a b : Nat → Bool) (k : Nat) (W : World) : Prop where
  x : SetAt W w.heap.size (fun j => if j < k then a j && !b j else a j)
  z : SetAt W (w.heap.size + 1 + 1) (fun _ => false)
  bw : Below w.heap.size w W
set_option maxHeartbeats 2000000 in
set_option maxRecDepth 100000 in
theorem minus_any (a b : Nat → Bool) (w : World) : Calls Try.prog 85 #[setV a, setV b] w fun e w' => e = .returned (setV (fun j => a j && !b j)) ∧ Below w.heap.size w w' := by
  obtain ⟨wa, hwa⟩ : ∃ wa, w.alloc (.cells (sc a) 79) = wa := ⟨_, rfl⟩
  obtain ⟨wb, hwb⟩ : ∃ wb, wa.alloc (.cells (sc b) 79) = wb := ⟨_, rfl⟩
  obtain ⟨wc, hwc⟩ : ∃ wc, wb.alloc (.cells (sc (fun _ => false)) 79) = wc := ⟨_, rfl⟩
  have sa : wa.heap.size = w.heap.size + 1 := by rw [← hwa]; simp
  have sb : wb.heap.size = w.heap.size + 1 + 1 := by rw [← hwb]; simp [sa]
  have ba : Below w.heap.size w wa := by rw [← hwa]; exact (Below.refl _ _).alloc (Nat.le_refl _) _
  have bb : Below wa.heap.size wa wb := by rw [← hwb]; exact (Below.refl _ _).alloc (Nat.le_refl _) _
  have bc : Below wb.heap.size wb wc := by rw [← hwc]; exact (Below.refl _ _).alloc (Nat.le_refl _) _
  have fa : SetAt wa w.heap.size a := by rw [← hwa]; exact SetAt.new _ _
  have fb : SetAt wb (w.heap.size + 1) b := by rw [← sa, ← hwb]; exact SetAt.new _ _
  have fb2 := fb.after bc
  have hI : Keep (MinI w a b 0 wc) := ⟨((fa.after bb).after bc : SetAt wc w.heap.size a), by rw [← sb, ← hwc]; exact SetAt.new _ _, (ba.trans (bb.mono (by omega))).trans (bc.mono (by omega))⟩
  have hw : ((w.alloc (.cells (sc a) 79)).alloc (.cells (sc b) 79)).alloc (.cells (sc (fun _ => false)) 79) = wc := by rw [hwa, hwb, hwc]
  clear hwa hwb hwc sa sb ba bb bc fa fb
  obtain ⟨c0, c1, c2, c3, c4, c5, c6, c7, c8, c9, c10, c11⟩ := fb2.c12
  clear fb2
  have hia := fun k hk w => idx49 b k hk w
  unfold setV sc at *
  go_enter Try.func85, Try.ntmps85
  go_wp2
  try rw [hw]
  clear hw c0 c1 c2 c3 c4 c5 c6 c7 c8 c9 c10 c11
  have hiak := Keep.mk hia
  clear hia
  go_loopw [8] (fun i wr => ∃ k : Nat, k ≤ 12 ∧ i = .int .i64 k ∧ Keep (MinI w a b k wr)) (fun i _ => 12 - (intOf i).toNat)
  case atStart => exact ⟨0, by omega, rfl, hI⟩
  case round =>
    obtain ⟨k, hk, rfl, hI⟩ := hrel
    by_cases hlt : k < 12
    · have hlt' : (k : Int) < 12 := by omega
      have nk : ¬ (k : Int) < 0 := by omega
      have hw1 : IntKind.i64.wrap ((k : Int) + 1) = (k : Int) + 1 := IntWalk.i64_in _ (by omega)
      have hidx := fun w => hiak.out k hlt w
      obtain ⟨cx, fx⟩ := hI.out.x.cell (k := k) hlt
      simp only [Nat.lt_irrefl, if_false] at cx
      have fin : ∀ v : Bool, v = (a k && !b k) → MinI w a b (k + 1) (wr.setCell ⟨w.heap.size, k, none⟩ (.bool v)) := fun v hv => by
        refine ⟨hI.out.x.set hlt (by rw [if_pos (by omega), hv]) (fun j _ hj => ?_), hI.out.z.other (by omega), hI.out.bw.setCell (p := ⟨w.heap.size, k, none⟩) (by show w.heap.size ≤ w.heap.size; omega) _⟩
        by_cases e : j < k
        · rw [if_pos (by omega), if_pos e]
        · rw [if_neg (by omega), if_neg e]
      have fink := Keep.mk fin
      clear fin
      cases ha : a k <;> cases hb : b k <;> rw [ha] at cx <;> rw [hb] at hidx <;> go_wp2
      · exact ⟨⟨k + 1, by omega, by go_num, ⟨fink.out false (by rw [ha, hb]; rfl)⟩⟩, by simp [intOf]; omega⟩
      · exact ⟨⟨k + 1, by omega, by go_num, ⟨fink.out false (by rw [ha, hb]; rfl)⟩⟩, by simp [intOf]; omega⟩
      · exact ⟨⟨k + 1, by omega, by go_num, ⟨fink.out true (by rw [ha, hb]; rfl)⟩⟩, by simp [intOf]; omega⟩
      · exact ⟨⟨k + 1, by omega, by go_num, ⟨fink.out false (by rw [ha, hb]; rfl)⟩⟩, by simp [intOf]; omega⟩
    · have : k = 12 := by omega
      subst this
      have hx : SetAt wr w.heap.size (fun j => a j && !b j) := by
        have h := hI.out.x
        unfold SetAt at h ⊢
        rw [h, sc_ext (fun j hj => by rw [if_pos hj])]
      obtain ⟨x0, x1, x2, x3, x4, x5, x6, x7, x8, x9, x10, x11⟩ := hx.c12
      obtain ⟨z0, z1, z2, z3, z4, z5, z6, z7, z8, z9, z10, z11⟩ := hI.out.z.c12
      obtain ⟨f0, f1, f2, f3, f4, f5, f6, f7, f8, f9, f10, f11⟩ := hI.out.z.f12
      have hbk := Keep.mk hI.out.bw
      clear hI hx hiak
      go_wp2
      refine bodyPost_ret (v := .agg #[.bool (a 0 && !b 0), .bool (a 1 && !b 1), .bool (a 2 && !b 2), .bool (a 3 && !b 3), .bool (a 4 && !b 4), .bool (a 5 && !b 5), .bool (a 6 && !b 6), .bool (a 7 && !b 7), .bool (a 8 && !b 8), .bool (a 9 && !b 9), .bool (a 10 && !b 10), .bool (a 11 && !b 11)]) (by simp [results, Try.results85, go_sem]; try go_simp) rfl ?_
      refine ⟨rfl, ?_⟩
      iterate 12 (refine Below.setCell ?_ (by show w.heap.size ≤ w.heap.size + 1 + 1; omega) _)
      exact hbk.out
set_option maxHeartbeats 2000000 in
set_option maxRecDepth 100000 in
theorem with_any (s : Nat → Bool) (v : Nat) (hv : v < 12) (w : World) : Calls Try.prog 92 #[setV s, .int .i64 v] w fun e w' => e = .returned (setV (fun j => if j = v then true else s j)) ∧ Below w.heap.size w w' := by
  obtain ⟨wa, hwa⟩ : ∃ wa, w.alloc (.cells (sc s) 79) = wa := ⟨_, rfl⟩
  obtain ⟨wc, hwc⟩ : ∃ wc, wa.alloc (.cells (sc (fun _ => false)) 79) = wc := ⟨_, rfl⟩
  have sa : wa.heap.size = w.heap.size + 1 := by rw [← hwa]; simp
  have ba : Below w.heap.size w wa := by rw [← hwa]; exact (Below.refl _ _).alloc (Nat.le_refl _) _
  have bc : Below wa.heap.size wa wc := by rw [← hwc]; exact (Below.refl _ _).alloc (Nat.le_refl _) _
  have fa : SetAt wa w.heap.size s := by rw [← hwa]; exact SetAt.new _ _
  have fa2 := fa.after bc
  have fz : SetAt wc (w.heap.size + 1) (fun _ => false) := by rw [← sa, ← hwc]; exact SetAt.new _ _
  have bw := ba.trans (bc.mono (by omega))
  have hw : (w.alloc (.cells (sc s) 79)).alloc (.cells (sc (fun _ => false)) 79) = wc := by rw [hwa, hwc]
  clear hwa hwc sa ba bc fa
  obtain ⟨cx, fx⟩ := fa2.cell (k := v) hv
  have hv1 : (v : Int) < 12 := by omega
  have hv2 : ¬ (v : Int) < 0 := by omega
  obtain ⟨s', hs'⟩ : ∃ s' : Nat → Bool, Keep (∀ j, s' j = (fun j => if j = v then true else s j) j) := ⟨_, ⟨fun _ => rfl⟩⟩
  rw [show (fun j => if j = v then true else s j) = s' from funext fun j => (hs'.out j).symm]
  have hx : SetAt (wc.setCell ⟨w.heap.size, v, none⟩ (.bool true)) w.heap.size s' := fa2.set hv (by rw [hs'.out]; simp) (fun j _ hj => by rw [hs'.out]; simp [hj])
  have hz : SetAt (wc.setCell ⟨w.heap.size, v, none⟩ (.bool true)) (w.heap.size + 1) (fun _ => false) := fz.other (by omega)
  have hbw : Below w.heap.size w (wc.setCell ⟨w.heap.size, v, none⟩ (.bool true)) := bw.setCell (p := ⟨w.heap.size, v, none⟩) (by show w.heap.size ≤ w.heap.size; omega) _
  obtain ⟨wd, hwd⟩ : ∃ wd, wc.setCell ⟨w.heap.size, v, none⟩ (.bool true) = wd := ⟨_, rfl⟩
  rw [hwd] at hx hz hbw
  obtain ⟨x0, x1, x2, x3, x4, x5, x6, x7, x8, x9, x10, x11⟩ := hx.c12
  obtain ⟨z0, z1, z2, z3, z4, z5, z6, z7, z8, z9, z10, z11⟩ := hz.c12
  obtain ⟨f0, f1, f2, f3, f4, f5, f6, f7, f8, f9, f10, f11⟩ := hz.f12
  have hbk := Keep.mk hbw
  have fz' := Keep.mk fz
  clear fa2 fz hx hz hbw bw
  unfold setV sc at *
  go_enter Try.func92, Try.ntmps92
  go_wp2
  refine bodyPost_ret (v := .agg #[.bool (s' 0), .bool (s' 1), .bool (s' 2), .bool (s' 3), .bool (s' 4), .bool (s' 5), .bool (s' 6), .bool (s' 7), .bool (s' 8), .bool (s' 9), .bool (s' 10), .bool (s' 11)]) (by simp [results, Try.results92, go_sem]; try go_simp) rfl ?_
  refine ⟨rfl, ?_⟩
  iterate 12 (refine Below.setCell ?_ (by show w.heap.size ≤ w.heap.size + 1; omega) _)
  exact hbk.out
set_option maxHeartbeats 2000000 in
set_option maxRecDepth 100000 in
theorem without_any (s : Nat → Bool) (v : Nat) (hv : v < 12) (w : World) : Calls Try.prog 87 #[setV s, .int .i64 v] w fun e w' => e = .returned (setV (fun j => if j = v then false else s j)) ∧ Below w.heap.size w w' := by
  obtain ⟨wa, hwa⟩ : ∃ wa, w.alloc (.cells (sc s) 79) = wa := ⟨_, rfl⟩
  obtain ⟨wc, hwc⟩ : ∃ wc, wa.alloc (.cells (sc (fun _ => false)) 79) = wc := ⟨_, rfl⟩
  have sa : wa.heap.size = w.heap.size + 1 := by rw [← hwa]; simp
  have ba : Below w.heap.size w wa := by rw [← hwa]; exact (Below.refl _ _).alloc (Nat.le_refl _) _
  have bc : Below wa.heap.size wa wc := by rw [← hwc]; exact (Below.refl _ _).alloc (Nat.le_refl _) _
  have fa : SetAt wa w.heap.size s := by rw [← hwa]; exact SetAt.new _ _
  have fa2 := fa.after bc
  have fz : SetAt wc (w.heap.size + 1) (fun _ => false) := by rw [← sa, ← hwc]; exact SetAt.new _ _
  have bw := ba.trans (bc.mono (by omega))
  have hw : (w.alloc (.cells (sc s) 79)).alloc (.cells (sc (fun _ => false)) 79) = wc := by rw [hwa, hwc]
  clear hwa hwc sa ba bc fa
  obtain ⟨cx, fx⟩ := fa2.cell (k := v) hv
  have hv1 : (v : Int) < 12 := by omega
  have hv2 : ¬ (v : Int) < 0 := by omega
  obtain ⟨s', hs'⟩ : ∃ s' : Nat → Bool, Keep (∀ j, s' j = (fun j => if j = v then false else s j) j) := ⟨_, ⟨fun _ => rfl⟩⟩
  rw [show (fun j => if j = v then false else s j) = s' from funext fun j => (hs'.out j).symm]
  have hx : SetAt (wc.setCell ⟨w.heap.size, v, none⟩ (.bool false)) w.heap.size s' := fa2.set hv (by rw [hs'.out]; simp) (fun j _ hj => by rw [hs'.out]; simp [hj])
  have hz : SetAt (wc.setCell ⟨w.heap.size, v, none⟩ (.bool false)) (w.heap.size + 1) (fun _ => false) := fz.other (by omega)
  have hbw : Below w.heap.size w (wc.setCell ⟨w.heap.size, v, none⟩ (.bool false)) := bw.setCell (p := ⟨w.heap.size, v, none⟩) (by show w.heap.size ≤ w.heap.size; omega) _
  obtain ⟨wd, hwd⟩ : ∃ wd, wc.setCell ⟨w.heap.size, v, none⟩ (.bool false) = wd := ⟨_, rfl⟩
  rw [hwd] at hx hz hbw
  obtain ⟨x0, x1, x2, x3, x4, x5, x6, x7, x8, x9, x10, x11⟩ := hx.c12
  obtain ⟨z0, z1, z2, z3, z4, z5, z6, z7, z8, z9, z10, z11⟩ := hz.c12
  obtain ⟨f0, f1, f2, f3, f4, f5, f6, f7, f8, f9, f10, f11⟩ := hz.f12
  have hbk := Keep.mk hbw
  have fz' := Keep.mk fz
  clear fa2 fz hx hz hbw bw
  unfold setV sc at *
  go_enter Try.func87, Try.ntmps87
  go_wp2
  refine bodyPost_ret (v := .agg #[.bool (s' 0), .bool (s' 1), .bool (s' 2), .bool (s' 3), .bool (s' 4), .bool (s' 5), .bool (s' 6), .bool (s' 7), .bool (s' 8), .bool (s' 9), .bool (s' 10), .bool (s' 11)]) (by simp [results, Try.results87, go_sem]; try go_simp) rfl ?_
  refine ⟨rfl, ?_⟩
  iterate 12 (refine Below.setCell ?_ (by show w.heap.size ≤ w.heap.size + 1; omega) _)
  exact hbk.out
end Go.Proofs.Yteekigpdiklppaa
set_option linter.unusedSimpArgs false
set_option linter.unusedVariables false
namespace Go.Proofs.Yteekigpdiklppaa
open Go Go.Proofs Go.RowKit Go.Seq
attribute [local go_sem] Oper.semAt_some
theorem vsTo_len (s : Nat → Bool) (k : Nat) : (vsTo s k).length ≤ k := by
  unfold vsTo
  exact Nat.le_trans (List.length_filter_le _ _) (by simp)
set_option maxHeartbeats 2000000 in
set_option maxRecDepth 100000 in
theorem size_any (s : Nat → Bool) (w : World) : Calls Try.prog 74 #[setV s] w fun e w' => e = .returned (.int .i64 (vsTo s 12).length) ∧ Below w.heap.size w w' := by
  obtain ⟨wa, hwa⟩ : ∃ wa, w.alloc (.cells (sc s) 79) = wa := ⟨_, rfl⟩
  have sa : wa.heap.size = w.heap.size + 1 := by rw [← hwa]; simp
  have ba : Below w.heap.size w wa := by rw [← hwa]; exact (Below.refl _ _).alloc (Nat.le_refl _) _
  have fa : SetAt wa w.heap.size s := by rw [← hwa]; exact SetAt.new _ _
  obtain ⟨x0, x1, x2, x3, x4, x5, x6, x7, x8, x9, x10, x11⟩ := fa.c12
  have q39 := fun w => vertices_any s w
  unfold setV sc at q39 ⊢
  unfold sc at hwa
  refine (callsIn_wide (n := 0)).1 ?_
  refine callsIn_of_wp_marks Try.func74 rfl trivial ?_ rfl
  simp only [Try.ntmps74, List.size_toArray, List.length_cons, List.length_nil, Nat.reduceAdd, Nat.reduceSub, Array.replicate_succ, Array.replicate_zero, List.push_toArray, List.append_toArray, List.nil_append, List.cons_append]
  refine wpIn_wide.2 ?_
  go_wp2_with (first
    | (go_at_call 62; (with_reducible refine (q39 _).mono ?_); rintro e w5 ⟨rfl, hw5⟩; rw [hw5]; clear hw5 w5))
  refine (wpIn_wide (n := 0)).1 ?_
  obtain ⟨wb, hwb⟩ : ∃ wb, wa.alloc (.cells #[.int .i64 0] 3) = wb := ⟨_, rfl⟩
  have sb : wb.heap.size = w.heap.size + 1 + 1 := by rw [← hwb]; simp [sa]
  have bb : Below wa.heap.size wa wb := by rw [← hwb]; exact (Below.refl _ _).alloc (Nat.le_refl _) _
  have t3 : wb.heap[w.heap.size + 1]? = some (.cells #[.int .i64 0] 3 (0, 0)) := by rw [← sa, ← hwb]; exact World.alloc_heap_new wa _
  obtain ⟨w2, hw2⟩ : ∃ w2, wb.alloc (.cells (sc s) 79) = w2 := ⟨_, rfl⟩
  have bc : Below wb.heap.size wb w2 := by rw [← hw2]; exact (Below.refl _ _).alloc (Nat.le_refl _) _
  have s2 : w2.heap.size = w.heap.size + 3 := by rw [← hw2]; simp [sb]
  have f2 : SetAt w2 (w.heap.size + 1 + 1) s := by rw [← sb, ← hw2]; exact SetAt.new _ _
  have t3 := (bc.block (w.heap.size + 1) (by omega)).trans t3
  have bw : Below w.heap.size w w2 := (ba.trans (bb.mono (by omega))).trans (bc.mono (by omega))
  unfold sc at hw2
  rw [hwb, hw2]
  clear hwa hwb hw2 sb bb bc fa ba sa x0 x1 x2 x3 x4 x5 x6 x7 x8 x9 x10 x11 q39
  refine range_gives (gf := 83) (lb := #[.pointer (some ⟨w.heap.size + 1 + 1, 0, none⟩)]) rfl (enters_of Try.func83 (by kernel_rfl) rfl) (encs := encK) (xs := vsTo s 12)
    (R := fun W => SetAt W (w.heap.size + 1 + 1) s) (fun x => rfl) (fun W1' _ _ => (vertices_gives W1').gives)
    (fun pre W => SetAt W (w.heap.size + 1 + 1) s ∧ (W.cell? ⟨w.heap.size + 1, 0, none⟩ = some (.int .i64 (pre.length : Nat)) ∧ W.frozen? ⟨w.heap.size + 1, 0, none⟩ = false) ∧ Below w.heap.size w W ∧ w.heap.size + 3 ≤ W.heap.size)
    ?_ (fun pre W h => h.1) ⟨f2, ⟨by simp [World.cell?, t3], by simp [World.frozen?, t3]⟩, bw, by omega⟩
    (fun x a' W => a' = { tmps := #[.agg (sc s), .pointer (some ⟨w.heap.size, 0, none⟩), .int .i64 0, .pointer (some ⟨w.heap.size + 1, 0, none⟩), .agg (sc s), .func (.func 83) #[] #[.pointer (some ⟨w.heap.size + 1 + 1, 0, none⟩)], .int .i64 (x : Nat), undef, undef, undef], defers := [] })
    ?_ ?assign ?body ?done
  · rintro pre W W' ⟨k1, ⟨k2, k3⟩, k4, k5⟩ hb
    have z1 := k1.lt
    refine ⟨k1.below hb (by omega), ⟨(hb.cell (p := ⟨w.heap.size + 1, 0, none⟩) (by show w.heap.size + 1 < _; omega)).trans k2, ?_⟩, k4.trans (hb.mono (by omega)), Nat.le_trans k5 hb.size⟩
    rw [World.frozen?_of_block (a := ⟨w.heap.size + 1, 0, none⟩) (hb.block _ (by show w.heap.size + 1 < _; omega))]; exact k3
  · rintro x a' W W' h hf
    exact h
  case assign =>
    intro l2 pre x W K hi hsz2 hK
    unfold encK
    gi_wp2
    exact hK _ _ (Below.refl W.heap.size W) (by simp [sc])
  case body =>
    rintro l2 pre x a' W ⟨k1, ⟨k2, k3⟩, k4, k5⟩ rfl hsz2 ⟨post, hpost⟩
    have hl : pre.length ≤ 12 := by
      have := vsTo_len s 12
      rw [hpost] at this
      simp at this; omega
    have wl : IntKind.i64.wrap ((pre.length : Int) + 1) = (pre.length : Int) + 1 := IntWalk.i64_in _ (by omega)
    obtain ⟨n, hn⟩ : ∃ n, pre.length = n := ⟨_, rfl⟩
    have hlen : (pre ++ [x]).length = n + 1 := by simp [hn]
    have hfin : From w2.heap.size W (W.setCell ⟨w.heap.size + 1, 0, none⟩ (.int .i64 ((n : Int) + 1))) := (From.refl _ _).setCell (by show w.heap.size + 1 < _; omega) _
    have hS1 : SetAt (W.setCell ⟨w.heap.size + 1, 0, none⟩ (.int .i64 ((n : Int) + 1))) (w.heap.size + 1 + 1) s := k1.other (by omega)
    have hb1 : Below w.heap.size w (W.setCell ⟨w.heap.size + 1, 0, none⟩ (.int .i64 ((n : Int) + 1))) := k4.setCell (p := ⟨w.heap.size + 1, 0, none⟩) (by show w.heap.size ≤ w.heap.size + 1; omega) _
    rw [hn] at k2 wl
    rw [hlen]
    rw [s2] at hfin
    unfold sc
    gi_wp2
    first
      | exact ⟨hfin, rfl, rfl⟩
      | exact ⟨rfl, rfl⟩
  case done =>
    rintro W ⟨k1, ⟨k2, k3⟩, k4, k5⟩ hszW hD
    gi_wp2
    go_wp2
    refine Qr.leaves_mark hD fun w' hk => ⟨.int .i64 ((vsTo s 12).length : Nat), by simp [results, Try.results74, go_sem], rfl, k4.trans (hk.below (by omega) (by omega))⟩
end Go.Proofs.Yteekigpdiklppaa
set_option linter.unusedSimpArgs false
set_option linter.unusedVariables false
namespace Go.Proofs.Yteekigpdiklppaa
open Go Go.Proofs Go.RowKit Go.Seq
attribute [local go_sem] Oper.semAt_some
/-- A graph in memory: its number of places, and who is near whom. -/
structure GraphAt (W : World) (b n : Nat) (adj : Nat → Nat → Bool) : Prop where
  size : W.cell? ⟨b, 0, none⟩ = some (.int .i64 n)
  at_ : ∀ i j, i < 12 → j < 12 → W.cell? ⟨b, 1 + i * 12 + j, none⟩ = some (.bool (adj i j))
theorem GraphAt.lt {W : World} {b n : Nat} {adj : Nat → Nat → Bool} (h : GraphAt W b n adj) : b < W.heap.size := by
  rcases Nat.lt_or_ge b W.heap.size with h' | h'
  · exact h'
  · have := h.size; simp [World.cell?, Array.getElem?_eq_none h'] at this
theorem GraphAt.below {W W' : World} {B b n : Nat} {adj : Nat → Nat → Bool} (h : GraphAt W b n adj) (hb : Below B W W') (hl : b < B) : GraphAt W' b n adj :=
  ⟨(hb.cell (p := ⟨b, 0, none⟩) hl).trans h.size, fun i j hi hj => (hb.cell (p := ⟨b, 1 + i * 12 + j, none⟩) hl).trans (h.at_ i j hi hj)⟩
/-- The only place of a set, or -1. -/
def onlyOf (s : Nat → Bool) : Int := match vsTo s 12 with
  | [u] => (u : Int)
  | _ => -1
def hd (l : List Nat) : Int := match l with
  | [] => -1
  | u :: _ => (u : Int)
structure OnlI (w : World) (b n : Nat) (adj : Nat → Nat → Bool) (wet : Nat → Bool) (W : World) : Prop where
  g : GraphAt W b n adj
  x : SetAt W w.heap.size wet
  t6 : W.heap[w.heap.size + 1]? = some (.cells #[.int .i64 0] 3 (0, 0))
  t7 : W.heap[w.heap.size + 1 + 1]? = some (.cells #[.int .i64 (-1)] 3 (0, 0))
  bw : Below w.heap.size w W
  sz : w.heap.size + 3 ≤ W.heap.size
theorem OnlI.after {w W W' : World} {b n : Nat} {adj : Nat → Nat → Bool} {wet : Nat → Bool} (h : OnlI w b n adj wet W) (hb : Below W.heap.size W W') : OnlI w b n adj wet W' :=
  have := h.sz
  ⟨h.g.below hb h.g.lt, h.x.after hb, (hb.block _ (by omega)).trans h.t6, (hb.block _ (by omega)).trans h.t7, h.bw.trans (hb.mono h.bw.size), Nat.le_trans h.sz hb.size⟩
set_option maxHeartbeats 4000000 in
set_option maxRecDepth 100000 in
theorem onlyDry_any {b n v : Nat} {adj : Nat → Nat → Bool} {w : World} (wet : Nat → Bool) (hg : GraphAt w b n adj) (hv : v < 12) :
    Calls Try.prog 81 #[.pointer (some ⟨b, 0, none⟩), .int .i64 v, setV wet] w fun e w' => e = .returned (.int .i64 (onlyOf (fun u => adj v u && !wet u))) ∧ Below w.heap.size w w' := by
  have hmx : Try.prog.follows .mixedOrders = true := by kernel_rfl
  obtain ⟨wa, hwa⟩ : ∃ wa, w.alloc (.cells (sc wet) 79) = wa := ⟨_, rfl⟩
  obtain ⟨wb, hwb⟩ : ∃ wb, wa.alloc (.cells #[.int .i64 0] 3) = wb := ⟨_, rfl⟩
  obtain ⟨wc, hwc⟩ : ∃ wc, wb.alloc (.cells #[.int .i64 (-1)] 3) = wc := ⟨_, rfl⟩
  have sa : wa.heap.size = w.heap.size + 1 := by rw [← hwa]; simp
  have sb : wb.heap.size = w.heap.size + 1 + 1 := by rw [← hwb]; simp [sa]
  have ss : wc.heap.size = w.heap.size + 3 := by rw [← hwc]; simp [sb]
  have ba : Below w.heap.size w wa := by rw [← hwa]; exact (Below.refl _ _).alloc (Nat.le_refl _) _
  have bb : Below wa.heap.size wa wb := by rw [← hwb]; exact (Below.refl _ _).alloc (Nat.le_refl _) _
  have bc : Below wb.heap.size wb wc := by rw [← hwc]; exact (Below.refl _ _).alloc (Nat.le_refl _) _
  have fa : SetAt wa w.heap.size wet := by rw [← hwa]; exact SetAt.new _ _
  have t6 : wb.heap[w.heap.size + 1]? = some (.cells #[.int .i64 0] 3 (0, 0)) := by rw [← sa, ← hwb]; exact World.alloc_heap_new wa _
  have t7 : wc.heap[w.heap.size + 1 + 1]? = some (.cells #[.int .i64 (-1)] 3 (0, 0)) := by rw [← sb, ← hwc]; exact World.alloc_heap_new wb _
  have bw : Below w.heap.size w wc := (ba.trans (bb.mono (by omega))).trans (bc.mono (by omega))
  have hI : Keep (OnlI w b n adj wet wc) := ⟨hg.below bw hg.lt, (fa.after bb).after bc, (bc.block _ (by omega)).trans t6, t7, bw, by omega⟩
  have hw : ((w.alloc (.cells (sc wet) 79)).alloc (.cells #[.int .i64 0] 3)).alloc (.cells #[.int .i64 (-1)] 3) = wc := by rw [hwa, hwb, hwc]
  clear hwa hwb hwc sa sb ba bb bc fa t6 t7 bw
  have q47 := fun w => minus_any (adj v) wet w
  obtain ⟨D, hD⟩ : ∃ D : Nat → Bool, (fun u => adj v u && !wet u) = D := ⟨_, rfl⟩
  rw [hD] at q47 ⊢
  have q39 := fun w => vertices_any D w
  have hcw := Keep.mk (fun (W : World) (h : OnlI w b n adj wet W) => h.x.c12)
  have hca := Keep.mk (fun (W : World) (h : OnlI w b n adj wet W) (k : Nat) (hk : k < 12) => h.g.at_ v k hv hk)
  have hv1 : (v : Int) < 12 := by omega
  have hv2 : ¬ (v : Int) < 0 := by omega
  unfold setV sc at *
  refine (callsIn_wide (n := 0)).1 ?_
  refine callsIn_of_wp_marks Try.func81 rfl trivial ?_ rfl
  simp only [Try.ntmps81, List.size_toArray, List.length_cons, List.length_nil, Nat.reduceAdd, Nat.reduceSub, Array.replicate_succ, Array.replicate_zero, List.push_toArray, List.append_toArray, List.nil_append, List.cons_append]
  refine wpIn_wide.2 ?_
  go_wp2
  try rw [hw]
  clear hw
  refine (wpIn_wide (n := 0)).1 ?_
  refine Inv.region_inv (fun s a W => ∃ B, a = { tmps := #[.pointer (some ⟨b, 0, none⟩), .int .i64 v, .agg #[.bool (wet 0), .bool (wet 1), .bool (wet 2), .bool (wet 3), .bool (wet 4), .bool (wet 5), .bool (wet 6), .bool (wet 7), .bool (wet 8), .bool (wet 9), .bool (wet 10), .bool (wet 11)], undef, undef, .pointer (some ⟨w.heap.size, 0, none⟩), .pointer (some ⟨w.heap.size + 1, 0, none⟩), .pointer (some ⟨w.heap.size + 1 + 1, 0, none⟩), undef, if s 0 = true then .pointer (some ⟨b, 0, none⟩) else undef, if s 1 = true then .int .i64 v else undef, if s 2 = true then .pointer (some ⟨b, 0, none⟩) else undef, if s 3 = true then .pointer (some ⟨b, 1, none⟩) else undef, if s 4 = true then .pointer (some ⟨b, 1 + v * 12, none⟩) else undef, if s 5 = true then .agg #[.bool (adj v 0), .bool (adj v 1), .bool (adj v 2), .bool (adj v 3), .bool (adj v 4), .bool (adj v 5), .bool (adj v 6), .bool (adj v 7), .bool (adj v 8), .bool (adj v 9), .bool (adj v 10), .bool (adj v 11)] else undef, if s 6 = true then .agg #[.bool (wet 0), .bool (wet 1), .bool (wet 2), .bool (wet 3), .bool (wet 4), .bool (wet 5), .bool (wet 6), .bool (wet 7), .bool (wet 8), .bool (wet 9), .bool (wet 10), .bool (wet 11)] else undef, if s 7 = true then .agg #[.bool (D 0), .bool (D 1), .bool (D 2), .bool (D 3), .bool (D 4), .bool (D 5), .bool (D 6), .bool (D 7), .bool (D 8), .bool (D 9), .bool (D 10), .bool (D 11)] else undef, if s 8 = true then .func (.func 83) #[] #[.pointer (some ⟨B, 0, none⟩)] else undef, undef, undef, undef, undef, undef], defers := [] } ∧ OnlI w b n adj wet W ∧ (s 8 = true → SetAt W B D ∧ w.heap.size + 3 ≤ B)) hmx (by kernel_rfl) ?_ ?_ ?_
  · intro s hs
    refine ⟨0, ?_, hI.out.after ((Below.refl _ _).drew), fun e => (by rw [hs 8 (by decide)] at e; cases e)⟩
    simp only [hs 0 (by decide), hs 1 (by decide), hs 2 (by decide), hs 3 (by decide), hs 4 (by decide), hs 5 (by decide), hs 6 (by decide), hs 7 (by decide), hs 8 (by decide), Bool.false_eq_true, if_false]
  · refine ⟨?_, ?_, ?_, ?_, ?_, ?_, ?_, ?_, ?_, trivial⟩
    · rintro s a W hun hdep hbeh ⟨B, rfl, hT, hB⟩
      (try simp only [Nat.reduceAdd] at hun)
      refine .inl ⟨by rfl, Inv.comesV_val (.pointer (some ⟨b, 0, none⟩)) W (by (go_simp; (try rfl); try (intro hneg; omega))) ⟨B, by (simp only [Act.put, List.setIfInBounds_toArray, List.set_cons_succ, List.set_cons_zero, Manyd.upd, Nat.reduceAdd, Nat.reduceBEq, Bool.or_false, Bool.or_true, if_true]), hT, fun e => hB (by simpa [Manyd.upd] using e)⟩⟩
    · rintro s a W hun hdep hbeh ⟨B, rfl, hT, hB⟩
      (try simp only [Nat.reduceAdd] at hun)
      refine .inl ⟨by rfl, Inv.comesV_val (.int .i64 v) W (by (go_simp; (try rfl); try (intro hneg; omega))) ⟨B, by (simp only [Act.put, List.setIfInBounds_toArray, List.set_cons_succ, List.set_cons_zero, Manyd.upd, Nat.reduceAdd, Nat.reduceBEq, Bool.or_false, Bool.or_true, if_true]), hT, fun e => hB (by simpa [Manyd.upd] using e)⟩⟩
    · rintro s a W hun hdep hbeh ⟨B, rfl, hT, hB⟩
      (try simp only [Nat.reduceAdd] at hun)
      have h0 : s 0 = true := Inv.depB_mem 0 hdep (by rfl)
      refine .inl ⟨by rfl, Inv.comesV_val (.pointer (some ⟨b, 0, none⟩)) W (by (simp only [h0, if_true]; go_simp; (try rfl); try (intro hneg; omega))) ⟨B, by (simp only [Act.put, List.setIfInBounds_toArray, List.set_cons_succ, List.set_cons_zero, Manyd.upd, Nat.reduceAdd, Nat.reduceBEq, Bool.or_false, Bool.or_true, if_true]), hT, fun e => hB (by simpa [Manyd.upd] using e)⟩⟩
    · rintro s a W hun hdep hbeh ⟨B, rfl, hT, hB⟩
      (try simp only [Nat.reduceAdd] at hun)
      have h2 : s 2 = true := Inv.depB_mem 2 hdep (by rfl)
      refine .inl ⟨by rfl, Inv.comesV_val (.pointer (some ⟨b, 1, none⟩)) W (by (simp only [h2, if_true]; go_simp; (try rfl); try (intro hneg; omega))) ⟨B, by (simp only [Act.put, List.setIfInBounds_toArray, List.set_cons_succ, List.set_cons_zero, Manyd.upd, Nat.reduceAdd, Nat.reduceBEq, Bool.or_false, Bool.or_true, if_true]), hT, fun e => hB (by simpa [Manyd.upd] using e)⟩⟩
    · rintro s a W hun hdep hbeh ⟨B, rfl, hT, hB⟩
      (try simp only [Nat.reduceAdd] at hun)
      have h3 : s 3 = true := Inv.depB_mem 3 hdep (by rfl)
      have h1 : s 1 = true := Inv.depB_mem 1 hdep (by rfl)
      refine .inl ⟨by rfl, Inv.comesV_val (.pointer (some ⟨b, 1 + v * 12, none⟩)) W (by (simp only [h3, h1, if_true]; go_simp; (try rfl); try (intro hneg; omega))) ⟨B, by (simp only [Act.put, List.setIfInBounds_toArray, List.set_cons_succ, List.set_cons_zero, Manyd.upd, Nat.reduceAdd, Nat.reduceBEq, Bool.or_false, Bool.or_true, if_true]), hT, fun e => hB (by simpa [Manyd.upd] using e)⟩⟩
    · rintro s a W hun hdep hbeh ⟨B, rfl, hT, hB⟩
      (try simp only [Nat.reduceAdd] at hun)
      have h4 : s 4 = true := Inv.depB_mem 4 hdep (by rfl)
      have a0 := hca.out W hT 0 (by omega)
      have a1 := hca.out W hT 1 (by omega)
      have a2 := hca.out W hT 2 (by omega)
      have a3 := hca.out W hT 3 (by omega)
      have a4 := hca.out W hT 4 (by omega)
      have a5 := hca.out W hT 5 (by omega)
      have a6 := hca.out W hT 6 (by omega)
      have a7 := hca.out W hT 7 (by omega)
      have a8 := hca.out W hT 8 (by omega)
      have a9 := hca.out W hT 9 (by omega)
      have a10 := hca.out W hT 10 (by omega)
      have a11 := hca.out W hT 11 (by omega)
      (try simp only [Nat.add_zero] at a0)
      refine .inl ⟨by rfl, Inv.comesV_val (.agg #[.bool (adj v 0), .bool (adj v 1), .bool (adj v 2), .bool (adj v 3), .bool (adj v 4), .bool (adj v 5), .bool (adj v 6), .bool (adj v 7), .bool (adj v 8), .bool (adj v 9), .bool (adj v 10), .bool (adj v 11)]) W (by (simp only [h4, if_true]; go_simp; (try rfl); try (intro hneg; omega))) ⟨B, by (simp only [Act.put, List.setIfInBounds_toArray, List.set_cons_succ, List.set_cons_zero, Manyd.upd, Nat.reduceAdd, Nat.reduceBEq, Bool.or_false, Bool.or_true, if_true]), hT, fun e => hB (by simpa [Manyd.upd] using e)⟩⟩
    · rintro s a W hun hdep hbeh ⟨B, rfl, hT, hB⟩
      (try simp only [Nat.reduceAdd] at hun)
      obtain ⟨x0, x1, x2, x3, x4, x5, x6, x7, x8, x9, x10, x11⟩ := hcw.out W hT
      refine .inl ⟨by rfl, Inv.comesV_val (.agg #[.bool (wet 0), .bool (wet 1), .bool (wet 2), .bool (wet 3), .bool (wet 4), .bool (wet 5), .bool (wet 6), .bool (wet 7), .bool (wet 8), .bool (wet 9), .bool (wet 10), .bool (wet 11)]) W (by (go_simp; (try rfl); try (intro hneg; omega))) ⟨B, by (simp only [Act.put, List.setIfInBounds_toArray, List.set_cons_succ, List.set_cons_zero, Manyd.upd, Nat.reduceAdd, Nat.reduceBEq, Bool.or_false, Bool.or_true, if_true]), hT, fun e => hB (by simpa [Manyd.upd] using e)⟩⟩
    · rintro s a W hun hdep hbeh ⟨B, rfl, hT, hB⟩
      (try simp only [Nat.reduceAdd] at hun)
      have h5 : s 5 = true := Inv.depB_mem 5 hdep (by rfl)
      have h6 : s 6 = true := Inv.depB_mem 6 hdep (by rfl)
      refine .inl ⟨by rfl, Inv.comesV_call 85 #[.agg #[.bool (adj v 0), .bool (adj v 1), .bool (adj v 2), .bool (adj v 3), .bool (adj v 4), .bool (adj v 5), .bool (adj v 6), .bool (adj v 7), .bool (adj v 8), .bool (adj v 9), .bool (adj v 10), .bool (adj v 11)], .agg #[.bool (wet 0), .bool (wet 1), .bool (wet 2), .bool (wet 3), .bool (wet 4), .bool (wet 5), .bool (wet 6), .bool (wet 7), .bool (wet 8), .bool (wet 9), .bool (wet 10), .bool (wet 11)]] W (by (simp only [h5, h6, if_true]; go_simp; try rfl)) ((q47 W).mono fun e w5 hw5 => ⟨.agg #[.bool (D 0), .bool (D 1), .bool (D 2), .bool (D 3), .bool (D 4), .bool (D 5), .bool (D 6), .bool (D 7), .bool (D 8), .bool (D 9), .bool (D 10), .bool (D 11)], hw5.1, B, ?_, hT.after hw5.2, ?_⟩)⟩
      · simp only [Act.put, List.setIfInBounds_toArray, List.set_cons_succ, List.set_cons_zero, Manyd.upd, Nat.reduceAdd, Nat.reduceBEq, Bool.or_false, Bool.or_true, if_true]
      · intro e; have n8 : s 8 = false := hbeh 8 (by kernel_rfl)
        simp [Manyd.upd, n8] at e
    · rintro s a W hun hdep hbeh ⟨B, rfl, hT, hB⟩
      (try simp only [Nat.reduceAdd] at hun)
      have h7 : s 7 = true := Inv.depB_mem 7 hdep (by rfl)
      refine .inl ⟨by rfl, Inv.comesV_call 62 #[.agg #[.bool (D 0), .bool (D 1), .bool (D 2), .bool (D 3), .bool (D 4), .bool (D 5), .bool (D 6), .bool (D 7), .bool (D 8), .bool (D 9), .bool (D 10), .bool (D 11)]] W (by (simp only [h7, if_true]; go_simp; try rfl)) ((q39 W).mono fun e w5 hw5 => ⟨.func (.func 83) #[] #[.pointer (some ⟨W.heap.size, 0, none⟩)], hw5.1, W.heap.size, ?_, ?_, ?_⟩)⟩
      · simp only [Act.put, List.setIfInBounds_toArray, List.set_cons_succ, List.set_cons_zero, Manyd.upd, Nat.reduceAdd, Nat.reduceBEq, Bool.or_false, Bool.or_true, if_true]
      · rw [hw5.2]; exact hT.after ((Below.refl _ _).alloc (Nat.le_refl _) _)
      · intro _; rw [hw5.2]; exact ⟨SetAt.new W D, hT.sz⟩
  rintro s a W hs ⟨B, rfl, hT, hB⟩
  obtain ⟨hSB, hB3⟩ := hB (hs 8 (by decide))
  simp only [hs 0 (by decide), hs 1 (by decide), hs 2 (by decide), hs 3 (by decide), hs 4 (by decide), hs 5 (by decide), hs 6 (by decide), hs 7 (by decide), hs 8 (by decide), if_true]
  clear hs hB hI q47 q39 hcw hca

  have hlt := hSB.lt
  have hT6 := hT.t6
  have hT7 := hT.t7
  have hbw := hT.bw
  have hsz := hT.sz
  clear hT
  go_wp2
  refine (wpIn_wide (n := 0)).1 ?_
  refine Stp.range_givesS (gf := 83) (lb := #[.pointer (some ⟨B, 0, none⟩)]) rfl (enters_of Try.func83 (by kernel_rfl) rfl) (encs := encK) (xs := vsTo D 12)
    (R := fun V => SetAt V B D) (fun x => rfl) (fun W1' _ _ => vertices_gives W1')
    (fun pre _ => pre.isEmpty) .ret .ret (.inl ⟨rfl, rfl⟩)
    (fun pre V => SetAt V B D ∧ (V.cell? ⟨w.heap.size + 1, 0, none⟩ = some (.int .i64 0) ∧ V.frozen? ⟨w.heap.size + 1, 0, none⟩ = false) ∧ (V.cell? ⟨w.heap.size + 1 + 1, 0, none⟩ = some (.int .i64 (hd pre)) ∧ V.frozen? ⟨w.heap.size + 1 + 1, 0, none⟩ = false) ∧ Below w.heap.size w V)
    (fun pre V => SetAt V B D ∧ V.cell? ⟨w.heap.size + 1, 0, none⟩ = some (.int .i64 (-1)) ∧ Below w.heap.size w V)
    ?_ ?olds (fun pre W h => h.1) (fun pre W h => h.1) ⟨hSB, ⟨by simp [World.cell?, hT6], by simp [World.frozen?, hT6]⟩, ⟨by simp [World.cell?, hT7, hd], by simp [World.frozen?, hT7]⟩, hbw⟩
    (fun x a' V => a' = { tmps := #[.pointer (some ⟨b, 0, none⟩), .int .i64 v, .agg #[.bool (wet 0), .bool (wet 1), .bool (wet 2), .bool (wet 3), .bool (wet 4), .bool (wet 5), .bool (wet 6), .bool (wet 7), .bool (wet 8), .bool (wet 9), .bool (wet 10), .bool (wet 11)], undef, undef, .pointer (some ⟨w.heap.size, 0, none⟩), .pointer (some ⟨w.heap.size + 1, 0, none⟩), .pointer (some ⟨w.heap.size + 1 + 1, 0, none⟩), .int .i64 (x : Nat), .pointer (some ⟨b, 0, none⟩), .int .i64 v, .pointer (some ⟨b, 0, none⟩), .pointer (some ⟨b, 1, none⟩), .pointer (some ⟨b, 1 + v * 12, none⟩), .agg #[.bool (adj v 0), .bool (adj v 1), .bool (adj v 2), .bool (adj v 3), .bool (adj v 4), .bool (adj v 5), .bool (adj v 6), .bool (adj v 7), .bool (adj v 8), .bool (adj v 9), .bool (adj v 10), .bool (adj v 11)], .agg #[.bool (wet 0), .bool (wet 1), .bool (wet 2), .bool (wet 3), .bool (wet 4), .bool (wet 5), .bool (wet 6), .bool (wet 7), .bool (wet 8), .bool (wet 9), .bool (wet 10), .bool (wet 11)], .agg #[.bool (D 0), .bool (D 1), .bool (D 2), .bool (D 3), .bool (D 4), .bool (D 5), .bool (D 6), .bool (D 7), .bool (D 8), .bool (D 9), .bool (D 10), .bool (D 11)], .func (.func 83) #[] #[.pointer (some ⟨B, 0, none⟩)], .int .i64 (x : Nat), undef, undef, undef, undef], defers := [] })
    ?_ ?assign ?body ?done ?stop
  · rintro pre V V' ⟨k1, ⟨k2, k3⟩, ⟨k4, k5⟩, k6⟩ hb
    exact ⟨k1.below hb hlt, ⟨(hb.cell (p := ⟨w.heap.size + 1, 0, none⟩) (by show w.heap.size + 1 < _; omega)).trans k2, (World.frozen?_of_block (a := ⟨w.heap.size + 1, 0, none⟩) (hb.block _ (by show w.heap.size + 1 < _; omega))).trans k3⟩, ⟨(hb.cell (p := ⟨w.heap.size + 1 + 1, 0, none⟩) (by show w.heap.size + 1 + 1 < _; omega)).trans k4, (World.frozen?_of_block (a := ⟨w.heap.size + 1 + 1, 0, none⟩) (hb.block _ (by show w.heap.size + 1 + 1 < _; omega))).trans k5⟩, k6.trans (hb.mono (by omega))⟩
  case olds =>
    rintro pre V V' ⟨k1, k2, k6⟩ hb
    exact ⟨k1.below hb hlt, (hb.cell (p := ⟨w.heap.size + 1, 0, none⟩) (by show w.heap.size + 1 < _; omega)).trans k2, k6.trans (hb.mono (by omega))⟩
  · rintro x a' V V' h hf
    exact h
  case assign =>
    intro l2 pre x V K hi hsz2 hK
    unfold encK
    gi_wp2
    exact hK _ _ (Below.refl V.heap.size V) (by first | rfl | simp)
  case body =>
    rintro l2 pre x a' V ⟨k1, ⟨k2, k3⟩, ⟨k4, k5⟩, k6⟩ rfl hsz2 ⟨post, hpost⟩
    cases pre with
    | nil =>
      rw [show hd [] = -1 from rfl] at k4
      have hf : From W.heap.size V (V.setCell ⟨w.heap.size + 1 + 1, 0, none⟩ (.int .i64 (x : Nat))) := (From.refl _ _).setCell (by show w.heap.size + 1 + 1 < _; omega) _
      have h1 : SetAt (V.setCell ⟨w.heap.size + 1 + 1, 0, none⟩ (.int .i64 (x : Nat))) B D := k1.other (by omega)
      have h2 : Below w.heap.size w (V.setCell ⟨w.heap.size + 1 + 1, 0, none⟩ (.int .i64 (x : Nat))) := k6.setCell (p := ⟨w.heap.size + 1 + 1, 0, none⟩) (by show w.heap.size ≤ w.heap.size + 1 + 1; omega) _
      have h3 : hd [x] = (x : Int) := rfl
      gi_wp2
      exact ⟨rfl, rfl⟩
    | cons u rest =>
      rw [show hd (u :: rest) = (u : Int) from rfl] at k4
      have hu : (0 : Int) ≤ (u : Int) := by omega
      have hf : From W.heap.size V (V.setCell ⟨w.heap.size + 1, 0, none⟩ (.int .i64 (-1))) := (From.refl _ _).setCell (by show w.heap.size + 1 < _; omega) _
      have h1 : SetAt (V.setCell ⟨w.heap.size + 1, 0, none⟩ (.int .i64 (-1))) B D := k1.other (by omega)
      have h2 : Below w.heap.size w (V.setCell ⟨w.heap.size + 1, 0, none⟩ (.int .i64 (-1))) := k6.setCell (p := ⟨w.heap.size + 1, 0, none⟩) (by show w.heap.size ≤ w.heap.size + 1; omega) _
      gi_wp2
      exact ⟨rfl, rfl⟩
  case done =>
    rintro V ⟨k1, ⟨k2, k3⟩, ⟨k4, k5⟩, k6⟩ hgo hsz2 hDf
    have hv : hd (vsTo D 12) = onlyOf D := by
      unfold onlyOf
      cases hx : vsTo D 12 with
      | nil => rfl
      | cons u rest =>
        cases rest with
        | nil => rfl
        | cons y post =>
          have := hgo [u] y post hx
          cases this
    rw [hv] at k4
    gi_wp2
    go_wp2
    have hDf3 : (V.setCell ⟨w.heap.size + 1, 0, none⟩ (.int .i64 (onlyOf D))).heap[W.heap.size]? = some (.deferred (some [])) := (Below.heap_setCell V ⟨w.heap.size + 1, 0, none⟩ _ _ (by show W.heap.size ≠ w.heap.size + 1; omega)).trans hDf
    have c3 : (V.setCell ⟨w.heap.size + 1, 0, none⟩ (.int .i64 (onlyOf D))).cell? ⟨w.heap.size + 1, 0, none⟩ = some (.int .i64 (onlyOf D)) := by go_simp
    have h3 : Below w.heap.size w (V.setCell ⟨w.heap.size + 1, 0, none⟩ (.int .i64 (onlyOf D))) := k6.setCell (p := ⟨w.heap.size + 1, 0, none⟩) (by show w.heap.size ≤ w.heap.size + 1; omega) _
    have s3 := (Array.getElem?_eq_some_iff.1 hDf3).1
    revert hDf3 c3 h3 s3
    generalize V.setCell ⟨w.heap.size + 1, 0, none⟩ (.int .i64 (onlyOf D)) = V3
    intro hDf3 c3 h3 s3
    refine Qr.leaves_mark hDf3 fun w' hk => ⟨.int .i64 (onlyOf D), ?_, rfl, h3.trans (hk.below (by omega) (by omega))⟩
    have c6 : w'.cell? ⟨w.heap.size + 1, 0, none⟩ = some (.int .i64 (onlyOf D)) := by
      rw [World.cell?_of_block (a := ⟨w.heap.size + 1, 0, none⟩) (hk.block _ (by show w.heap.size + 1 < _; omega) (by show w.heap.size + 1 ≠ _; omega) (by show w.heap.size + 1 ≠ _; omega))]; exact c3
    first
      | (rw [results_cell rfl]; go_simp)
      | (simp [results, Try.results81, go_sem]; go_simp)
  case stop =>
    rintro V pr x post hx hgo hf ⟨k1, k2, k6⟩ hsz2 hDf
    have hv : onlyOf D = -1 := by
      unfold onlyOf
      rw [hx]
      cases pr with
      | nil => cases hf
      | cons u rest =>
        cases rest with
        | nil => rfl
        | cons y post => rfl
    gi_wp2
    refine Qr.leaves_mark hDf fun w' hk => ⟨.int .i64 (-1), ?_, by rw [hv], k6.trans (hk.below (by omega) (by omega))⟩
    have c6 : w'.cell? ⟨w.heap.size + 1, 0, none⟩ = some (.int .i64 (-1)) := by
      rw [World.cell?_of_block (a := ⟨w.heap.size + 1, 0, none⟩) (hk.block _ (by show w.heap.size + 1 < _; omega) (by show w.heap.size + 1 ≠ _; omega) (by show w.heap.size + 1 ≠ _; omega))]; exact k2
    first
      | (rw [results_cell rfl]; go_simp)
      | (simp [results, Try.results81, go_sem]; go_simp)
end Go.Proofs.Yteekigpdiklppaa
set_option linter.unusedSimpArgs false
set_option linter.unusedVariables false
namespace Go.Proofs.Yteekigpdiklppaa
open Go Go.Proofs Go.RowKit Go.Seq
theorem threshold_any (r : Int) (w : World) : Calls Try.prog 66 #[.int .i64 r] w fun e w' => e = .returned (.bool (decide (1 ≤ r ∧ r ≤ 6))) ∧ w' = w := by
  by_cases h1 : 1 ≤ r
  · by_cases h2 : r ≤ 6
    · rw [decide_eq_true ⟨h1, h2⟩]
      go_enter Try.func66, Try.ntmps66
      go_wp2
      go_ret
      exact ⟨rfl, rfl⟩
    · rw [decide_eq_false (fun h => h2 h.2)]
      go_enter Try.func66, Try.ntmps66
      go_wp2
      go_ret
      exact ⟨rfl, rfl⟩
  · rw [decide_eq_false (fun h => h1 h.1)]
    go_enter Try.func66, Try.ntmps66
    go_wp2
    go_ret
    exact ⟨rfl, rfl⟩
theorem has_any {b n : Nat} {adj : Nat → Nat → Bool} {w : World} (hg : GraphAt w b n adj) (v : Int) : Calls Try.prog 80 #[.pointer (some ⟨b, 0, none⟩), .int .i64 v] w fun e w' => e = .returned (.bool (decide (0 ≤ v ∧ v < (n : Int)))) ∧ w' = w := by
  have c0 := hg.size
  by_cases h1 : 0 ≤ v
  · by_cases h2 : v < (n : Int)
    · rw [decide_eq_true ⟨h1, h2⟩]
      go_enter Try.func80, Try.ntmps80
      go_wp2
      go_ret
      exact ⟨rfl, rfl⟩
    · rw [decide_eq_false (fun h => h2 h.2)]
      go_enter Try.func80, Try.ntmps80
      go_wp2
      go_ret
      exact ⟨rfl, rfl⟩
  · rw [decide_eq_false (fun h => h1 h.1)]
    go_enter Try.func80, Try.ntmps80
    go_wp2
    go_ret
    exact ⟨rfl, rfl⟩
end Go.Proofs.Yteekigpdiklppaa
set_option linter.unusedSimpArgs false
set_option linter.unusedVariables false
namespace Go.Proofs.Yteekigpdiklppaa
open Go Go.Proofs Go.RowKit Go.Seq
attribute [local go_sem] Oper.semAt_some
set_option maxRecDepth 100000 in
theorem SetAt.store12 {W : World} {b : Nat} {s s' : Nat → Bool} (h : SetAt W b s) : SetAt ((((((((((((W.setCell ⟨b, 0, none⟩ (.bool (s' 0))).setCell ⟨b, 1, none⟩ (.bool (s' 1))).setCell ⟨b, 2, none⟩ (.bool (s' 2))).setCell ⟨b, 3, none⟩ (.bool (s' 3))).setCell ⟨b, 4, none⟩ (.bool (s' 4))).setCell ⟨b, 5, none⟩ (.bool (s' 5))).setCell ⟨b, 6, none⟩ (.bool (s' 6))).setCell ⟨b, 7, none⟩ (.bool (s' 7))).setCell ⟨b, 8, none⟩ (.bool (s' 8))).setCell ⟨b, 9, none⟩ (.bool (s' 9))).setCell ⟨b, 10, none⟩ (.bool (s' 10))).setCell ⟨b, 11, none⟩ (.bool (s' 11))) b s' := by
  unfold SetAt at *

  have h0 := heap_set h (i := 0) (.bool (s' 0))
  have h1 := heap_set h0 (i := 1) (.bool (s' 1))
  have h2 := heap_set h1 (i := 2) (.bool (s' 2))
  have h3 := heap_set h2 (i := 3) (.bool (s' 3))
  have h4 := heap_set h3 (i := 4) (.bool (s' 4))
  have h5 := heap_set h4 (i := 5) (.bool (s' 5))
  have h6 := heap_set h5 (i := 6) (.bool (s' 6))
  have h7 := heap_set h6 (i := 7) (.bool (s' 7))
  have h8 := heap_set h7 (i := 8) (.bool (s' 8))
  have h9 := heap_set h8 (i := 9) (.bool (s' 9))
  have h10 := heap_set h9 (i := 10) (.bool (s' 10))
  have h11 := heap_set h10 (i := 11) (.bool (s' 11))
  rw [h11]
  simp [sc]
theorem vsTo_lt {s : Nat → Bool} {k u : Nat} (h : u ∈ vsTo s k) : u < k ∧ s u = true := by
  unfold vsTo at h
  rw [List.mem_filter] at h
  exact ⟨by simpa using h.1, h.2⟩
theorem onlyOf_or (D : Nat → Bool) : onlyOf D = -1 ∨ ∃ u : Nat, u < 12 ∧ onlyOf D = (u : Int) := by
  unfold onlyOf
  cases hx : vsTo D 12 with
  | nil => exact .inl rfl
  | cons u rest =>
    cases rest with
    | nil => exact .inr ⟨u, (vsTo_lt (k := 12) (by rw [hx]; simp)).1, rfl⟩
    | cons y post => exact .inl rfl
/-- What is wet behind a round of forcing by the places of a list. -/
def fcd (adj : Nat → Nat → Bool) (wet : Nat → Bool) (pre : List Nat) (j : Nat) : Bool := wet j || pre.any fun v => onlyOf (fun u => adj v u && !wet u) == (j : Int)
structure FcI (w : World) (b n : Nat) (adj : Nat → Nat → Bool) (wet : Nat → Bool) (pre : List Nat) (W : World) : Prop where
  it : SetAt W (w.heap.size + 1 + 1 + 1 + 1) wet
  g : GraphAt W b n adj
  p : W.cell? ⟨w.heap.size, 0, none⟩ = some (.pointer (some ⟨b, 0, none⟩))
  x : SetAt W (w.heap.size + 1) wet
  z : SetAt W (w.heap.size + 1 + 1) (fun _ => false)
  nx : SetAt W (w.heap.size + 1 + 1 + 1) (fcd adj wet pre)
  bw : Below w.heap.size w W
theorem FcI.below {w W W' : World} {b n B : Nat} {adj : Nat → Nat → Bool} {wet : Nat → Bool} {pre : List Nat} (h : FcI w b n adj wet pre W) (hb : Below B W W') (hB : w.heap.size + 5 ≤ B) (hg : b < w.heap.size) : FcI w b n adj wet pre W' :=
  ⟨h.it.below hb (by omega), h.g.below hb (by omega), (hb.cell (p := ⟨w.heap.size, 0, none⟩) (by show w.heap.size < B; omega)).trans h.p, h.x.below hb (by omega), h.z.below hb (by omega), h.nx.below hb (by omega), h.bw.trans (hb.mono (by omega))⟩
set_option maxHeartbeats 4000000 in
set_option maxRecDepth 100000 in
theorem force_any {b n : Nat} {adj : Nat → Nat → Bool} {w : World} (wet : Nat → Bool) (hg : GraphAt w b n adj) :
    Calls Try.prog 59 #[.pointer (some ⟨b, 0, none⟩), setV wet] w fun e w' => e = .returned (setV (fcd adj wet (vsTo wet 12))) ∧ Below w.heap.size w w' := by
  have hgl := hg.lt
  obtain ⟨wa, hwa⟩ : ∃ wa, w.alloc (.cells #[.pointer (some ⟨b, 0, none⟩)] 77) = wa := ⟨_, rfl⟩
  obtain ⟨wb, hwb⟩ : ∃ wb, wa.alloc (.cells (sc wet) 79) = wb := ⟨_, rfl⟩
  obtain ⟨wc, hwc⟩ : ∃ wc, wb.alloc (.cells (sc (fun _ => false)) 79) = wc := ⟨_, rfl⟩
  have sa : wa.heap.size = w.heap.size + 1 := by rw [← hwa]; simp
  have sb : wb.heap.size = w.heap.size + 1 + 1 := by rw [← hwb]; simp [sa]
  have ss : wc.heap.size = w.heap.size + 1 + 1 + 1 := by rw [← hwc]; simp [sb]
  have ba : Below w.heap.size w wa := by rw [← hwa]; exact (Below.refl _ _).alloc (Nat.le_refl _) _
  have bb : Below wa.heap.size wa wb := by rw [← hwb]; exact (Below.refl _ _).alloc (Nat.le_refl _) _
  have bc : Below wb.heap.size wb wc := by rw [← hwc]; exact (Below.refl _ _).alloc (Nat.le_refl _) _
  have p0 : wa.heap[w.heap.size]? = some (.cells #[.pointer (some ⟨b, 0, none⟩)] 77 (0, 0)) := by rw [← hwa]; exact World.alloc_heap_new w _
  have fb : SetAt wb (w.heap.size + 1) wet := by rw [← sa, ← hwb]; exact SetAt.new _ _
  have fz : SetAt wc (w.heap.size + 1 + 1) (fun _ => false) := by rw [← sb, ← hwc]; exact SetAt.new _ _
  have fx := fb.after bc
  have bw : Below w.heap.size w wc := (ba.trans (bb.mono (by omega))).trans (bc.mono (by omega))
  have hp : wc.heap[w.heap.size]? = some (.cells #[.pointer (some ⟨b, 0, none⟩)] 77 (0, 0)) := by rw [(bb.trans (bc.mono (by omega))).block _ (by omega)]; exact p0
  have hw : ((w.alloc (.cells #[.pointer (some ⟨b, 0, none⟩)] 77)).alloc (.cells (sc wet) 79)).alloc (.cells (sc (fun _ => false)) 79) = wc := by rw [hwa, hwb, hwc]
  clear hwa hwb hwc sa sb ba bb bc p0 fb
  obtain ⟨x0, x1, x2, x3, x4, x5, x6, x7, x8, x9, x10, x11⟩ := fx.c12
  have q39 := fun w => vertices_any wet w
  obtain ⟨wd, hwd⟩ : ∃ wd, wc.alloc (.cells (sc wet) 79) = wd := ⟨_, rfl⟩
  have bd : Below wc.heap.size wc wd := by rw [← hwd]; exact (Below.refl _ _).alloc (Nat.le_refl _) _
  have sd : wd.heap.size = w.heap.size + 4 := by rw [← hwd]; simp [ss]
  have fd : SetAt wd (w.heap.size + 1 + 1 + 1) wet := by rw [← ss, ← hwd]; exact SetAt.new _ _
  obtain ⟨we, hwe⟩ : ∃ we, wd.alloc (.cells (sc wet) 79) = we := ⟨_, rfl⟩
  have be : Below wd.heap.size wd we := by rw [← hwe]; exact (Below.refl _ _).alloc (Nat.le_refl _) _
  have se : we.heap.size = w.heap.size + 5 := by rw [← hwe]; simp [sd]
  have fe : SetAt we (w.heap.size + 1 + 1 + 1 + 1) wet := by
    have h := SetAt.new wd wet
    rw [hwe, sd] at h; exact h
  have bde := bd.trans (be.mono bd.size)
  have hI : FcI w b n adj wet [] we := ⟨fe, (hg.below bw hgl).below bde (by omega), by simp [World.cell?, (bde.block w.heap.size (by omega)).trans hp], fx.below bde (by omega), fz.below bde (by omega), by
    have h := fd.below be (by omega)
    unfold SetAt at h ⊢
    rw [h, sc_ext (s := wet) (s' := fcd adj wet []) (fun j _ => by simp [fcd])], bw.trans (bde.mono (by omega))⟩
  have hwde : (wc.alloc (.cells (sc wet) 79)).alloc (.cells (sc wet) 79) = we := by rw [hwd, hwe]
  clear hwd hwe bd be bde fd fe fx fz hp bw
  have q40 := Keep.mk (fun (W : World) (v : Nat) (hv : v < 12) (h : GraphAt W b n adj) => onlyDry_any wet h hv)
  unfold setV sc at q39 q40 hw hwde ⊢
  refine (callsIn_wide (n := 0)).1 ?_
  refine callsIn_of_wp_marks Try.func59 rfl trivial ?_ rfl
  simp only [Try.ntmps59, List.size_toArray, List.length_cons, List.length_nil, Nat.reduceAdd, Nat.reduceSub, Array.replicate_succ, Array.replicate_zero, List.push_toArray, List.append_toArray, List.nil_append, List.cons_append]
  refine wpIn_wide.2 ?_
  go_wp2_with (first
    | (go_at_call 62; (with_reducible refine (q39 _).mono ?_); rintro e w5 ⟨rfl, hw5⟩; rw [hw5]; clear hw5 w5))
  refine (wpIn_wide (n := 0)).1 ?_
  try rw [hwde]

  clear hwde hw q39 x0 x1 x2 x3 x4 x5 x6 x7 x8 x9 x10 x11
  refine range_gives (gf := 83) (lb := #[.pointer (some ⟨w.heap.size + 1 + 1 + 1 + 1, 0, none⟩)]) rfl (enters_of Try.func83 (by kernel_rfl) rfl) (encs := encK) (xs := vsTo wet 12)
    (R := fun V => SetAt V (w.heap.size + 1 + 1 + 1 + 1) wet) (fun x => rfl) (fun W1' _ _ => (vertices_gives W1').gives)
    (fun pre V => FcI w b n adj wet pre V ∧ w.heap.size + 5 ≤ V.heap.size) ?_ (fun pre V h => h.1.it) ⟨hI, by omega⟩
    (fun x a' V => a' = { tmps := #[.pointer (some ⟨b, 0, none⟩), .agg #[.bool (wet 0), .bool (wet 1), .bool (wet 2), .bool (wet 3), .bool (wet 4), .bool (wet 5), .bool (wet 6), .bool (wet 7), .bool (wet 8), .bool (wet 9), .bool (wet 10), .bool (wet 11)], .pointer (some ⟨w.heap.size, 0, none⟩), .pointer (some ⟨w.heap.size + 1, 0, none⟩), .pointer (some ⟨w.heap.size + 1 + 1, 0, none⟩), .pointer (some ⟨w.heap.size + 1 + 1 + 1, 0, none⟩), .int .i64 (x : Nat), undef, .agg #[.bool (wet 0), .bool (wet 1), .bool (wet 2), .bool (wet 3), .bool (wet 4), .bool (wet 5), .bool (wet 6), .bool (wet 7), .bool (wet 8), .bool (wet 9), .bool (wet 10), .bool (wet 11)], .agg #[.bool (wet 0), .bool (wet 1), .bool (wet 2), .bool (wet 3), .bool (wet 4), .bool (wet 5), .bool (wet 6), .bool (wet 7), .bool (wet 8), .bool (wet 9), .bool (wet 10), .bool (wet 11)], .func (.func 83) #[] #[.pointer (some ⟨w.heap.size + 1 + 1 + 1 + 1, 0, none⟩)], .int .i64 (x : Nat), undef, undef, undef, undef, undef, undef, undef, undef, undef], defers := [] })
    ?_ ?assign ?body ?done
  · rintro pre V V' ⟨k1, k2⟩ hb
    exact ⟨k1.below hb (by omega) hgl, Nat.le_trans k2 hb.size⟩
  · rintro x a' V V' h hf
    exact h
  case assign =>
    intro l2 pre x V K hi hsz2 hK
    unfold encK
    gi_wp2
    exact hK _ _ (Below.refl V.heap.size V) (by first | rfl | simp)
  case body =>
    rintro l2 pre x a' V ⟨k1, k2⟩ rfl hsz2 ⟨post, hpost⟩
    have hx : x < 12 := (vsTo_lt (s := wet) (k := 12) (by rw [hpost]; simp)).1
    have q := q40.out V x hx k1.g
    have k1k := Keep.mk k1
    have p0 := k1.p
    obtain ⟨x0, x1, x2, x3, x4, x5, x6, x7, x8, x9, x10, x11⟩ := k1.x.c12
    clear k1 q40
    obtain ⟨D, hD⟩ : ∃ D : Nat → Bool, (fun u => adj x u && !wet u) = D := ⟨_, rfl⟩
    rw [hD] at q
    rcases onlyOf_or D with e0 | ⟨u, hu, e0⟩
    · have hfc : Keep (∀ j, fcd adj wet (pre ++ [x]) j = fcd adj wet pre j) := ⟨fun j => by
        unfold fcd
        rw [List.any_append]
        simp [hD, e0, show ((-1 : Int) == (j : Int)) = false by rw [beq_eq_false_iff_ne]; omega]⟩
      rw [e0] at q
      gi_wp2_with (refine ⟨trivial, rfl, ?_⟩; gi_at_call 81; refine (CallsIn.inRound l2 (callsIn_wide.2 q)).mono ?_; rintro e V5 ⟨rfl, hb5⟩)
      have k5 := k1k.out.below hb5 (by omega) hgl
      refine ⟨⟨⟨k5.it, k5.g, k5.p, k5.x, k5.z, ?_, k5.bw⟩, Nat.le_trans k2 hb5.size⟩, From.of_below hb5 (Nat.le_refl _), hb5.os, hb5.tape, hb5.output⟩
      have h := k5.nx
      unfold SetAt at h ⊢
      rw [h, sc_ext (fun j _ => hfc.out j)]
    · have hfc : Keep (∀ j, fcd adj wet (pre ++ [x]) j = (fcd adj wet pre j || decide (j = u))) := ⟨fun j => by
        unfold fcd
        rw [List.any_append, Bool.or_assoc]
        have he : ((u : Int) == (j : Int)) = decide (j = u) := by
          by_cases h : j = u
          · subst h; simp
          · rw [decide_eq_false h, beq_eq_false_iff_ne]; omega
        simp [hD, e0, he]⟩
      rw [e0] at q
      have hu1 : (u : Int) < 12 := by omega
      have hu2 : ¬ (u : Int) < 0 := by omega
      have hu3 : (0 : Int) ≤ (u : Int) := by omega
      gi_wp2_with (refine ⟨trivial, rfl, ?_⟩; gi_at_call 81; refine (CallsIn.inRound l2 (callsIn_wide.2 q)).mono ?_; rintro e V5 ⟨rfl, hb5⟩; have k5 := Keep.mk (k1k.out.below hb5 (by omega) hgl); obtain ⟨cu, fu⟩ := k5.out.nx.cell (k := u) hu)
      have k6 := k5.out
      refine ⟨⟨⟨k6.it.other (by omega), ⟨(World.cell?_of_block (a := ⟨b, 0, none⟩) (Below.heap_setCell _ _ _ _ (by show b ≠ w.heap.size + 1 + 1 + 1; omega))).trans k6.g.size, fun i j hi hj => (World.cell?_of_block (a := ⟨b, 1 + i * 12 + j, none⟩) (Below.heap_setCell _ _ _ _ (by show b ≠ w.heap.size + 1 + 1 + 1; omega))).trans (k6.g.at_ i j hi hj)⟩, (World.cell?_of_block (a := ⟨w.heap.size, 0, none⟩) (Below.heap_setCell _ _ _ _ (by show w.heap.size ≠ w.heap.size + 1 + 1 + 1; omega))).trans k6.p, k6.x.other (by omega), k6.z.other (by omega), k6.nx.set hu (by rw [hfc.out]; simp) (fun j _ hj => by rw [hfc.out]; simp [hj]), k6.bw.setCell (p := ⟨w.heap.size + 1 + 1 + 1, u, none⟩) (by show w.heap.size ≤ w.heap.size + 1 + 1 + 1; omega) _⟩, Nat.le_trans k2 hb5.size⟩, (From.of_below hb5 (Nat.le_refl _)).setCell (by show w.heap.size + 1 + 1 + 1 < w.heap.size + 5; omega) _, hb5.os, hb5.tape, hb5.output⟩
  case done =>
    rintro V ⟨k1, k2⟩ hsz2 hDf
    obtain ⟨F, hF⟩ : ∃ F, fcd adj wet (vsTo wet 12) = F := ⟨_, rfl⟩
    have k1n := k1.nx
    rw [hF] at k1n
    obtain ⟨y0, y1, y2, y3, y4, y5, y6, y7, y8, y9, y10, y11⟩ := k1n.c12
    obtain ⟨z0, z1, z2, z3, z4, z5, z6, z7, z8, z9, z10, z11⟩ := k1.z.c12
    obtain ⟨f0, f1, f2, f3, f4, f5, f6, f7, f8, f9, f10, f11⟩ := k1.z.f12
    have hst := Keep.mk (k1.z.store12 (s' := F))
    have hbk := Keep.mk k1.bw
    clear k1 k1n
    gi_wp2
    go_wp2
    have hbw : Below w.heap.size w ((((((((((((V.setCell ⟨w.heap.size + 1 + 1, 0, none⟩ (.bool (F 0))).setCell ⟨w.heap.size + 1 + 1, 1, none⟩ (.bool (F 1))).setCell ⟨w.heap.size + 1 + 1, 2, none⟩ (.bool (F 2))).setCell ⟨w.heap.size + 1 + 1, 3, none⟩ (.bool (F 3))).setCell ⟨w.heap.size + 1 + 1, 4, none⟩ (.bool (F 4))).setCell ⟨w.heap.size + 1 + 1, 5, none⟩ (.bool (F 5))).setCell ⟨w.heap.size + 1 + 1, 6, none⟩ (.bool (F 6))).setCell ⟨w.heap.size + 1 + 1, 7, none⟩ (.bool (F 7))).setCell ⟨w.heap.size + 1 + 1, 8, none⟩ (.bool (F 8))).setCell ⟨w.heap.size + 1 + 1, 9, none⟩ (.bool (F 9))).setCell ⟨w.heap.size + 1 + 1, 10, none⟩ (.bool (F 10))).setCell ⟨w.heap.size + 1 + 1, 11, none⟩ (.bool (F 11))) := by
      iterate 12 (refine Below.setCell ?_ (by show w.heap.size ≤ w.heap.size + 1 + 1; omega) _)
      exact hbk.out
    have hDf3 : ((((((((((((V.setCell ⟨w.heap.size + 1 + 1, 0, none⟩ (.bool (F 0))).setCell ⟨w.heap.size + 1 + 1, 1, none⟩ (.bool (F 1))).setCell ⟨w.heap.size + 1 + 1, 2, none⟩ (.bool (F 2))).setCell ⟨w.heap.size + 1 + 1, 3, none⟩ (.bool (F 3))).setCell ⟨w.heap.size + 1 + 1, 4, none⟩ (.bool (F 4))).setCell ⟨w.heap.size + 1 + 1, 5, none⟩ (.bool (F 5))).setCell ⟨w.heap.size + 1 + 1, 6, none⟩ (.bool (F 6))).setCell ⟨w.heap.size + 1 + 1, 7, none⟩ (.bool (F 7))).setCell ⟨w.heap.size + 1 + 1, 8, none⟩ (.bool (F 8))).setCell ⟨w.heap.size + 1 + 1, 9, none⟩ (.bool (F 9))).setCell ⟨w.heap.size + 1 + 1, 10, none⟩ (.bool (F 10))).setCell ⟨w.heap.size + 1 + 1, 11, none⟩ (.bool (F 11))).heap[we.heap.size]? = some (.deferred (some [])) := by
      iterate 12 (rw [Below.heap_setCell _ _ _ _ (by show we.heap.size ≠ w.heap.size + 1 + 1; omega)])
      exact hDf
    have hst := hst.out
    have s3 := hst.lt
    revert hst hbw hDf3 s3
    generalize ((((((((((((V.setCell ⟨w.heap.size + 1 + 1, 0, none⟩ (.bool (F 0))).setCell ⟨w.heap.size + 1 + 1, 1, none⟩ (.bool (F 1))).setCell ⟨w.heap.size + 1 + 1, 2, none⟩ (.bool (F 2))).setCell ⟨w.heap.size + 1 + 1, 3, none⟩ (.bool (F 3))).setCell ⟨w.heap.size + 1 + 1, 4, none⟩ (.bool (F 4))).setCell ⟨w.heap.size + 1 + 1, 5, none⟩ (.bool (F 5))).setCell ⟨w.heap.size + 1 + 1, 6, none⟩ (.bool (F 6))).setCell ⟨w.heap.size + 1 + 1, 7, none⟩ (.bool (F 7))).setCell ⟨w.heap.size + 1 + 1, 8, none⟩ (.bool (F 8))).setCell ⟨w.heap.size + 1 + 1, 9, none⟩ (.bool (F 9))).setCell ⟨w.heap.size + 1 + 1, 10, none⟩ (.bool (F 10))).setCell ⟨w.heap.size + 1 + 1, 11, none⟩ (.bool (F 11))) = V3
    intro hbw hDf3 hst s3
    refine Qr.leaves_mark hDf3 fun w' hk => ⟨.agg #[.bool (F 0), .bool (F 1), .bool (F 2), .bool (F 3), .bool (F 4), .bool (F 5), .bool (F 6), .bool (F 7), .bool (F 8), .bool (F 9), .bool (F 10), .bool (F 11)], ?_, by rw [← hF], hbw.trans (hk.below (by omega) (by omega))⟩
    have hst2 : SetAt w' (w.heap.size + 1 + 1) F := (hk.block _ s3 (by omega) (by omega)).trans hst
    obtain ⟨c0, c1, c2, c3, c4, c5, c6, c7, c8, c9, c10, c11⟩ := hst2.c12
    first
      | (rw [results_cell rfl]; go_simp)
      | (simp [results, Try.results59, go_sem]; go_simp)
end Go.Proofs.Yteekigpdiklppaa
set_option linter.unusedSimpArgs false
set_option linter.unusedVariables false
namespace Go.Proofs.Yteekigpdiklppaa
open Go Go.Proofs Go.RowKit Go.Seq
structure AllI (w : World) (k : Nat) (W : World) : Prop where
  z : SetAt W w.heap.size (fun _ => false)
  x : SetAt W (w.heap.size + 1) (fun j => decide (j < k))
  bw : Below w.heap.size w W
set_option maxHeartbeats 2000000 in
set_option maxRecDepth 100000 in
theorem all_any {b n : Nat} {adj : Nat → Nat → Bool} {w : World} (hg : GraphAt w b n adj) (hn : n ≤ 12) : Calls Try.prog 84 #[.pointer (some ⟨b, 0, none⟩)] w fun e w' => e = .returned (setV (fun j => decide (j < n))) ∧ Below w.heap.size w w' := by
  obtain ⟨wa, hwa⟩ : ∃ wa, w.alloc (.cells (sc (fun _ => false)) 79) = wa := ⟨_, rfl⟩
  obtain ⟨wb, hwb⟩ : ∃ wb, wa.alloc (.cells (sc (fun _ => false)) 79) = wb := ⟨_, rfl⟩
  have sa : wa.heap.size = w.heap.size + 1 := by rw [← hwa]; simp
  have ba : Below w.heap.size w wa := by rw [← hwa]; exact (Below.refl _ _).alloc (Nat.le_refl _) _
  have bb : Below wa.heap.size wa wb := by rw [← hwb]; exact (Below.refl _ _).alloc (Nat.le_refl _) _
  have fa : SetAt wa w.heap.size (fun _ => false) := by rw [← hwa]; exact SetAt.new _ _
  have fb : SetAt wb (w.heap.size + 1) (fun _ => false) := by rw [← sa, ← hwb]; exact SetAt.new _ _
  have bw := ba.trans (bb.mono (by omega))
  have hI : Keep (AllI w 0 wb) := ⟨fa.after bb, by
    unfold SetAt at fb ⊢
    rw [fb, sc_ext (s := fun _ => false) (s' := fun j => decide (j < 0)) (fun j _ => by simp)], bw⟩
  have c0 := (hg.below bw hg.lt).size
  have hw : (w.alloc (.cells (sc (fun _ => false)) 79)).alloc (.cells (sc (fun _ => false)) 79) = wb := by rw [hwa, hwb]
  clear hwa hwb sa ba bb fa fb bw hg
  obtain ⟨F, hF⟩ : ∃ F : Nat → Bool, (fun j => decide (j < n)) = F := ⟨_, rfl⟩
  rw [hF]
  unfold setV sc at *
  go_enter Try.func84, Try.ntmps84
  go_wp2
  try rw [hw]
  clear hw
  go_loopw [9] (fun i wr => ∃ k : Nat, k ≤ n ∧ i = .int .i64 k ∧ Keep (AllI w k wr)) (fun i _ => n - (intOf i).toNat)
  case atStart => exact ⟨0, by omega, rfl, hI⟩
  case round =>
    obtain ⟨k, hk, rfl, hI⟩ := hrel
    by_cases hlt : k < n
    · have hlt' : (k : Int) < (n : Int) := by omega
      have hk12 : (k : Int) < 12 := by omega
      have nk : ¬ (k : Int) < 0 := by omega
      have hw1 : IntKind.i64.wrap ((k : Int) + 1) = (k : Int) + 1 := IntWalk.i64_in _ (by omega)
      obtain ⟨cx, fx⟩ := hI.out.x.cell (k := k) (by omega)
      have hI2 : AllI w (k + 1) (wr.setCell ⟨w.heap.size + 1, k, none⟩ (.bool true)) :=
        ⟨hI.out.z.other (by omega), hI.out.x.set (by omega) (by simp) (fun j _ hj => by
          by_cases e : j < k
          · rw [decide_eq_true e, decide_eq_true (by omega)]
          · rw [decide_eq_false e, decide_eq_false (by omega)]), hI.out.bw.setCell (p := ⟨w.heap.size + 1, k, none⟩) (by show w.heap.size ≤ w.heap.size + 1; omega) _⟩
      have hI2k := Keep.mk hI2
      clear hI2
      go_wp2
      exact ⟨⟨k + 1, by omega, by go_num, hI2k⟩, by simp [intOf]; omega⟩
    · obtain rfl : k = n := by omega
      have hlt' : ¬ (k : Int) < (k : Int) := by omega
      have hx := hI.out.x
      rw [hF] at hx
      obtain ⟨x0, x1, x2, x3, x4, x5, x6, x7, x8, x9, x10, x11⟩ := hx.c12
      obtain ⟨z0, z1, z2, z3, z4, z5, z6, z7, z8, z9, z10, z11⟩ := hI.out.z.c12
      obtain ⟨f0, f1, f2, f3, f4, f5, f6, f7, f8, f9, f10, f11⟩ := hI.out.z.f12
      have hbk := Keep.mk hI.out.bw
      clear hI hx
      go_wp2
      refine bodyPost_ret (v := .agg #[.bool (F 0), .bool (F 1), .bool (F 2), .bool (F 3), .bool (F 4), .bool (F 5), .bool (F 6), .bool (F 7), .bool (F 8), .bool (F 9), .bool (F 10), .bool (F 11)]) (by simp [results, Try.results84, go_sem]; try go_simp) rfl ?_
      refine ⟨rfl, ?_⟩
      iterate 12 (refine Below.setCell ?_ (by show w.heap.size ≤ w.heap.size; omega) _)
      exact hbk.out
end Go.Proofs.Yteekigpdiklppaa
set_option linter.unusedSimpArgs false
set_option linter.unusedVariables false
namespace Go.Proofs.Yteekigpdiklppaa
open Go Go.Proofs Go.RowKit Go.Seq
set_option maxHeartbeats 1000000 in
set_option maxRecDepth 100000 in
theorem eq49 (F G : Nat → Bool) (w : World) : (Op.equalIn 10000 79 (.agg (sc F)) (.agg (sc G))).run Try.prog w = .ok ((List.range 12).all fun k => F k == G k) w := by
  have u4 := Try.underlying4
  have a4 := Try.isAgg4
  have z4 := Try.sizeOf4
  unfold sc
  rw [show (10000 : Nat) = 9999 + 1 from rfl, Op.equalIn]
  simp only [Sem.run_bind, run_underlying Try.underlying79, Result.andThen_ok]
  simp only [Std.Legacy.Range.forIn_eq_forIn_range', Std.Legacy.Range.size, Nat.sub_zero, Nat.add_sub_cancel, Nat.div_one, List.range'_succ, List.range'_zero, List.forIn_cons, List.forIn_nil]
  by_cases h0 : F 0 = G 0
  rotate_left
  · have e : (List.range 12).all (fun k => F k == G k) = false := by
      rw [List.all_eq_false]; exact ⟨0, by simp, by simp [h0]⟩
    rw [e]
    go_simp
    try simp [h0]
  by_cases h1 : F 1 = G 1
  rotate_left
  · have e : (List.range 12).all (fun k => F k == G k) = false := by
      rw [List.all_eq_false]; exact ⟨1, by simp, by simp [h1]⟩
    rw [e]
    go_simp
    try simp [h0, h1]
  by_cases h2 : F 2 = G 2
  rotate_left
  · have e : (List.range 12).all (fun k => F k == G k) = false := by
      rw [List.all_eq_false]; exact ⟨2, by simp, by simp [h2]⟩
    rw [e]
    go_simp
    try simp [h0, h1, h2]
  by_cases h3 : F 3 = G 3
  rotate_left
  · have e : (List.range 12).all (fun k => F k == G k) = false := by
      rw [List.all_eq_false]; exact ⟨3, by simp, by simp [h3]⟩
    rw [e]
    go_simp
    try simp [h0, h1, h2, h3]
  by_cases h4 : F 4 = G 4
  rotate_left
  · have e : (List.range 12).all (fun k => F k == G k) = false := by
      rw [List.all_eq_false]; exact ⟨4, by simp, by simp [h4]⟩
    rw [e]
    go_simp
    try simp [h0, h1, h2, h3, h4]
  by_cases h5 : F 5 = G 5
  rotate_left
  · have e : (List.range 12).all (fun k => F k == G k) = false := by
      rw [List.all_eq_false]; exact ⟨5, by simp, by simp [h5]⟩
    rw [e]
    go_simp
    try simp [h0, h1, h2, h3, h4, h5]
  by_cases h6 : F 6 = G 6
  rotate_left
  · have e : (List.range 12).all (fun k => F k == G k) = false := by
      rw [List.all_eq_false]; exact ⟨6, by simp, by simp [h6]⟩
    rw [e]
    go_simp
    try simp [h0, h1, h2, h3, h4, h5, h6]
  by_cases h7 : F 7 = G 7
  rotate_left
  · have e : (List.range 12).all (fun k => F k == G k) = false := by
      rw [List.all_eq_false]; exact ⟨7, by simp, by simp [h7]⟩
    rw [e]
    go_simp
    try simp [h0, h1, h2, h3, h4, h5, h6, h7]
  by_cases h8 : F 8 = G 8
  rotate_left
  · have e : (List.range 12).all (fun k => F k == G k) = false := by
      rw [List.all_eq_false]; exact ⟨8, by simp, by simp [h8]⟩
    rw [e]
    go_simp
    try simp [h0, h1, h2, h3, h4, h5, h6, h7, h8]
  by_cases h9 : F 9 = G 9
  rotate_left
  · have e : (List.range 12).all (fun k => F k == G k) = false := by
      rw [List.all_eq_false]; exact ⟨9, by simp, by simp [h9]⟩
    rw [e]
    go_simp
    try simp [h0, h1, h2, h3, h4, h5, h6, h7, h8, h9]
  by_cases h10 : F 10 = G 10
  rotate_left
  · have e : (List.range 12).all (fun k => F k == G k) = false := by
      rw [List.all_eq_false]; exact ⟨10, by simp, by simp [h10]⟩
    rw [e]
    go_simp
    try simp [h0, h1, h2, h3, h4, h5, h6, h7, h8, h9, h10]
  by_cases h11 : F 11 = G 11
  rotate_left
  · have e : (List.range 12).all (fun k => F k == G k) = false := by
      rw [List.all_eq_false]; exact ⟨11, by simp, by simp [h11]⟩
    rw [e]
    go_simp
    try simp [h0, h1, h2, h3, h4, h5, h6, h7, h8, h9, h10, h11]
  have e : (List.range 12).all (fun k => F k == G k) = true := by
    rw [List.all_eq_true]; intro k hk
    have hk : k < 12 := by simpa using hk
    match k, hk with
    | 0, _ => simp [h0]
    | 1, _ => simp [h1]
    | 2, _ => simp [h2]
    | 3, _ => simp [h3]
    | 4, _ => simp [h4]
    | 5, _ => simp [h5]
    | 6, _ => simp [h6]
    | 7, _ => simp [h7]
    | 8, _ => simp [h8]
    | 9, _ => simp [h9]
    | 10, _ => simp [h10]
    | 11, _ => simp [h11]
  rw [e]
  go_simp
  try simp [h0, h1, h2, h3, h4, h5, h6, h7, h8, h9, h10, h11]
end Go.Proofs.Yteekigpdiklppaa
