import Derived.Test.YteekigpdiklppaaProg
import Derived.Test.YteekigpdiklppaaSeqJ
import Derived.WalkKit
import Derived.WalkSpells
import Derived.BigQuiet
import Derived.Deep.QuietTactic
import Derived.Deep.RegionWith
import Derived.BigRegion
import Derived.StillTailTactics
import Derived.Shelf.Abstract
import Derived.Shelf.RegionOpen
import Derived.OwnWalkIn
import Derived.TacticsInMore
import Derived.LoopNIn
import Derived.LoopIn
set_option linter.unusedSimpArgs false
set_option linter.unusedVariables false
namespace Go.Proofs.Yteekigpdiklppaa
open Go Go.Proofs Go.RowKit Go.Seq
attribute [local go_sem] Oper.semAt_some
structure Keep (p : Prop) : Prop where
  out : p
/-- A set of places, as its twelve Bools. -/
def sc (s : Nat → Bool) : Array Value := #[.bool (s 0), .bool (s 1), .bool (s 2), .bool (s 3), .bool (s 4), .bool (s 5), .bool (s 6), .bool (s 7), .bool (s 8), .bool (s 9), .bool (s 10), .bool (s 11)]
def setV (s : Nat → Bool) : Value := .agg (sc s)
theorem sc_at (s : Nat → Bool) : ∀ k, k < 12 → (sc s)[k]? = some (.bool (s k)) := by
  intro k hk
  match k, hk with
  | 0, _ => rfl | 1, _ => rfl | 2, _ => rfl | 3, _ => rfl | 4, _ => rfl | 5, _ => rfl | 6, _ => rfl | 7, _ => rfl | 8, _ => rfl | 9, _ => rfl | 10, _ => rfl | 11, _ => rfl
def SetAt (W : World) (b : Nat) (s : Nat → Bool) : Prop := W.heap[b]? = some (.cells (sc s) 79 (0, 0))
theorem SetAt.cell {W : World} {b : Nat} {s : Nat → Bool} (h : SetAt W b s) {k : Nat} (hk : k < 12) : W.cell? ⟨b, k, none⟩ = some (.bool (s k)) ∧ W.frozen? ⟨b, k, none⟩ = false := by
  unfold SetAt at h
  exact ⟨by simp only [World.cell?, h]; exact sc_at s k hk, by simp [World.frozen?, h]⟩
theorem SetAt.lt {W : World} {b : Nat} {s : Nat → Bool} (h : SetAt W b s) : b < W.heap.size := (Array.getElem?_eq_some_iff.1 h).1
theorem SetAt.below {W W' : World} {B b : Nat} {s : Nat → Bool} (h : SetAt W b s) (hb : Below B W W') (hl : b < B) : SetAt W' b s := (hb.block b hl).trans h
theorem SetAt.after {W W' : World} {b : Nat} {s : Nat → Bool} (h : SetAt W b s) (hb : Below W.heap.size W W') : SetAt W' b s := h.below hb h.lt
theorem SetAt.new (W : World) (s : Nat → Bool) : SetAt (W.alloc (.cells (sc s) 79)) W.heap.size s := World.alloc_heap_new W _
set_option maxRecDepth 100000 in
theorem idx49 (s : Nat → Bool) (k : Nat) (hk : k < 12) (w : World) : (Instr.index 79 (.agg (sc s)) (.int .i64 k)).run Try.prog w = .ok (.bool (s k)) w := by
  have h3 := Try.isAgg4
  have z3 := Try.sizeOf4
  have u := Try.underlying79
  have e := sc_at s k hk
  have hz : (sc s).size = 12 := rfl
  match k, hk with
  | 0, _ => simp [Instr.index, run_underlying u, asIntOf, go_sem, sc]
  | 1, _ => simp [Instr.index, run_underlying u, asIntOf, go_sem, sc]
  | 2, _ => simp [Instr.index, run_underlying u, asIntOf, go_sem, sc]
  | 3, _ => simp [Instr.index, run_underlying u, asIntOf, go_sem, sc]
  | 4, _ => simp [Instr.index, run_underlying u, asIntOf, go_sem, sc]
  | 5, _ => simp [Instr.index, run_underlying u, asIntOf, go_sem, sc]
  | 6, _ => simp [Instr.index, run_underlying u, asIntOf, go_sem, sc]
  | 7, _ => simp [Instr.index, run_underlying u, asIntOf, go_sem, sc]
  | 8, _ => simp [Instr.index, run_underlying u, asIntOf, go_sem, sc]
  | 9, _ => simp [Instr.index, run_underlying u, asIntOf, go_sem, sc]
  | 10, _ => simp [Instr.index, run_underlying u, asIntOf, go_sem, sc]
  | 11, _ => simp [Instr.index, run_underlying u, asIntOf, go_sem, sc]
set_option maxRecDepth 100000 in
theorem vertices_any (s : Nat → Bool) (w : World) : Calls Try.prog 62 #[setV s] w fun e w' => e = .returned (.func (.func 83) #[] #[.pointer (some ⟨w.heap.size, 0, none⟩)]) ∧ w' = w.alloc (.cells (sc s) 79) := by
  unfold setV sc
  go_enter Try.func62, Try.ntmps62
  go_wp2
  go_ret
  exact ⟨rfl, rfl⟩
/-- The places of a set, in ascending order, up to k. -/
def vsTo (s : Nat → Bool) (k : Nat) : List Nat := (List.range k).filter s
theorem vsTo_succ (s : Nat → Bool) (k : Nat) : vsTo s (k + 1) = if s k = true then vsTo s k ++ [k] else vsTo s k := by
  unfold vsTo
  rw [List.range_succ, List.filter_append]
  by_cases h : s k = true
  · simp [h]
  · simp [h]
theorem vsTo_rest (s : Nat → Bool) {k : Nat} (hs : s k = true) : ∀ {M}, k < M → ∃ rest, vsTo s M = vsTo s k ++ k :: rest
  | 0, h => by omega
  | M + 1, h => by
    by_cases e : k = M
    · subst e; exact ⟨[], by rw [vsTo_succ, if_pos hs]⟩
    · obtain ⟨rest, hr⟩ := vsTo_rest s hs (M := M) (by omega)
      rw [vsTo_succ]
      split
      · exact ⟨rest ++ [M], by rw [hr]; simp⟩
      · exact ⟨rest, hr⟩
def encK (k : Nat) : Array Value := #[.int .i64 k]
set_option maxHeartbeats 1000000 in
set_option maxRecDepth 100000 in
theorem vertices_gives {b : Nat} {s : Nat → Bool} (W1 : World) :
    Stp.GivesS Try.prog 83 #[.pointer (some ⟨b, 0, none⟩)] encK (vsTo s 12) (fun W => SetAt W b s) W1 := by
  intro l gs J hJ hR hY h0
  have hS := hR _ _ h0
  obtain ⟨c0, _⟩ := hS.cell (k := 0) (by omega)
  obtain ⟨c1, _⟩ := hS.cell (k := 1) (by omega)
  obtain ⟨c2, _⟩ := hS.cell (k := 2) (by omega)
  obtain ⟨c3, _⟩ := hS.cell (k := 3) (by omega)
  obtain ⟨c4, _⟩ := hS.cell (k := 4) (by omega)
  obtain ⟨c5, _⟩ := hS.cell (k := 5) (by omega)
  obtain ⟨c6, _⟩ := hS.cell (k := 6) (by omega)
  obtain ⟨c7, _⟩ := hS.cell (k := 7) (by omega)
  obtain ⟨c8, _⟩ := hS.cell (k := 8) (by omega)
  obtain ⟨c9, _⟩ := hS.cell (k := 9) (by omega)
  obtain ⟨c10, _⟩ := hS.cell (k := 10) (by omega)
  obtain ⟨c11, _⟩ := hS.cell (k := 11) (by omega)
  refine callsIn_of_wp Try.func83 rfl trivial ?_ rfl
  simp only [Try.ntmps83, List.size_toArray, List.length_cons, List.length_nil, Nat.reduceAdd, Nat.reduceSub, Array.replicate_succ, Array.replicate_zero, List.push_toArray, List.append_toArray, List.nil_append, List.cons_append]
  gi_wp2
  clear c0 c1 c2 c3 c4 c5 c6 c7 c8 c9 c10 c11
  gi_loopw [6] (fun i wr => ∃ k : Nat, k ≤ 12 ∧ i = .int .i64 k ∧ J (vsTo s k) wr ∧ Stp.going gs (vsTo s k) ∧ W1.heap.size ≤ wr.heap.size) (fun i _ => 12 - (intOf i).toNat)
  case atStart => exact ⟨0, by omega, rfl, by simpa [vsTo] using h0, by simpa [vsTo] using Stp.going_nil gs, by simp⟩
  case round =>
    obtain ⟨k, hk, rfl, hj, hgo, hsz⟩ := hrel
    have hw1 : IntKind.i64.wrap ((k : Int) + 1) = (k : Int) + 1 := IntWalk.i64_in _ (by omega)
    by_cases hlt : k < 12
    · have hlt' : (k : Int) < 12 := by omega
      have hidx := fun w => idx49 s k hlt w
      unfold sc at hidx
      cases hs : s k with
      | true =>
        rw [hs] at hidx
        obtain ⟨z, hz⟩ : ∃ z, gs (vsTo s k) k = z := ⟨_, rfl⟩
        obtain ⟨fn, tmps, assign, body, hy, hRd⟩ := hY (vsTo s k) k wr hj hgo hsz (vsTo_rest s hs hlt)
        unfold encK at hy
        gi_wp2
        refine ⟨rfl, hRd.mono ?_⟩
        rintro e w5 ⟨rfl, hj5, hf5, _⟩
        rw [hz]
        have hsz5 := Nat.le_trans hsz hf5.1
        cases z with
        | true =>
          gi_wp2
          exact ⟨⟨k + 1, by omega, by go_num, by rw [vsTo_succ, if_pos hs]; exact hj5, by rw [vsTo_succ, if_pos hs]; exact Stp.going_snoc.2 ⟨hgo, hz⟩, hsz5⟩, by simp [intOf]; omega⟩
        | false =>
          obtain ⟨rest, hrest⟩ := vsTo_rest s hs hlt
          gi_wp2
          refine bodyPost_ret (results_none rfl _ _ _) rfl ?_
          exact ⟨⟨_, rfl⟩, ⟨_, hj5, .inr ⟨vsTo s k, k, rest, hrest, rfl, hgo, hz⟩⟩, hsz5⟩
      | false =>
        rw [hs] at hidx
        gi_wp2
        refine ⟨fun f hf => (by cases hf), ?_⟩
        gi_wp2
        exact ⟨⟨k + 1, by omega, by go_num, by rw [vsTo_succ, hs]; exact hj, by rw [vsTo_succ, hs]; exact hgo, hsz⟩, by simp [intOf]; omega⟩
    · have : k = 12 := by omega
      subst this
      gi_wp2
      go_end0
      exact ⟨⟨_, rfl⟩, ⟨_, hj, .inl ⟨rfl, hgo⟩⟩, hsz⟩
end Go.Proofs.Yteekigpdiklppaa
