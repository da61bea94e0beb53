/-
  SEQ, part D: the marks that ranges over iterators leave among a function's deferred calls.
-/
import Derived.Test.YteekigpdiklppaaSeqC
set_option linter.unusedSimpArgs false
set_option linter.unusedVariables false
namespace Go.Seq
open Go Go.RowKit
def marks (ds : List Nat) : List Deferred := ds.map fun D => { target := .collected D, args := #[] }
def Laid (ds : List Nat) (lo : Nat) (W : World) : Prop := ds.Nodup ∧ ∀ D ∈ ds, lo ≤ D ∧ W.heap[D]? = some (.deferred (some []))
theorem Laid.nil (lo : Nat) (W : World) : Laid [] lo W := ⟨List.nodup_nil, fun _ h => by cases h⟩
theorem Laid.lt {ds : List Nat} {lo : Nat} {W : World} (h : Laid ds lo W) {D : Nat} (hD : D ∈ ds) : D < W.heap.size := (Array.getElem?_eq_some_iff.1 (h.2 D hD).2).1
theorem Laid.from {ds : List Nat} {lo m : Nat} {W W' : World} (h : Laid ds lo W) (hf : From m W W') (hm : m ≤ lo) : Laid ds lo W' :=
  ⟨h.1, fun D hD => ⟨(h.2 D hD).1, (hf.2 D (Nat.le_trans hm (h.2 D hD).1) (h.lt hD)).trans (h.2 D hD).2⟩⟩
theorem Laid.below {ds : List Nat} {lo n : Nat} {W W' : World} (h : Laid ds lo W) (hb : Below n W W') (hn : ∀ D ∈ ds, D < n) : Laid ds lo W' :=
  ⟨h.1, fun D hD => ⟨(h.2 D hD).1, (hb.block D (hn D hD)).trans (h.2 D hD).2⟩⟩
theorem Laid.cons {ds : List Nat} {lo D : Nat} {W : World} (h : Laid ds lo W) (hn : ∀ E ∈ ds, E < D) (hlo : lo ≤ D) (hD : W.heap[D]? = some (.deferred (some []))) : Laid (D :: ds) lo W :=
  ⟨List.nodup_cons.2 ⟨fun hm => Nat.lt_irrefl _ (hn D hm), h.1⟩, fun E hE => by
    rcases List.mem_cons.1 hE with rfl | hE
    · exact ⟨hlo, hD⟩
    · exact h.2 E hE⟩
theorem leaves_marks {n lo : Nat} {P : Program} {fn : Func} {tmps : Array Value} {R : Ending → World → Prop} : ∀ (ds : List Nat) (w : World), Laid ds lo w →
    (∀ w', Below lo w w' → ∃ v, (results fn tmps).run P w' = .ok v w' ∧ R (.returned v) w') → LeavesInM Fence.wide n P fn tmps R (marks ds) .returning w
  | [], w, _, h => h w (Below.refl _ _)
  | D :: ds, w, hl, h => by
    refine ⟨by simp, .inl ⟨D, _, rfl, run_takeDeferred (hl.2 D (List.mem_cons_self ..)).2, ?_⟩⟩
    refine leaves_marks (lo := lo) ds _ ⟨(List.nodup_cons.1 hl.1).2, fun E hE => ⟨(hl.2 E (List.mem_cons_of_mem _ hE)).1, ?_⟩⟩ fun w' hb => h w' ((below_put (hl.2 D (List.mem_cons_self ..)).1).trans hb)
    have hne : E ≠ D := fun e => (List.nodup_cons.1 hl.1).1 (by rw [← e]; exact hE)
    rw [World.putObj_heap_other hne]
    exact (hl.2 E (List.mem_cons_of_mem _ hE)).2
end Go.Seq
