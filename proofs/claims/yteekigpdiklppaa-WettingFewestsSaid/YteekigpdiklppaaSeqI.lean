/-
  SEQ, part I: a range over an iterator that changes no block that lies (it reads, lays blocks and yields): what the rounds lay and change is theirs.
-/
import Derived.Test.YteekigpdiklppaaSeqH
import Derived.Test.YteekigpdiklppaaSeqD
set_option linter.unusedSimpArgs false
set_option linter.unusedVariables false
namespace Go.Seq.Qr
open Go Go.RowKit Go.Seq
/-- All blocks but n and n + 1 lie as they lay. -/
structure Keeps (n : Nat) (W W' : World) : Prop where
  os : W'.os = W.os
  tape : W'.tape = W.tape
  output : W'.output = W.output
  size : W.heap.size ≤ W'.heap.size
  block : ∀ k, k < W.heap.size → k ≠ n → k ≠ n + 1 → W'.heap[k]? = W.heap[k]?
theorem Keeps.refl (n : Nat) (W : World) : Keeps n W W := ⟨rfl, rfl, rfl, Nat.le_refl _, fun _ _ _ _ => rfl⟩
theorem Keeps.of_below {n : Nat} {W W' : World} (h : Below W.heap.size W W') : Keeps n W W' := ⟨h.os, h.tape, h.output, h.size, fun k hk _ _ => h.block k hk⟩
theorem Keeps.put (n : Nat) (W : World) (o : Obj) : Keeps n W (W.putObj (n + 1) o) := ⟨rfl, rfl, rfl, by simp, fun k _ _ h => World.putObj_heap_other (by omega)⟩
theorem Keeps.below {n B : Nat} {W W' : World} (h : Keeps n W W') (hB : B ≤ n) (hs : B ≤ W.heap.size) : Below B W W' := ⟨h.os, h.tape, h.output, h.size, fun k hk => h.block k (by omega) (by omega) (by omega)⟩
def OldX {α : Type} (n : Nat) (I : List α → World → Prop) : Prop := ∀ pre W W', I pre W → Keeps n W W' → I pre W'
/-- AN ITERATOR THAT READS ONLY GIVES xs. -/
def GivesQ {α : Type} (P : Program) (g : Nat) (lb : Array Value) (encs : α → Array Value) (xs : List α) (R : World → Prop) (W1 : World) : Prop :=
  ∀ (l : Nat) (J : List α → World → Prop), (∀ pre W W', J pre W → Below W.heap.size W W' → J pre W') → (∀ pre W, J pre W → R W) →
    (∀ pre x W, J pre W → W1.heap.size ≤ W.heap.size → (∃ post, xs = pre ++ x :: post) → YieldAt Fence.wide 0 P l (encs x) W fun e W' => e = .returned (.bool true) ∧ J (pre ++ [x]) W' ∧ W.heap.size ≤ W'.heap.size ∧ W'.os = W.os ∧ W'.tape = W.tape ∧ W'.output = W.output) →
    J [] W1 →
    CallsIn Fence.wide 0 P g (#[.func (.yield l) #[] #[]] ++ lb) W1 fun e W' => (∃ v, e = .returned v) ∧ J xs W' ∧ W1.heap.size ≤ W'.heap.size
/-- THE STATEMENT. -/
theorem range_givesQ {α : Type} {n : Nat} {P : Program} {g : Operand} {ps : Array Tmp} {assign body : Code} {Q : Exit → Act → World → Prop} {a : Act} {w : World}
    {gf : Nat} {lb : Array Value} (hg : a.eval g = .func (.func gf) #[] lb) (eg : ∀ args w, (callFunc gf args).run P w = .ok (.enter gf args) w)
    {encs : α → Array Value} {xs : List α} {R : World → Prop} (hps : ∀ x, (encs x).size = ps.size)
    (hseq : ∀ W1, W1.heap.size = w.heap.size + 2 → Below w.heap.size w W1 → GivesQ P gf lb encs xs R W1)
    (I : List α → World → Prop) (hI : OldX w.heap.size I) (hIR : ∀ pre W, I pre W → R W) (h0 : I [] w)
    (Ax : α → Act → World → Prop) (hAx : ∀ x a' W W', Ax x a' W → w.heap.size + 2 ≤ W.heap.size → Keeps w.heap.size W W' → Ax x a' W')
    (hassign : ∀ (l : Nat) (pre : List α) (x : α) (W : World) (K : Act → World → Prop), I pre W → w.heap.size + 2 ≤ W.heap.size →
      (∀ a' W', Below W.heap.size W W' → Ax x a' W' → K a' W') →
      assign.wpIn (Fence.wide.inRound l) 0 P (Exit.then K (fun _ _ _ => False)) { tmps := (ps.zip (encs x)).foldl (fun t (p, v) => t.setIfInBounds p v) a.tmps, defers := [] } W)
    (hbody : ∀ (l : Nat) (pre : List α) (x : α) (a' : Act) (W : World), I pre W → Ax x a' W → w.heap.size + 2 ≤ W.heap.size → (∃ post, xs = pre ++ x :: post) →
      body.wpIn (Fence.wide.inRound l) 0 P (fun e _ W' => e = .normal ∧ I (pre ++ [x]) W' ∧ (W.heap.size ≤ W'.heap.size ∧ W'.heap[w.heap.size]? = W.heap[w.heap.size]? ∧ W'.heap[w.heap.size + 1]? = W.heap[w.heap.size + 1]?) ∧ W'.os = W.os ∧ W'.tape = W.tape ∧ W'.output = W.output) a' W)
    (hdone : ∀ (W : World), I xs W → w.heap.size + 2 ≤ W.heap.size → W.heap[w.heap.size]? = some (.deferred (some [])) →
      Q .normal { a with defers := { target := .collected w.heap.size, args := #[] } :: a.defers } W) :
    (Code.rangeFunc g ps assign body).wpIn Fence.wide n P Q a w := by
  refine wpIn_rangeFunc ?_
  intro fn hfn
  obtain ⟨rec, hrec⟩ : ∃ rec : LoopState → Option Code → Loop, rec = fun st pe => { state := st, pending := pe, fn, tmps := a.tmps, params := ps, assign, body, defers := w.heap.size } := ⟨_, rfl⟩
  obtain ⟨W1, hW1⟩ : ∃ W1, (w.alloc (.deferred (some []))).alloc (.loop (rec .ready none)) = W1 := ⟨_, rfl⟩
  have hs1 : W1.heap.size = w.heap.size + 2 := by rw [← hW1]; simp
  have hb1 : Below w.heap.size w W1 := by rw [← hW1]; exact ((Below.refl _ w).alloc (Nat.le_refl _) _).alloc (by simp) _
  have hL1 : W1.heap[w.heap.size + 1]? = some (.loop (rec .ready none)) := by
    rw [← hW1]; have := World.alloc_heap_new (w.alloc (.deferred (some []))) (.loop (rec .ready none)); rwa [World.size_alloc] at this
  have hK1 : W1.heap[w.heap.size]? = some (.deferred (some [])) := by
    rw [← hW1]; exact (Below.heap_alloc _ _ _ (by simp)).trans (World.alloc_heap_new w _)
  refine ⟨w.heap.size + 1, [{ target := .collected w.heap.size, args := #[] }], W1, { target := .fn (.func gf) lb, args := #[.func (.yield (w.heap.size + 1)) #[] #[]] }, W1, gf,
    #[.func (.yield (w.heap.size + 1)) #[] #[]] ++ lb, W1, ?_, ?_, ?_, ?_, fun h => by simp [Fence.wide] at h, ?_⟩
  · rw [← hW1, hrec]; exact run_enterLoop_outer _ _ _ _ _
  · simp only [resolve, hg]
    simp [go_sem]
  · intro f' hf'; exact trivial
  · simp [invoke, go_sem, eg]
  · have hseq' := hseq W1 hs1 hb1 (w.heap.size + 1)
      (fun pre W => I pre W ∧ W.heap[w.heap.size + 1]? = some (.loop (rec .ready none)) ∧ W.heap[w.heap.size]? = some (.deferred (some [])))
      (fun pre W W' h hb => ⟨hI pre W W' h.1 (.of_below hb), (hb.block _ (Array.getElem?_eq_some_iff.1 h.2.1).1).trans h.2.1, (hb.block _ (Array.getElem?_eq_some_iff.1 h.2.2).1).trans h.2.2⟩)
      (fun pre W h => hIR pre W h.1) ?_ ⟨hI _ _ _ h0 (.of_below hb1), hL1, hK1⟩
    · have hseq'' : CallsIn Fence.wide (n - 1) P gf (#[.func (.yield (w.heap.size + 1)) #[] #[]] ++ lb) W1 _ := callsIn_wide.2 (callsIn_wide.1 hseq')
      refine hseq''.mono ?_
      rintro e W2 ⟨⟨v, rfl⟩, ⟨hi, hl, hk⟩, hs2⟩
      refine ⟨none, _, by have := run_endLoop (P := P) hl (by rw [hrec]; simp); rw [hrec] at this; exact this, hdone _ (hI _ _ _ hi (.put _ _ _)) (by simp; omega) ((World.putObj_heap_other (by omega)).trans hk)⟩
    · rintro pre x W ⟨hi, hl, hk⟩ hsz hpre
      have hy := run_yield (P := P) (args := encs x) hl (by rw [hrec]; exact hps x)
      rw [hrec] at hy
      refine ⟨fn, _, assign, body, hy, roundIn_of_wpIn hfn (hassign _ pre x W _ hi (by omega) ?_)⟩
      clear hy
      intro a' Wa hba hax
      have hla := (hba.block _ (by omega)).trans hl
      have hka := (hba.block _ (by omega)).trans hk
      have hia := hI _ _ _ hi (.of_below hba)
      have hsa := hba.size
      refine ⟨_, run_beginRound hla (by rw [hrec]), ?_⟩
      refine wpIn_mono (hbody _ pre x a' _ (hI _ _ _ hia (.put _ _ _)) (hAx x a' _ _ hax (by omega) (.put _ _ _)) (by simp; omega) hpre) ?_
      rintro e a3 W3 ⟨rfl, hi3, ⟨hf3, hf4, hf5⟩, ho3⟩
      have hl3 : W3.heap[w.heap.size + 1]? = some (.loop { rec .ready none with state := .busy }) := hf5.trans (World.putObj_heap_same (by omega))
      have hk3 : W3.heap[w.heap.size]? = some (.deferred (some [])) := hf4.trans ((World.putObj_heap_other (by omega)).trans hka)
      refine ⟨_, _, run_endRound none hl3, ?_⟩
      simp at hf3
      have hl3' := (Array.getElem?_eq_some_iff.1 hl3).1
      refine ⟨rfl, ⟨hI _ _ _ hi3 (.put _ _ _), ?_, (World.putObj_heap_other (by omega)).trans hk3⟩, ?_, ?_⟩
      · rw [World.putObj_heap_same hl3']
        rw [hrec]; rfl
      · simp; omega
      · exact ⟨ho3.1.trans hba.os, ho3.2.1.trans hba.tape, ho3.2.2.trans hba.output⟩
/-- What a function leaves behind one such range: only the loop's own blocks have changed. -/
theorem leaves_mark {n D : Nat} {P : Program} {fn : Func} {tmps : Array Value} {R : Ending → World → Prop} {w : World} (hD : w.heap[D]? = some (.deferred (some [])))
    (h : ∀ w', Keeps D w w' → ∃ v, (results fn tmps).run P w' = .ok v w' ∧ R (.returned v) w') : LeavesInM Fence.wide n P fn tmps R (marks [D]) .returning w := by
  refine ⟨by simp, .inl ⟨D, _, rfl, run_takeDeferred hD, ?_⟩⟩
  refine leaves_marks (lo := w.heap.size) [] _ ⟨List.nodup_nil, fun _ h => by cases h⟩ fun w'' hb => h w'' ?_
  refine ⟨hb.os, hb.tape, hb.output, by simpa using hb.size, fun k hk h1 _ => (hb.block k hk).trans (World.putObj_heap_other h1)⟩
end Go.Seq.Qr
