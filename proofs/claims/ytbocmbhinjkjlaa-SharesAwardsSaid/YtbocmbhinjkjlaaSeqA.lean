/-
  SEQ, part A: a range over a function whose rounds all go on, where the iterator may itself range over another iterator and hand its rounds on.
  The caller owns the blocks that lay when the loop began; the iterator owns those from there on that it lays itself; a round keeps the iterator's, the iterator keeps the caller's.
-/
import Derived.RangeFuncNested
import Derived.RangeFuncBound
import Derived.RangeFuncCalls
import Derived.RangeFuncLeaves
set_option linter.unusedSimpArgs false
set_option linter.unusedVariables false
namespace Go.Seq
open Go Go.RowKit

/-- Every block from n on that was there lies as it lay. -/
def From (n : Nat) (W W' : World) : Prop := W.heap.size ≤ W'.heap.size ∧ ∀ k, n ≤ k → k < W.heap.size → W'.heap[k]? = W.heap[k]?
theorem From.refl (n : Nat) (W : World) : From n W W := ⟨Nat.le_refl _, fun _ _ _ => rfl⟩
theorem From.trans {n : Nat} {A B C : World} (h : From n A B) (k : From n B C) : From n A C :=
  ⟨Nat.le_trans h.1 k.1, fun i hi hl => (k.2 i hi (Nat.lt_of_lt_of_le hl h.1)).trans (h.2 i hi hl)⟩
theorem From.mono {n m : Nat} {A B : World} (h : From n A B) (hm : n ≤ m) : From m A B := ⟨h.1, fun k hk hl => h.2 k (Nat.le_trans hm hk) hl⟩
theorem From.alloc {n : Nat} {A W : World} (h : From n A W) (o : Obj) : From n A (W.alloc o) :=
  h.trans ⟨by simp, fun k _ hl => Below.heap_alloc _ _ _ hl⟩
theorem From.drew {n : Nat} {A W : World} (h : From n A W) : From n A W.drew := h
theorem From.setCell {n : Nat} {A W : World} (h : From n A W) {p : Addr} (hp : p.block < n) (u : Value) : From n A (W.setCell p u) :=
  h.trans ⟨by simp [World.setCell], fun k hk _ => Below.heap_setCell _ _ _ _ (by omega)⟩
/-- A store into a block that was laid since. -/
theorem From.setNew {n : Nat} {A W : World} (h : From n A W) {p : Addr} (hp : A.heap.size ≤ p.block) (u : Value) : From n A (W.setCell p u) :=
  ⟨Nat.le_trans h.1 (by simp [World.setCell]), fun k hk hl => (Below.heap_setCell _ _ _ _ (by omega)).trans (h.2 k hk hl)⟩
theorem From.of_below {n m : Nat} {A B : World} (h : Below m A B) (hm : A.heap.size ≤ m) : From n A B := ⟨h.size, fun k _ hl => h.block k (by omega)⟩

/-- What the caller holds speaks of the blocks that lay when the loop began. -/
def Old {α : Type} (n : Nat) (J : List α → World → Prop) : Prop := ∀ pre W W', J pre W → Below n W W' → J pre W'

/-- AN ITERATOR GIVES xs: whatever the caller holds between two rounds. -/
def Gives {α : Type} (P : Program) (g : Nat) (lb : Array Value) (encs : α → Array Value) (xs : List α) (R : World → Prop) (W1 : World) : Prop :=
  ∀ (l : Nat) (J : List α → World → Prop), Old W1.heap.size J → (∀ pre W, J pre W → R W) →
    (∀ pre x W, J pre W → W1.heap.size ≤ W.heap.size → (∃ post, xs = pre ++ x :: post) → YieldAt Fence.wide 0 P l (encs x) W fun e W' => e = .returned (.bool true) ∧ J (pre ++ [x]) W' ∧ From W1.heap.size W W' ∧ W'.os = W.os ∧ W'.tape = W.tape ∧ W'.output = W.output) →
    J [] W1 →
    CallsIn Fence.wide 0 P g (#[.func (.yield l) #[] #[]] ++ lb) W1 fun e W' => (∃ v, e = .returned v) ∧ J xs W' ∧ W1.heap.size ≤ W'.heap.size

theorem yield_any {m : Nat} (m' : Nat) {P : Program} {l : Nat} {args : Array Value} {W : World} {R : Ending → World → Prop} (h : YieldAt Fence.wide m P l args W R) : YieldAt Fence.wide m' P l args W R := by
  obtain ⟨fn, tmps, assign, body, hy, hR⟩ := h
  exact ⟨fn, tmps, assign, body, hy, ⟨hR.1, fun c cs _ => hR.2 c cs (room_wide _)⟩⟩

theorem below_put {n l : Nat} {W : World} {o : Obj} (h : n ≤ l) : Below n W (W.putObj l o) :=
  ⟨rfl, rfl, rfl, by simp, fun k hk => World.putObj_heap_other (by omega)⟩
theorem from_put {n l : Nat} {W : World} {o : Obj} (h : l < n) : From n W (W.putObj l o) :=
  ⟨by simp, fun k hk _ => World.putObj_heap_other (by omega)⟩

/-- THE STATEMENT. The assignment to the loop's variables lays blocks of its own alone (Ax says what it leaves); the body ends. -/
theorem range_gives {α : Type} {n : Nat} {P : Program} {g : Operand} {ps : Array Tmp} {assign body : Code} {Q : Exit → Act → World → Prop} {a : Act} {w : World}
    {gf : Nat} {lb : Array Value} (hg : a.eval g = .func (.func gf) #[] lb) (eg : ∀ args w, (callFunc gf args).run P w = .ok (.enter gf args) w)
    {encs : α → Array Value} {xs : List α} {R : World → Prop} (hps : ∀ x, (encs x).size = ps.size)
    (hseq : ∀ W1, W1.heap.size = w.heap.size + 2 → Below w.heap.size w W1 → Gives P gf lb encs xs R W1)
    (I : List α → World → Prop) (hI : Old w.heap.size I) (hIR : ∀ pre W, I pre W → R W) (h0 : I [] w)
    (Ax : α → Act → World → Prop) (hAx : ∀ x a' W W', Ax x a' W → From (w.heap.size + 2) W W' → Ax x a' W')
    (hassign : ∀ (l : Nat) (pre : List α) (x : α) (W : World) (K : Act → World → Prop), I pre W → w.heap.size + 2 ≤ W.heap.size →
      (∀ a' W', Below W.heap.size W W' → Ax x a' W' → K a' W') →
      assign.wpIn (Fence.wide.inRound l) 0 P (Exit.then K (fun _ _ _ => False)) { tmps := (ps.zip (encs x)).foldl (fun t (p, v) => t.setIfInBounds p v) a.tmps, defers := [] } W)
    (hbody : ∀ (l : Nat) (pre : List α) (x : α) (a' : Act) (W : World), I pre W → Ax x a' W → w.heap.size + 2 ≤ W.heap.size → (∃ post, xs = pre ++ x :: post) →
      body.wpIn (Fence.wide.inRound l) 0 P (fun e _ W' => e = .normal ∧ I (pre ++ [x]) W' ∧ From w.heap.size W W' ∧ W'.os = W.os ∧ W'.tape = W.tape ∧ W'.output = W.output) a' W)
    (hdone : ∀ (W : World), I xs W → w.heap.size + 2 ≤ W.heap.size → W.heap[w.heap.size]? = some (.deferred (some [])) →
      Q .normal { a with defers := { target := .collected w.heap.size, args := #[] } :: a.defers } W) :
    (Code.rangeFunc g ps assign body).wpIn Fence.wide n P Q a w := by
  refine wpIn_rangeFunc ?_
  intro fn hfn
  obtain ⟨rec, hrec⟩ : ∃ rec : LoopState → Option Code → Loop, rec = fun st pe => { state := st, pending := pe, fn, tmps := a.tmps, params := ps, assign, body, defers := w.heap.size } := ⟨_, rfl⟩
  obtain ⟨W1, hW1⟩ : ∃ W1, (w.alloc (.deferred (some []))).alloc (.loop (rec .ready none)) = W1 := ⟨_, rfl⟩
  have hs1 : W1.heap.size = w.heap.size + 2 := by rw [← hW1]; simp
  have hb1 : Below w.heap.size w W1 := by rw [← hW1]; exact ((Below.refl _ w).alloc (Nat.le_refl _) _).alloc (by simp) _
  have hL1 : W1.heap[w.heap.size + 1]? = some (.loop (rec .ready none)) := by
    rw [← hW1]; have := World.alloc_heap_new (w.alloc (.deferred (some []))) (.loop (rec .ready none)); rwa [World.size_alloc] at this
  have hK1 : W1.heap[w.heap.size]? = some (.deferred (some [])) := by
    rw [← hW1]; exact (Below.heap_alloc _ _ _ (by simp)).trans (World.alloc_heap_new w _)
  refine ⟨w.heap.size + 1, [{ target := .collected w.heap.size, args := #[] }], W1, { target := .fn (.func gf) lb, args := #[.func (.yield (w.heap.size + 1)) #[] #[]] }, W1, gf,
    #[.func (.yield (w.heap.size + 1)) #[] #[]] ++ lb, W1, ?_, ?_, ?_, ?_, fun h => by simp [Fence.wide] at h, ?_⟩
  · rw [← hW1, hrec]; exact run_enterLoop_outer _ _ _ _ _
  · simp only [resolve, hg]
    simp [go_sem]
  · intro f' hf'; exact trivial
  · simp [invoke, go_sem, eg]
  · have hseq' := hseq W1 hs1 hb1 (w.heap.size + 1)
      (fun pre W => I pre W ∧ W.heap[w.heap.size + 1]? = some (.loop (rec .ready none)) ∧ W.heap[w.heap.size]? = some (.deferred (some [])))
      (fun pre W W' h hb => ⟨hI pre W W' h.1 (hb.mono (by omega)), (hb.block _ (by omega)).trans h.2.1, (hb.block _ (by omega)).trans h.2.2⟩)
      (fun pre W h => hIR pre W h.1) ?_ ⟨hI _ _ _ h0 hb1, hL1, hK1⟩
    · have hseq'' : CallsIn Fence.wide (n - 1) P gf (#[.func (.yield (w.heap.size + 1)) #[] #[]] ++ lb) W1 _ := callsIn_wide.2 (callsIn_wide.1 hseq')
      refine hseq''.mono ?_
      rintro e W2 ⟨⟨v, rfl⟩, ⟨hi, hl, hk⟩, hs2⟩
      refine ⟨none, _, by have := run_endLoop (P := P) hl (by rw [hrec]; simp); rw [hrec] at this; exact this, hdone _ (hI _ _ _ hi (below_put (by omega))) (by simp; omega) ((World.putObj_heap_other (by omega)).trans hk)⟩
    · rintro pre x W ⟨hi, hl, hk⟩ hsz hpre
      have hy := run_yield (P := P) (args := encs x) hl (by rw [hrec]; exact hps x)
      rw [hrec] at hy
      refine ⟨fn, _, assign, body, hy, roundIn_of_wpIn hfn (hassign _ pre x W _ hi (by omega) ?_)⟩
      clear hy
      intro a' Wa hba hax
      have hla := (hba.block _ (by omega)).trans hl
      have hka := (hba.block _ (by omega)).trans hk
      have hia := hI _ _ _ hi (hba.mono (by omega))
      have hsa := hba.size
      refine ⟨_, run_beginRound hla (by rw [hrec]), ?_⟩
      refine wpIn_mono (hbody _ pre x a' _ (hI _ _ _ hia (below_put (by omega))) (hAx x a' _ _ hax (from_put (by omega))) (by simp; omega) hpre) ?_
      rintro e a3 W3 ⟨rfl, hi3, hf3, ho3⟩
      have hl3 : W3.heap[w.heap.size + 1]? = some (.loop { rec .ready none with state := .busy }) :=
        (hf3.2 _ (by omega) (by simp; omega)).trans (World.putObj_heap_same (by omega))
      have hk3 : W3.heap[w.heap.size]? = some (.deferred (some [])) :=
        (hf3.2 _ (Nat.le_refl _) (by simp; omega)).trans ((World.putObj_heap_other (by omega)).trans hka)
      refine ⟨_, _, run_endRound none hl3, ?_⟩
      have hs3 := hf3.1
      simp at hs3
      refine ⟨rfl, ⟨hI _ _ _ hi3 (below_put (by omega)), ?_, (World.putObj_heap_other (by omega)).trans hk3⟩, ?_, ?_⟩
      · rw [World.putObj_heap_same (by omega)]
        rw [hrec]; rfl
      · rw [hs1]
        refine (From.of_below hba (by omega)).trans (.trans (from_put (by omega)) (.trans (hf3.mono (by omega)) (from_put (by omega))))
      · exact ⟨ho3.1.trans hba.os, ho3.2.1.trans hba.tape, ho3.2.2.trans hba.output⟩
end Go.Seq
