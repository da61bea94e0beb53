/-
  SEQ, part L: a range over an iterator that lays blocks of its own and reads them again behind a round: the caller's holding J q says which blocks (q) the rounds leave alone; the iterator adds to q what it lays.
-/
import Derived.Test.YteekigpdiklppaaSeqK
set_option linter.unusedSimpArgs false
set_option linter.unusedVariables false
namespace Go.Seq.Pq
open Go Go.RowKit Go.Seq Go.Seq.Stp Go.Seq.Pv
def none' : Nat → Prop := fun _ => False
/-- q' is q and some of what has been laid since. -/
def More (q q' : Nat → Prop) (W W' : World) : Prop := ∀ k, q' k → q k ∨ (W.heap.size ≤ k ∧ k < W'.heap.size)
theorem More.refl (q : Nat → Prop) (W W' : World) : More q q W W' := fun _ h => .inl h
/-- AN ITERATOR GIVES xs, as long as the rounds go on. -/
def GivesW {α : Type} (P : Program) (g : Nat) (lb : Array Value) (encs : α → Array Value) (xs : List α) (R : World → Prop) (W1 : World) : Prop :=
  ∀ (l : Nat) (gs : List α → α → Bool) (J : (Nat → Prop) → List α → World → Prop), (∀ q q' pre W W', J q pre W → Below W.heap.size W W' → More q q' W W' → J q' pre W') → (∀ q pre W, J q pre W → R W) →
    (∀ q pre x W, J q pre W → going gs pre → W1.heap.size ≤ W.heap.size → (∃ post, xs = pre ++ x :: post) → YieldAt Fence.wide 0 P l (encs x) W fun e W' => e = .returned (.bool (gs pre x)) ∧ J q (pre ++ [x]) W' ∧ W.heap.size ≤ W'.heap.size ∧ (∀ k, q k → W'.heap[k]? = W.heap[k]?) ∧ W'.os = W.os ∧ W'.tape = W.tape ∧ W'.output = W.output) →
    J none' [] W1 →
    CallsIn Fence.wide 0 P g (#[.func (.yield l) #[] #[]] ++ lb) W1 fun e W' => (∃ v, e = .returned v) ∧ (∃ q pre, J q pre W' ∧ Ended gs xs pre) ∧ W1.heap.size ≤ W'.heap.size
/-- THE STATEMENT. c is the jump by which a round leaves. -/
theorem range_givesW {α : Type} {n : Nat} {P : Program} {g : Operand} {ps : Array Tmp} {assign body : Code} {Q : Exit → Act → World → Prop} {a : Act} {w : World}
    {gf : Nat} {lb : Array Value} (hg : a.eval g = .func (.func gf) #[] lb) (eg : ∀ args w, (callFunc gf args).run P w = .ok (.enter gf args) w)
    {encs : α → Array Value} {xs : List α} {R : World → Prop} (hps : ∀ x, (encs x).size = ps.size) 
    (hseq : ∀ W1, W1.heap.size = w.heap.size + 2 → Below w.heap.size w W1 → GivesW P gf lb encs xs R W1)
    (gs : List α → α → Bool) (ex : Exit) (c : Code) (hex : ex = .ret ∧ c = .ret ∨ ∃ id, ex = .exit id ∧ c = .exit id)
    (I S : (Nat → Prop) → List α → World → Prop) (hI : ∀ q q' pre W W', I q pre W → KeepsL w.heap.size none' W W' → More q q' W W' → I q' pre W') (hS : ∀ q q' pre W W', S q pre W → KeepsL w.heap.size none' W W' → More q q' W W' → S q' pre W') (hIR : ∀ q pre W, I q pre W → R W) (hSR : ∀ q pre W, S q pre W → R W) (h0 : I none' [] w)
    (Ax : α → Act → World → Prop) (hAx : ∀ x a' W W', Ax x a' W → w.heap.size + 2 ≤ W.heap.size → KeepsL w.heap.size none' W W' → Ax x a' W')
    (hassign : ∀ (l : Nat) (q : Nat → Prop) (pre : List α) (x : α) (W : World) (K : Act → World → Prop), I q pre W → w.heap.size + 2 ≤ W.heap.size →
      (∀ a' W', Below W.heap.size W W' → Ax x a' W' → K a' W') →
      assign.wpIn (Fence.wide.inRound l) 0 P (Exit.then K (fun _ _ _ => False)) { tmps := (ps.zip (encs x)).foldl (fun t (p, v) => t.setIfInBounds p v) a.tmps, defers := [] } W)
    (hbody : ∀ (l : Nat) (q : Nat → Prop) (pre : List α) (x : α) (a' : Act) (W : World), I q pre W → (∀ k, q k → w.heap.size + 2 ≤ k ∧ k < W.heap.size) → Ax x a' W → w.heap.size + 2 ≤ W.heap.size → (∃ post, xs = pre ++ x :: post) → l = w.heap.size + 1 → (∃ r, W.heap[l]? = some (.loop r)) →
      body.wpIn (Fence.wide.inRound l) 0 P (fun e _ W' => (gs pre x = true ∧ e = .normal ∧ I q (pre ++ [x]) W' ∨ gs pre x = false ∧ e = ex ∧ S q (pre ++ [x]) W') ∧ (W.heap.size ≤ W'.heap.size ∧ W'.heap[w.heap.size]? = W.heap[w.heap.size]? ∧ W'.heap[w.heap.size + 1]? = W.heap[w.heap.size + 1]? ∧ ∀ k, q k → W'.heap[k]? = W.heap[k]?) ∧ W'.os = W.os ∧ W'.tape = W.tape ∧ W'.output = W.output) a' W)
    (hdone : ∀ (q : Nat → Prop) (W : World), I q xs W → going gs xs → w.heap.size + 2 ≤ W.heap.size → W.heap[w.heap.size]? = some (.deferred (some [])) →
      Q .normal { a with defers := { target := .collected w.heap.size, args := #[] } :: a.defers } W)
    (hstop : ∀ (q : Nat → Prop) (W : World) (p : List α) (x : α) (post : List α), xs = p ++ x :: post → going gs p → gs p x = false → S q (p ++ [x]) W → w.heap.size + 2 ≤ W.heap.size → W.heap[w.heap.size]? = some (.deferred (some [])) →
      c.wpIn Fence.wide n P Q { a with defers := { target := .collected w.heap.size, args := #[] } :: a.defers } W) :
    (Code.rangeFunc g ps assign body).wpIn Fence.wide n P Q a w := by
  refine wpIn_rangeFunc ?_
  intro fn hfn
  obtain ⟨rec, hrec⟩ : ∃ rec : LoopState → Option Code → Loop, rec = fun st pe => { state := st, pending := pe, fn, tmps := a.tmps, params := ps, assign, body, defers := w.heap.size } := ⟨_, rfl⟩
  obtain ⟨W1, hW1⟩ : ∃ W1, (w.alloc (.deferred (some []))).alloc (.loop (rec .ready none)) = W1 := ⟨_, rfl⟩
  have hs1 : W1.heap.size = w.heap.size + 2 := by rw [← hW1]; simp
  have hb1 : Below w.heap.size w W1 := by rw [← hW1]; exact ((Below.refl _ w).alloc (Nat.le_refl _) _).alloc (by simp) _
  have hL1 : W1.heap[w.heap.size + 1]? = some (.loop (rec .ready none)) := by
    rw [← hW1]; have := World.alloc_heap_new (w.alloc (.deferred (some []))) (.loop (rec .ready none)); rwa [World.size_alloc] at this
  have hK1 : W1.heap[w.heap.size]? = some (.deferred (some [])) := by
    rw [← hW1]; exact (Below.heap_alloc _ _ _ (by simp)).trans (World.alloc_heap_new w _)
  refine ⟨w.heap.size + 1, [{ target := .collected w.heap.size, args := #[] }], W1, { target := .fn (.func gf) lb, args := #[.func (.yield (w.heap.size + 1)) #[] #[]] }, W1, gf,
    #[.func (.yield (w.heap.size + 1)) #[] #[]] ++ lb, W1, ?_, ?_, ?_, ?_, fun h => by simp [Fence.wide] at h, ?_⟩
  · rw [← hW1, hrec]; exact run_enterLoop_outer _ _ _ _ _
  · simp only [resolve, hg]
    simp [go_sem]
  · intro f' hf'; exact trivial
  · simp [invoke, go_sem, eg]
  · obtain ⟨J, hJd⟩ : ∃ J : (Nat → Prop) → List α → World → Prop, J = fun q pre W => ((going gs pre ∧ I q pre W ∧ W.heap[w.heap.size + 1]? = some (.loop (rec .ready none))) ∨ (¬ going gs pre ∧ S q pre W ∧ W.heap[w.heap.size + 1]? = some (.loop (rec .done (some c))))) ∧ W.heap[w.heap.size]? = some (.deferred (some [])) ∧ ∀ k, q k → w.heap.size + 2 ≤ k ∧ k < W.heap.size := ⟨_, rfl⟩
    have hseq' := hseq W1 hs1 hb1 (w.heap.size + 1) gs J
      (fun q q' pre W W' h hb hq => by
        rw [hJd] at h ⊢
        obtain ⟨h, hk, hqb⟩ := h
        have hzz := hb.size
        have hkl := (Array.getElem?_eq_some_iff.1 hk).1
        have hl1 : w.heap.size + 1 < W.heap.size := by
          rcases h with ⟨_, _, h2⟩ | ⟨_, _, h2⟩ <;> exact (Array.getElem?_eq_some_iff.1 h2).1
        refine ⟨?_, (hb.block _ hkl).trans hk, fun k hk' => ?_⟩
        · rcases h with ⟨g1, h1, h2⟩ | ⟨g1, h1, h2⟩
          · exact .inl ⟨g1, hI _ _ _ _ _ h1 (.of (.of_below hb)) hq, (hb.block _ hl1).trans h2⟩
          · exact .inr ⟨g1, hS _ _ _ _ _ h1 (.of (.of_below hb)) hq, (hb.block _ hl1).trans h2⟩
        · rcases hq k hk' with h' | h'
          · have := hqb k h'; omega
          · omega)
      (fun q pre W h => by
        rw [hJd] at h
        rcases h.1 with ⟨g1, h1, h2⟩ | ⟨g1, h1, h2⟩
        · exact hIR q pre W h1
        · exact hSR q pre W h1) ?_ (by rw [hJd]; exact ⟨.inl ⟨going_nil gs, hI _ _ _ _ _ h0 (.of (.of_below hb1)) (.refl _ _ _), hL1⟩, hK1, fun _ h => h.elim⟩)
    · have hseq'' : CallsIn Fence.wide (n - 1) P gf (#[.func (.yield (w.heap.size + 1)) #[] #[]] ++ lb) W1 _ := callsIn_wide.2 (callsIn_wide.1 hseq')
      refine hseq''.mono ?_
      rintro e W2 ⟨⟨v, rfl⟩, ⟨q, pre, hj, he⟩, hs2⟩
      rw [hJd] at hj
      obtain ⟨hj, hk, hqb⟩ := hj
      rcases he with ⟨rfl, hgo⟩ | ⟨p, x, post, hx, rfl, hgo, hf⟩
      · rcases hj with ⟨_, hi, hl⟩ | ⟨g1, _⟩
        · refine ⟨none, _, by have := run_endLoop (P := P) hl (by rw [hrec]; simp); rw [hrec] at this; exact this, hdone q _ (hI _ _ _ _ _ hi (.put _ _ _ _) (.refl _ _ _)) hgo (by simp; omega) ((World.putObj_heap_other (by omega)).trans hk)⟩
        · exact absurd hgo g1
      · rcases hj with ⟨g1, _⟩ | ⟨_, hi, hl⟩
        · have := (going_snoc.1 g1).2
          rw [hf] at this; cases this
        · refine ⟨some c, _, by have := run_endLoop (P := P) hl (by rw [hrec]; simp); rw [hrec] at this; exact this, hstop q _ p x post hx hgo hf (hS _ _ _ _ _ hi (.put _ _ _ _) (.refl _ _ _)) (by simp; omega) ((World.putObj_heap_other (by omega)).trans hk)⟩
    · rintro q pre x W hj hgo hsz hpre
      rw [hJd] at hj
      obtain ⟨hj, hk, hqb⟩ := hj
      rcases hj with ⟨_, hi, hl⟩ | ⟨g1, _⟩
      rotate_left
      · exact absurd hgo g1
      have hy := run_yield (P := P) (args := encs x) hl (by rw [hrec]; exact hps x)
      rw [hrec] at hy
      refine ⟨fn, _, assign, body, hy, roundIn_of_wpIn hfn (hassign _ q pre x W _ hi (by omega) ?_)⟩
      clear hy
      intro a' Wa hba hax
      have hla := (hba.block _ (by omega)).trans hl
      have hka := (hba.block _ (by omega)).trans hk
      have hia := hI _ _ _ _ _ hi (.of (.of_below hba)) (.refl _ _ _)
      have hsa := hba.size
      refine ⟨_, run_beginRound hla (by rw [hrec]), ?_⟩
      refine wpIn_mono (hbody _ q pre x a' _ (hI _ _ _ _ _ hia (.put _ _ _ _) (.refl _ _ _)) (fun k hk => by have := hqb k hk; simp; omega) (hAx x a' _ _ hax (by omega) (.put _ _ _ _)) (by simp; omega) hpre rfl ⟨_, World.putObj_heap_same (by omega)⟩) ?_
      rintro e a3 W3 ⟨he, ⟨hf3, hf4, hf5, hf6⟩, ho3⟩
      have hl3 : W3.heap[w.heap.size + 1]? = some (.loop { rec .ready none with state := .busy }) := hf5.trans (World.putObj_heap_same (by omega))
      have hk3 : W3.heap[w.heap.size]? = some (.deferred (some [])) := hf4.trans ((World.putObj_heap_other (by omega)).trans hka)
      simp at hf3
      have hl3' := (Array.getElem?_eq_some_iff.1 hl3).1
      have hfr : ∀ o, W.heap.size ≤ (W3.putObj (w.heap.size + 1) o).heap.size ∧ ∀ k, q k → (W3.putObj (w.heap.size + 1) o).heap[k]? = W.heap[k]? := fun o => by
        refine ⟨by simp; omega, fun k hk => ?_⟩
        have h1 := hqb k hk
        exact (World.putObj_heap_other (by omega)).trans ((hf6 k hk).trans ((World.putObj_heap_other (by omega)).trans (hba.block k (by omega))))
      have hos := And.intro (ho3.1.trans hba.os) (And.intro (ho3.2.1.trans hba.tape) (ho3.2.2.trans hba.output))
      rcases he with ⟨hg1, rfl, hi3⟩ | ⟨hg1, rfl, hi3⟩
      · refine ⟨_, _, run_endRound none hl3, ?_⟩
        refine ⟨by rw [hg1]; rfl, ?_, (hfr _).1, (hfr _).2, hos⟩
        rw [hJd]
        refine ⟨.inl ⟨going_snoc.2 ⟨hgo, hg1⟩, hI _ _ _ _ _ hi3 (.put _ _ _ _) (.refl _ _ _), ?_⟩, (World.putObj_heap_other (by omega)).trans hk3, fun k hk => by have := hqb k hk; simp; omega⟩
        rw [World.putObj_heap_same hl3', hrec]; rfl
      · have key : (gs pre x = false) → ((Ending.returned (.bool (some c).isNone)) = .returned (.bool (gs pre x)) ∧ J q (pre ++ [x]) (W3.putObj (w.heap.size + 1) (.loop { rec .ready none with state := .done, pending := some c })) ∧ W.heap.size ≤ (W3.putObj (w.heap.size + 1) (.loop { rec .ready none with state := .done, pending := some c })).heap.size ∧ (∀ k, q k → (W3.putObj (w.heap.size + 1) (.loop { rec .ready none with state := .done, pending := some c })).heap[k]? = W.heap[k]?) ∧ W3.os = W.os ∧ W3.tape = W.tape ∧ W3.output = W.output) := fun hg1 => by
          refine ⟨by rw [hg1]; rfl, ?_, (hfr _).1, (hfr _).2, hos⟩
          rw [hJd]
          refine ⟨.inr ⟨(fun h => by have := (going_snoc.1 h).2; rw [hg1] at this; cases this), hS _ _ _ _ _ hi3 (.put _ _ _ _) (.refl _ _ _), ?_⟩, (World.putObj_heap_other (by omega)).trans hk3, fun k hk => by have := hqb k hk; simp; omega⟩
          rw [World.putObj_heap_same hl3', hrec]
        rcases hex with ⟨rfl, rfl⟩ | ⟨id, rfl, rfl⟩
        · exact ⟨_, _, run_endRound (some .ret) hl3, key hg1⟩
        · exact ⟨_, _, run_endRound (some (.exit id)) hl3, key hg1⟩
end Go.Seq.Pq
