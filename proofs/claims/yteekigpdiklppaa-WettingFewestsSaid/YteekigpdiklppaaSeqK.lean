/-
  SEQ, part K: a range over an iterator that has old blocks of its own (pv: variables that it captured and changes); rounds may leave the loop, and what they lay and change besides is theirs.
-/
import Derived.Test.YteekigpdiklppaaSeqJ
set_option linter.unusedSimpArgs false
set_option linter.unusedVariables false
namespace Go.Seq.Pv
open Go Go.RowKit Go.Seq Go.Seq.Stp
/-- All blocks but the iterator's own lie as they lay. -/
structure KeepsV (pv : Nat → Prop) (W W' : World) : Prop where
  os : W'.os = W.os
  tape : W'.tape = W.tape
  output : W'.output = W.output
  size : W.heap.size ≤ W'.heap.size
  block : ∀ k, k < W.heap.size → ¬ pv k → W'.heap[k]? = W.heap[k]?
theorem KeepsV.of_below {pv : Nat → Prop} {W W' : World} (h : Below W.heap.size W W') : KeepsV pv W W' := ⟨h.os, h.tape, h.output, h.size, fun k hk _ => h.block k hk⟩
theorem KeepsV.refl (pv : Nat → Prop) (W : World) : KeepsV pv W W := ⟨rfl, rfl, rfl, Nat.le_refl _, fun _ _ _ => rfl⟩
theorem KeepsV.trans {pv : Nat → Prop} {A B C : World} (h : KeepsV pv A B) (k : KeepsV pv B C) : KeepsV pv A C :=
  ⟨k.os.trans h.os, k.tape.trans h.tape, k.output.trans h.output, Nat.le_trans h.size k.size, fun i hi hp => (k.block i (Nat.lt_of_lt_of_le hi h.size) hp).trans (h.block i hi hp)⟩
theorem KeepsV.setCell {pv : Nat → Prop} {A W : World} (h : KeepsV pv A W) {p : Addr} (hp : pv p.block) (u : Value) : KeepsV pv A (W.setCell p u) :=
  h.trans ⟨rfl, rfl, rfl, by simp [World.setCell], fun k _ hk => Below.heap_setCell _ _ _ _ (fun e => hk (e ▸ hp))⟩
theorem KeepsV.setNew {pv : Nat → Prop} {A W : World} (h : KeepsV pv A W) {p : Addr} (hp : A.heap.size ≤ p.block) (u : Value) : KeepsV pv A (W.setCell p u) :=
  ⟨h.os, h.tape, h.output, by simpa [World.setCell] using h.size, fun k hk hk2 => (Below.heap_setCell _ _ _ _ (by omega)).trans (h.block k hk hk2)⟩
theorem KeepsV.below {pv : Nat → Prop} {B : Nat} {W W' : World} (h : KeepsV pv W W') (hB : ∀ k, pv k → B ≤ k) (hs : B ≤ W.heap.size) : Below B W W' :=
  ⟨h.os, h.tape, h.output, h.size, fun k hk => h.block k (by omega) (fun hp => by have := hB k hp; omega)⟩
/-- The loop's own blocks n and n + 1 change, too. -/
def KeepsL (n : Nat) (pv : Nat → Prop) : World → World → Prop := KeepsV fun k => k = n ∨ k = n + 1 ∨ pv k
theorem KeepsL.of {n : Nat} {pv : Nat → Prop} {W W' : World} (h : KeepsV pv W W') : KeepsL n pv W W' := ⟨h.os, h.tape, h.output, h.size, fun k hk hn => h.block k hk (fun hp => hn (.inr (.inr hp)))⟩
theorem KeepsL.put (n : Nat) (pv : Nat → Prop) (W : World) (o : Obj) : KeepsL n pv W (W.putObj (n + 1) o) := ⟨rfl, rfl, rfl, by simp, fun k _ h => World.putObj_heap_other (fun e => h (.inr (.inl e)))⟩
def OldV {α : Type} (n : Nat) (pv : Nat → Prop) (I : List α → World → Prop) : Prop := ∀ pre W W', I pre W → KeepsL n pv W W' → I pre W'
/-- AN ITERATOR GIVES xs, as long as the rounds go on. -/
def GivesV {α : Type} (P : Program) (g : Nat) (lb : Array Value) (encs : α → Array Value) (xs : List α) (pv : Nat → Prop) (R : World → Prop) (W1 : World) : Prop :=
  ∀ (l : Nat) (gs : List α → α → Bool) (J : List α → World → Prop), (∀ pre W W', J pre W → KeepsV pv W W' → J pre W') → (∀ pre W, J pre W → R W) →
    (∀ pre x W, J pre W → going gs pre → W1.heap.size ≤ W.heap.size → (∃ post, xs = pre ++ x :: post) → YieldAt Fence.wide 0 P l (encs x) W fun e W' => e = .returned (.bool (gs pre x)) ∧ J (pre ++ [x]) W' ∧ W.heap.size ≤ W'.heap.size ∧ (∀ k, pv k → W'.heap[k]? = W.heap[k]?) ∧ W'.os = W.os ∧ W'.tape = W.tape ∧ W'.output = W.output) →
    J [] W1 →
    CallsIn Fence.wide 0 P g (#[.func (.yield l) #[] #[]] ++ lb) W1 fun e W' => (∃ v, e = .returned v) ∧ (∃ pre, J pre W' ∧ Ended gs xs pre) ∧ W1.heap.size ≤ W'.heap.size
/-- THE STATEMENT. c is the jump by which a round leaves. -/
theorem range_givesV {α : Type} {n : Nat} {P : Program} {g : Operand} {ps : Array Tmp} {assign body : Code} {Q : Exit → Act → World → Prop} {a : Act} {w : World}
    {gf : Nat} {lb : Array Value} (hg : a.eval g = .func (.func gf) #[] lb) (eg : ∀ args w, (callFunc gf args).run P w = .ok (.enter gf args) w)
    {encs : α → Array Value} {xs : List α} {R : World → Prop} (hps : ∀ x, (encs x).size = ps.size) (pv : Nat → Prop) (hpv : ∀ k, pv k → k < w.heap.size)
    (hseq : ∀ W1, W1.heap.size = w.heap.size + 2 → Below w.heap.size w W1 → GivesV P gf lb encs xs pv R W1)
    (gs : List α → α → Bool) (ex : Exit) (c : Code) (hex : ex = .ret ∧ c = .ret ∨ ∃ id, ex = .exit id ∧ c = .exit id)
    (I : List α → World → Prop) (S : List α → World → Prop) (hI : OldV w.heap.size pv I) (hS : OldV w.heap.size pv S) (hIR : ∀ pre W, I pre W → R W) (hSR : ∀ pre W, S pre W → R W) (h0 : I [] w)
    (Ax : α → Act → World → Prop) (hAx : ∀ x a' W W', Ax x a' W → w.heap.size + 2 ≤ W.heap.size → KeepsL w.heap.size pv W W' → Ax x a' W')
    (hassign : ∀ (l : Nat) (pre : List α) (x : α) (W : World) (K : Act → World → Prop), I pre W → w.heap.size + 2 ≤ W.heap.size →
      (∀ a' W', Below W.heap.size W W' → Ax x a' W' → K a' W') →
      assign.wpIn (Fence.wide.inRound l) 0 P (Exit.then K (fun _ _ _ => False)) { tmps := (ps.zip (encs x)).foldl (fun t (p, v) => t.setIfInBounds p v) a.tmps, defers := [] } W)
    (hbody : ∀ (l : Nat) (pre : List α) (x : α) (a' : Act) (W : World), I pre W → Ax x a' W → w.heap.size + 2 ≤ W.heap.size → (∃ post, xs = pre ++ x :: post) → l = w.heap.size + 1 → (∃ r, W.heap[l]? = some (.loop r)) →
      body.wpIn (Fence.wide.inRound l) 0 P (fun e _ W' => (gs pre x = true ∧ e = .normal ∧ I (pre ++ [x]) W' ∨ gs pre x = false ∧ e = ex ∧ S (pre ++ [x]) W') ∧ (W.heap.size ≤ W'.heap.size ∧ W'.heap[w.heap.size]? = W.heap[w.heap.size]? ∧ W'.heap[w.heap.size + 1]? = W.heap[w.heap.size + 1]? ∧ ∀ k, pv k → W'.heap[k]? = W.heap[k]?) ∧ W'.os = W.os ∧ W'.tape = W.tape ∧ W'.output = W.output) a' W)
    (hdone : ∀ (W : World), I xs W → going gs xs → w.heap.size + 2 ≤ W.heap.size → W.heap[w.heap.size]? = some (.deferred (some [])) →
      Q .normal { a with defers := { target := .collected w.heap.size, args := #[] } :: a.defers } W)
    (hstop : ∀ (W : World) (p : List α) (x : α) (post : List α), xs = p ++ x :: post → going gs p → gs p x = false → S (p ++ [x]) W → w.heap.size + 2 ≤ W.heap.size → W.heap[w.heap.size]? = some (.deferred (some [])) →
      c.wpIn Fence.wide n P Q { a with defers := { target := .collected w.heap.size, args := #[] } :: a.defers } W) :
    (Code.rangeFunc g ps assign body).wpIn Fence.wide n P Q a w := by
  refine wpIn_rangeFunc ?_
  intro fn hfn
  obtain ⟨rec, hrec⟩ : ∃ rec : LoopState → Option Code → Loop, rec = fun st pe => { state := st, pending := pe, fn, tmps := a.tmps, params := ps, assign, body, defers := w.heap.size } := ⟨_, rfl⟩
  obtain ⟨W1, hW1⟩ : ∃ W1, (w.alloc (.deferred (some []))).alloc (.loop (rec .ready none)) = W1 := ⟨_, rfl⟩
  have hs1 : W1.heap.size = w.heap.size + 2 := by rw [← hW1]; simp
  have hb1 : Below w.heap.size w W1 := by rw [← hW1]; exact ((Below.refl _ w).alloc (Nat.le_refl _) _).alloc (by simp) _
  have hL1 : W1.heap[w.heap.size + 1]? = some (.loop (rec .ready none)) := by
    rw [← hW1]; have := World.alloc_heap_new (w.alloc (.deferred (some []))) (.loop (rec .ready none)); rwa [World.size_alloc] at this
  have hK1 : W1.heap[w.heap.size]? = some (.deferred (some [])) := by
    rw [← hW1]; exact (Below.heap_alloc _ _ _ (by simp)).trans (World.alloc_heap_new w _)
  refine ⟨w.heap.size + 1, [{ target := .collected w.heap.size, args := #[] }], W1, { target := .fn (.func gf) lb, args := #[.func (.yield (w.heap.size + 1)) #[] #[]] }, W1, gf,
    #[.func (.yield (w.heap.size + 1)) #[] #[]] ++ lb, W1, ?_, ?_, ?_, ?_, fun h => by simp [Fence.wide] at h, ?_⟩
  · rw [← hW1, hrec]; exact run_enterLoop_outer _ _ _ _ _
  · simp only [resolve, hg]
    simp [go_sem]
  · intro f' hf'; exact trivial
  · simp [invoke, go_sem, eg]
  · obtain ⟨J, hJd⟩ : ∃ J : List α → World → Prop, J = fun pre W => ((going gs pre ∧ I pre W ∧ W.heap[w.heap.size + 1]? = some (.loop (rec .ready none))) ∨ (¬ going gs pre ∧ S pre W ∧ W.heap[w.heap.size + 1]? = some (.loop (rec .done (some c))))) ∧ W.heap[w.heap.size]? = some (.deferred (some [])) := ⟨_, rfl⟩
    have hpv1 : ¬ pv w.heap.size := fun h => by have := hpv _ h; omega
    have hpv2 : ¬ pv (w.heap.size + 1) := fun h => by have := hpv _ h; omega
    have hseq' := hseq W1 hs1 hb1 (w.heap.size + 1) gs J
      (fun pre W W' h hb => by
        rw [hJd] at h ⊢
        obtain ⟨h, hk⟩ := h
        refine ⟨?_, (hb.block _ (Array.getElem?_eq_some_iff.1 hk).1 hpv1).trans hk⟩
        rcases h with ⟨g1, h1, h2⟩ | ⟨g1, h1, h2⟩
        · exact .inl ⟨g1, hI pre W W' h1 (.of hb), (hb.block _ (Array.getElem?_eq_some_iff.1 h2).1 hpv2).trans h2⟩
        · exact .inr ⟨g1, hS pre W W' h1 (.of hb), (hb.block _ (Array.getElem?_eq_some_iff.1 h2).1 hpv2).trans h2⟩)
      (fun pre W h => by
        rw [hJd] at h
        rcases h.1 with ⟨g1, h1, h2⟩ | ⟨g1, h1, h2⟩
        · exact hIR pre W h1
        · exact hSR pre W h1) ?_ (by rw [hJd]; exact ⟨.inl ⟨going_nil gs, hI _ _ _ h0 (.of (.of_below hb1)), hL1⟩, hK1⟩)
    · have hseq'' : CallsIn Fence.wide (n - 1) P gf (#[.func (.yield (w.heap.size + 1)) #[] #[]] ++ lb) W1 _ := callsIn_wide.2 (callsIn_wide.1 hseq')
      refine hseq''.mono ?_
      rintro e W2 ⟨⟨v, rfl⟩, ⟨pre, hj, he⟩, hs2⟩
      rw [hJd] at hj
      obtain ⟨hj, hk⟩ := hj
      rcases he with ⟨rfl, hgo⟩ | ⟨p, x, post, hx, rfl, hgo, hf⟩
      · rcases hj with ⟨_, hi, hl⟩ | ⟨g1, _⟩
        · refine ⟨none, _, by have := run_endLoop (P := P) hl (by rw [hrec]; simp); rw [hrec] at this; exact this, hdone _ (hI _ _ _ hi (.put _ _ _ _)) hgo (by simp; omega) ((World.putObj_heap_other (by omega)).trans hk)⟩
        · exact absurd hgo g1
      · rcases hj with ⟨g1, _⟩ | ⟨_, hi, hl⟩
        · have := (going_snoc.1 g1).2
          rw [hf] at this; cases this
        · refine ⟨some c, _, by have := run_endLoop (P := P) hl (by rw [hrec]; simp); rw [hrec] at this; exact this, hstop _ p x post hx hgo hf (hS _ _ _ hi (.put _ _ _ _)) (by simp; omega) ((World.putObj_heap_other (by omega)).trans hk)⟩
    · rintro pre x W hj hgo hsz hpre
      rw [hJd] at hj
      obtain ⟨hj, hk⟩ := hj
      rcases hj with ⟨_, hi, hl⟩ | ⟨g1, _⟩
      rotate_left
      · exact absurd hgo g1
      have hy := run_yield (P := P) (args := encs x) hl (by rw [hrec]; exact hps x)
      rw [hrec] at hy
      refine ⟨fn, _, assign, body, hy, roundIn_of_wpIn hfn (hassign _ pre x W _ hi (by omega) ?_)⟩
      clear hy
      intro a' Wa hba hax
      have hla := (hba.block _ (by omega)).trans hl
      have hka := (hba.block _ (by omega)).trans hk
      have hia := hI _ _ _ hi (.of (.of_below hba))
      have hsa := hba.size
      refine ⟨_, run_beginRound hla (by rw [hrec]), ?_⟩
      refine wpIn_mono (hbody _ pre x a' _ (hI _ _ _ hia (.put _ _ _ _)) (hAx x a' _ _ hax (by omega) (.put _ _ _ _)) (by simp; omega) hpre rfl ⟨_, World.putObj_heap_same (by omega)⟩) ?_
      rintro e a3 W3 ⟨he, ⟨hf3, hf4, hf5, hf6⟩, ho3⟩
      have hl3 : W3.heap[w.heap.size + 1]? = some (.loop { rec .ready none with state := .busy }) := hf5.trans (World.putObj_heap_same (by omega))
      have hk3 : W3.heap[w.heap.size]? = some (.deferred (some [])) := hf4.trans ((World.putObj_heap_other (by omega)).trans hka)
      simp at hf3
      have hl3' := (Array.getElem?_eq_some_iff.1 hl3).1
      have hfr : ∀ o, W.heap.size ≤ (W3.putObj (w.heap.size + 1) o).heap.size ∧ ∀ k, pv k → (W3.putObj (w.heap.size + 1) o).heap[k]? = W.heap[k]? := fun o => by
        refine ⟨by simp; omega, fun k hk => ?_⟩
        have h1 := hpv k hk
        exact (World.putObj_heap_other (by omega)).trans ((hf6 k hk).trans ((World.putObj_heap_other (by omega)).trans (hba.block k (by omega))))
      have hos := And.intro (ho3.1.trans hba.os) (And.intro (ho3.2.1.trans hba.tape) (ho3.2.2.trans hba.output))
      rcases he with ⟨hg1, rfl, hi3⟩ | ⟨hg1, rfl, hi3⟩
      · refine ⟨_, _, run_endRound none hl3, ?_⟩
        refine ⟨by rw [hg1]; rfl, ?_, (hfr _).1, (hfr _).2, hos⟩
        rw [hJd]
        refine ⟨.inl ⟨going_snoc.2 ⟨hgo, hg1⟩, hI _ _ _ hi3 (.put _ _ _ _), ?_⟩, (World.putObj_heap_other (by omega)).trans hk3⟩
        rw [World.putObj_heap_same hl3', hrec]; rfl
      · have key : (gs pre x = false) → ((Ending.returned (.bool (some c).isNone)) = .returned (.bool (gs pre x)) ∧ J (pre ++ [x]) (W3.putObj (w.heap.size + 1) (.loop { rec .ready none with state := .done, pending := some c })) ∧ W.heap.size ≤ (W3.putObj (w.heap.size + 1) (.loop { rec .ready none with state := .done, pending := some c })).heap.size ∧ (∀ k, pv k → (W3.putObj (w.heap.size + 1) (.loop { rec .ready none with state := .done, pending := some c })).heap[k]? = W.heap[k]?) ∧ W3.os = W.os ∧ W3.tape = W.tape ∧ W3.output = W.output) := fun hg1 => by
          refine ⟨by rw [hg1]; rfl, ?_, (hfr _).1, (hfr _).2, hos⟩
          rw [hJd]
          refine ⟨.inr ⟨(fun h => by have := (going_snoc.1 h).2; rw [hg1] at this; cases this), hS _ _ _ hi3 (.put _ _ _ _), ?_⟩, (World.putObj_heap_other (by omega)).trans hk3⟩
          rw [World.putObj_heap_same hl3', hrec]
        rcases hex with ⟨rfl, rfl⟩ | ⟨id, rfl, rfl⟩
        · exact ⟨_, _, run_endRound (some .ret) hl3, key hg1⟩
        · exact ⟨_, _, run_endRound (some (.exit id)) hl3, key hg1⟩
end Go.Seq.Pv
