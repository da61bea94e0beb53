/-
  SEQ, part M: a range over a function inside a round of another range, whose rounds may leave the loop (SeqJ's law, nested).
-/
import Derived.Test.YteekigpdiklppaaSeqL
set_option linter.unusedSimpArgs false
set_option linter.unusedVariables false
namespace Go.Seq.Nst
open Go Go.RowKit Go.Seq Go.Seq.Stp
/-- THE STATEMENT. c is the jump by which a round leaves. -/
theorem range_givesN {α : Type} {n : Nat} {P : Program} {g : Operand} {ps : Array Tmp} {assign body : Code} {Q : Exit → Act → World → Prop} {a : Act} {w : World}
    {l₀ : Nat} {r₀ : Loop} (hl₀ : w.heap[l₀]? = some (.loop r₀)) {gf : Nat} {lb : Array Value} (hg : a.eval g = .func (.func gf) #[] lb) (eg : ∀ args w, (callFunc gf args).run P w = .ok (.enter gf args) w)
    {encs : α → Array Value} {xs : List α} {R : World → Prop} (hps : ∀ x, (encs x).size = ps.size)
    (hseq : ∀ W1, W1.heap.size = w.heap.size + 1 → Below w.heap.size w W1 → GivesS P gf lb encs xs R W1)
    (gs : List α → α → Bool) (ex : Exit) (c : Code) (hex : ex = .ret ∧ c = .ret ∨ ∃ id, ex = .exit id ∧ c = .exit id)
    (I : List α → World → Prop) (S : List α → World → Prop) (hI : Old w.heap.size I) (hS : Old w.heap.size S) (hIR : ∀ pre W, I pre W → R W) (hSR : ∀ pre W, S pre W → R W) (h0 : I [] w)
    (Ax : α → Act → World → Prop) (hAx : ∀ x a' W W', Ax x a' W → From (w.heap.size + 1) W W' → Ax x a' W')
    (hassign : ∀ (l : Nat) (pre : List α) (x : α) (W : World) (K : Act → World → Prop), I pre W → w.heap.size + 1 ≤ W.heap.size →
      (∀ a' W', Below W.heap.size W W' → Ax x a' W' → K a' W') →
      assign.wpIn (Fence.wide.inRound l) 0 P (Exit.then K (fun _ _ _ => False)) { tmps := (ps.zip (encs x)).foldl (fun t (p, v) => t.setIfInBounds p v) a.tmps, defers := [] } W)
    (hbody : ∀ (l : Nat) (pre : List α) (x : α) (a' : Act) (W : World), I pre W → Ax x a' W → w.heap.size + 1 ≤ W.heap.size → (∃ post, xs = pre ++ x :: post) →
      body.wpIn (Fence.wide.inRound l) 0 P (fun e _ W' => (gs pre x = true ∧ e = .normal ∧ I (pre ++ [x]) W' ∨ gs pre x = false ∧ e = ex ∧ S (pre ++ [x]) W') ∧ From w.heap.size W W' ∧ W'.os = W.os ∧ W'.tape = W.tape ∧ W'.output = W.output) a' W)
    (hdone : ∀ (W : World), I xs W → going gs xs → w.heap.size + 1 ≤ W.heap.size  →
      Q .normal a W)
    (hstop : ∀ (W : World) (p : List α) (x : α) (post : List α), xs = p ++ x :: post → going gs p → gs p x = false → S (p ++ [x]) W → w.heap.size + 1 ≤ W.heap.size  →
      c.wpIn (Fence.wide.inRound l₀) n P Q a W) :
    (Code.rangeFunc g ps assign body).wpIn (Fence.wide.inRound l₀) n P Q a w := by
  refine wpIn_rangeFunc ?_
  intro fn hfn
  obtain ⟨rec, hrec⟩ : ∃ rec : LoopState → Option Code → Loop, rec = fun st pe => { state := st, pending := pe, fn, tmps := a.tmps, params := ps, assign, body, defers := r₀.defers } := ⟨_, rfl⟩
  obtain ⟨W1, hW1⟩ : ∃ W1, w.alloc (.loop (rec .ready none)) = W1 := ⟨_, rfl⟩
  have hs1 : W1.heap.size = w.heap.size + 1 := by rw [← hW1]; simp
  have hb1 : Below w.heap.size w W1 := by rw [← hW1]; exact (Below.refl _ w).alloc (Nat.le_refl _) _
  have hL1 : W1.heap[w.heap.size]? = some (.loop (rec .ready none)) := by rw [← hW1]; exact World.alloc_heap_new w _
  refine ⟨w.heap.size, [], W1, { target := .fn (.func gf) lb, args := #[.func (.yield w.heap.size) #[] #[]] }, W1, gf,
    #[.func (.yield w.heap.size) #[] #[]] ++ lb, W1, ?_, ?_, ?_, ?_, fun h => by simp [Fence.wide, Fence.inRound] at h, ?_⟩
  · rw [← hW1, hrec]; exact run_enterLoop_inner hl₀ _ _ _ _ _
  · simp only [resolve, hg]
    simp [go_sem]
  · intro f' hf'; exact trivial
  · simp [invoke, go_sem, eg]
  · obtain ⟨J, hJd⟩ : ∃ J : List α → World → Prop, J = fun pre W => ((going gs pre ∧ I pre W ∧ W.heap[w.heap.size]? = some (.loop (rec .ready none))) ∨ (¬ going gs pre ∧ S pre W ∧ W.heap[w.heap.size]? = some (.loop (rec .done (some c))))) := ⟨_, rfl⟩
    have hseq' := hseq W1 hs1 hb1 w.heap.size gs J
      (fun pre W W' h hb => by
        rw [hJd] at h ⊢
        rcases h with ⟨g1, h1, h2⟩ | ⟨g1, h1, h2⟩
        · exact .inl ⟨g1, hI pre W W' h1 (hb.mono (by omega)), (hb.block _ (by omega)).trans h2⟩
        · exact .inr ⟨g1, hS pre W W' h1 (hb.mono (by omega)), (hb.block _ (by omega)).trans h2⟩)
      (fun pre W h => by
        rw [hJd] at h
        rcases h with ⟨g1, h1, h2⟩ | ⟨g1, h1, h2⟩
        · exact hIR pre W h1
        · exact hSR pre W h1) ?_ (by rw [hJd]; exact .inl ⟨going_nil gs, hI _ _ _ h0 hb1, hL1⟩)
    · have hseq'' : CallsIn (Fence.wide.inRound l₀) (n - 1) P gf (#[.func (.yield w.heap.size) #[] #[]] ++ lb) W1 _ := CallsIn.inRound l₀ (callsIn_wide.2 (callsIn_wide.1 hseq'))
      refine hseq''.mono ?_
      rintro e W2 ⟨⟨v, rfl⟩, ⟨pre, hj, he⟩, hs2⟩
      rw [hJd] at hj
      rcases he with ⟨rfl, hgo⟩ | ⟨p, x, post, hx, rfl, hgo, hf⟩
      · rcases hj with ⟨_, hi, hl⟩ | ⟨g1, _⟩
        · refine ⟨none, _, by have := run_endLoop (P := P) hl (by rw [hrec]; simp); rw [hrec] at this; exact this, hdone _ (hI _ _ _ hi (below_put (by omega))) hgo (by simp; omega)⟩
        · exact absurd hgo g1
      · rcases hj with ⟨g1, _⟩ | ⟨_, hi, hl⟩
        · have := (going_snoc.1 g1).2
          rw [hf] at this; cases this
        · refine ⟨some c, _, by have := run_endLoop (P := P) hl (by rw [hrec]; simp); rw [hrec] at this; exact this, hstop _ p x post hx hgo hf (hS _ _ _ hi (below_put (by omega))) (by simp; omega)⟩
    · rintro pre x W hj hgo hsz hpre
      rw [hJd] at hj
      rcases hj with ⟨_, hi, hl⟩ | ⟨g1, _⟩
      rotate_left
      · exact absurd hgo g1
      have hy := run_yield (P := P) (args := encs x) hl (by rw [hrec]; exact hps x)
      rw [hrec] at hy
      refine ⟨fn, _, assign, body, hy, roundIn_of_wpIn hfn (hassign _ pre x W _ hi (by omega) ?_)⟩
      clear hy
      intro a' Wa hba hax
      have hla := (hba.block _ (by omega)).trans hl
      have hia := hI _ _ _ hi (hba.mono (by omega))
      have hsa := hba.size
      refine ⟨_, run_beginRound hla (by rw [hrec]), ?_⟩
      refine wpIn_mono (hbody _ pre x a' _ (hI _ _ _ hia (below_put (by omega))) (hAx x a' _ _ hax (from_put (by omega))) (by simp; omega) hpre) ?_
      rintro e a3 W3 ⟨he, hf3, ho3⟩
      have hl3 : W3.heap[w.heap.size]? = some (.loop { rec .ready none with state := .busy }) :=
        (hf3.2 _ (by omega) (by simp; omega)).trans (World.putObj_heap_same (by omega))
      have hs3 := hf3.1
      simp at hs3
      have hl3' := (Array.getElem?_eq_some_iff.1 hl3).1
      have hfr : ∀ o, From W1.heap.size W (W3.putObj w.heap.size o) := fun o => by
        rw [hs1]
        exact (From.of_below hba (by omega)).trans (.trans (from_put (by omega)) (.trans (hf3.mono (by omega)) (from_put (by omega))))
      have hos := And.intro (ho3.1.trans hba.os) (And.intro (ho3.2.1.trans hba.tape) (ho3.2.2.trans hba.output))
      rcases he with ⟨hg1, rfl, hi3⟩ | ⟨hg1, rfl, hi3⟩
      · refine ⟨_, _, run_endRound none hl3, ?_⟩
        refine ⟨by rw [hg1]; rfl, ?_, hfr _, hos⟩
        rw [hJd]
        refine .inl ⟨going_snoc.2 ⟨hgo, hg1⟩, hI _ _ _ hi3 (below_put (by omega)), ?_⟩
        rw [World.putObj_heap_same hl3', hrec]; rfl
      · have key : (gs pre x = false) → ((Ending.returned (.bool (some c).isNone)) = .returned (.bool (gs pre x)) ∧ J (pre ++ [x]) (W3.putObj w.heap.size (.loop { rec .ready none with state := .done, pending := some c })) ∧ From W1.heap.size W (W3.putObj w.heap.size (.loop { rec .ready none with state := .done, pending := some c })) ∧ W3.os = W.os ∧ W3.tape = W.tape ∧ W3.output = W.output) := fun hg1 => by
          refine ⟨by rw [hg1]; rfl, ?_, hfr _, hos⟩
          rw [hJd]
          refine .inr ⟨(fun h => by have := (going_snoc.1 h).2; rw [hg1] at this; cases this), hS _ _ _ hi3 (below_put (by omega)), ?_⟩
          rw [World.putObj_heap_same hl3', hrec]
        rcases hex with ⟨rfl, rfl⟩ | ⟨id, rfl, rfl⟩
        · exact ⟨_, _, run_endRound (some .ret) hl3, key hg1⟩
        · exact ⟨_, _, run_endRound (some (.exit id)) hl3, key hg1⟩
end Go.Seq.Nst
