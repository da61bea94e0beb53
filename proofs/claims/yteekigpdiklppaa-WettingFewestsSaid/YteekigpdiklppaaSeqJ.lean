/-
  SEQ, part J: a range over a function whose rounds may leave the loop: which round does is told by a function gs of the elements before and the element.
-/
import Derived.Test.YteekigpdiklppaaSeqI
set_option linter.unusedSimpArgs false
set_option linter.unusedVariables false
namespace Go.Seq.Stp
open Go Go.RowKit Go.Seq
/-- Every round so far has gone on. -/
def going {α : Type} (gs : List α → α → Bool) (pre : List α) : Prop := ∀ p x q, pre = p ++ x :: q → gs p x = true
theorem going_nil {α : Type} (gs : List α → α → Bool) : going gs [] := fun p x q h => by cases p <;> cases h
theorem going_snoc {α : Type} {gs : List α → α → Bool} {pre : List α} {x : α} : going gs (pre ++ [x]) ↔ going gs pre ∧ gs pre x = true := by
  constructor
  · exact fun h => ⟨fun p y q e => h p y (q ++ [x]) (by rw [e]; simp), h pre x [] rfl⟩
  · rintro ⟨h1, h2⟩ p y q e
    rcases List.eq_nil_or_concat q with rfl | ⟨q', z, rfl⟩
    · have := List.append_inj' (s₁ := pre) (t₁ := [x]) (s₂ := p) (t₂ := [y]) e rfl
      obtain ⟨rfl, h⟩ := this
      cases h; exact h2
    · have e' : pre ++ [x] = (p ++ y :: q') ++ [z] := by rw [e]; simp
      exact h1 p y q' (List.append_inj' e' rfl).1
/-- Where the loop has ended: at the list's end, or behind the first round that left it. -/
def Ended {α : Type} (gs : List α → α → Bool) (xs pre : List α) : Prop := (pre = xs ∧ going gs xs) ∨ ∃ p x post, xs = p ++ x :: post ∧ pre = p ++ [x] ∧ going gs p ∧ gs p x = false
/-- AN ITERATOR GIVES xs, as long as the rounds go on. -/
def GivesS {α : Type} (P : Program) (g : Nat) (lb : Array Value) (encs : α → Array Value) (xs : List α) (R : World → Prop) (W1 : World) : Prop :=
  ∀ (l : Nat) (gs : List α → α → Bool) (J : List α → World → Prop), Old W1.heap.size J → (∀ pre W, J pre W → R W) →
    (∀ pre x W, J pre W → going gs pre → W1.heap.size ≤ W.heap.size → (∃ post, xs = pre ++ x :: post) → YieldAt Fence.wide 0 P l (encs x) W fun e W' => e = .returned (.bool (gs pre x)) ∧ J (pre ++ [x]) W' ∧ From W1.heap.size W W' ∧ W'.os = W.os ∧ W'.tape = W.tape ∧ W'.output = W.output) →
    J [] W1 →
    CallsIn Fence.wide 0 P g (#[.func (.yield l) #[] #[]] ++ lb) W1 fun e W' => (∃ v, e = .returned v) ∧ (∃ pre, J pre W' ∧ Ended gs xs pre) ∧ W1.heap.size ≤ W'.heap.size
theorem GivesS.gives {α : Type} {P : Program} {g : Nat} {lb : Array Value} {encs : α → Array Value} {xs : List α} {R : World → Prop} {W1 : World} (h : GivesS P g lb encs xs R W1) : Gives P g lb encs xs R W1 := by
  intro l J hJ hR hY h0
  refine (h l (fun _ _ => true) J hJ hR (fun pre x W hj _ hs hp => hY pre x W hj hs hp) h0).mono ?_
  rintro e W' ⟨h1, ⟨pre, hj, he⟩, h2⟩
  rcases he with ⟨rfl, _⟩ | ⟨p, x, post, _, _, _, h⟩
  · exact ⟨h1, hj, h2⟩
  · cases h
/-- THE STATEMENT. c is the jump by which a round leaves. -/
theorem range_givesS {α : Type} {n : Nat} {P : Program} {g : Operand} {ps : Array Tmp} {assign body : Code} {Q : Exit → Act → World → Prop} {a : Act} {w : World}
    {gf : Nat} {lb : Array Value} (hg : a.eval g = .func (.func gf) #[] lb) (eg : ∀ args w, (callFunc gf args).run P w = .ok (.enter gf args) w)
    {encs : α → Array Value} {xs : List α} {R : World → Prop} (hps : ∀ x, (encs x).size = ps.size)
    (hseq : ∀ W1, W1.heap.size = w.heap.size + 2 → Below w.heap.size w W1 → GivesS P gf lb encs xs R W1)
    (gs : List α → α → Bool) (ex : Exit) (c : Code) (hex : ex = .ret ∧ c = .ret ∨ ∃ id, ex = .exit id ∧ c = .exit id)
    (I : List α → World → Prop) (S : List α → World → Prop) (hI : Old w.heap.size I) (hS : Old w.heap.size S) (hIR : ∀ pre W, I pre W → R W) (hSR : ∀ pre W, S pre W → R W) (h0 : I [] w)
    (Ax : α → Act → World → Prop) (hAx : ∀ x a' W W', Ax x a' W → From (w.heap.size + 2) W W' → Ax x a' W')
    (hassign : ∀ (l : Nat) (pre : List α) (x : α) (W : World) (K : Act → World → Prop), I pre W → w.heap.size + 2 ≤ W.heap.size →
      (∀ a' W', Below W.heap.size W W' → Ax x a' W' → K a' W') →
      assign.wpIn (Fence.wide.inRound l) 0 P (Exit.then K (fun _ _ _ => False)) { tmps := (ps.zip (encs x)).foldl (fun t (p, v) => t.setIfInBounds p v) a.tmps, defers := [] } W)
    (hbody : ∀ (l : Nat) (pre : List α) (x : α) (a' : Act) (W : World), I pre W → Ax x a' W → w.heap.size + 2 ≤ W.heap.size → (∃ post, xs = pre ++ x :: post) →
      body.wpIn (Fence.wide.inRound l) 0 P (fun e _ W' => (gs pre x = true ∧ e = .normal ∧ I (pre ++ [x]) W' ∨ gs pre x = false ∧ e = ex ∧ S (pre ++ [x]) W') ∧ From w.heap.size W W' ∧ W'.os = W.os ∧ W'.tape = W.tape ∧ W'.output = W.output) a' W)
    (hdone : ∀ (W : World), I xs W → going gs xs → w.heap.size + 2 ≤ W.heap.size → W.heap[w.heap.size]? = some (.deferred (some [])) →
      Q .normal { a with defers := { target := .collected w.heap.size, args := #[] } :: a.defers } W)
    (hstop : ∀ (W : World) (p : List α) (x : α) (post : List α), xs = p ++ x :: post → going gs p → gs p x = false → S (p ++ [x]) W → w.heap.size + 2 ≤ W.heap.size → W.heap[w.heap.size]? = some (.deferred (some [])) →
      c.wpIn Fence.wide n P Q { a with defers := { target := .collected w.heap.size, args := #[] } :: a.defers } W) :
    (Code.rangeFunc g ps assign body).wpIn Fence.wide n P Q a w := by
  refine wpIn_rangeFunc ?_
  intro fn hfn
  obtain ⟨rec, hrec⟩ : ∃ rec : LoopState → Option Code → Loop, rec = fun st pe => { state := st, pending := pe, fn, tmps := a.tmps, params := ps, assign, body, defers := w.heap.size } := ⟨_, rfl⟩
  obtain ⟨W1, hW1⟩ : ∃ W1, (w.alloc (.deferred (some []))).alloc (.loop (rec .ready none)) = W1 := ⟨_, rfl⟩
  have hs1 : W1.heap.size = w.heap.size + 2 := by rw [← hW1]; simp
  have hb1 : Below w.heap.size w W1 := by rw [← hW1]; exact ((Below.refl _ w).alloc (Nat.le_refl _) _).alloc (by simp) _
  have hL1 : W1.heap[w.heap.size + 1]? = some (.loop (rec .ready none)) := by
    rw [← hW1]; have := World.alloc_heap_new (w.alloc (.deferred (some []))) (.loop (rec .ready none)); rwa [World.size_alloc] at this
  have hK1 : W1.heap[w.heap.size]? = some (.deferred (some [])) := by
    rw [← hW1]; exact (Below.heap_alloc _ _ _ (by simp)).trans (World.alloc_heap_new w _)
  refine ⟨w.heap.size + 1, [{ target := .collected w.heap.size, args := #[] }], W1, { target := .fn (.func gf) lb, args := #[.func (.yield (w.heap.size + 1)) #[] #[]] }, W1, gf,
    #[.func (.yield (w.heap.size + 1)) #[] #[]] ++ lb, W1, ?_, ?_, ?_, ?_, fun h => by simp [Fence.wide] at h, ?_⟩
  · rw [← hW1, hrec]; exact run_enterLoop_outer _ _ _ _ _
  · simp only [resolve, hg]
    simp [go_sem]
  · intro f' hf'; exact trivial
  · simp [invoke, go_sem, eg]
  · obtain ⟨J, hJd⟩ : ∃ J : List α → World → Prop, J = fun pre W => ((going gs pre ∧ I pre W ∧ W.heap[w.heap.size + 1]? = some (.loop (rec .ready none))) ∨ (¬ going gs pre ∧ S pre W ∧ W.heap[w.heap.size + 1]? = some (.loop (rec .done (some c))))) ∧ W.heap[w.heap.size]? = some (.deferred (some [])) := ⟨_, rfl⟩
    have hseq' := hseq W1 hs1 hb1 (w.heap.size + 1) gs J
      (fun pre W W' h hb => by
        rw [hJd] at h ⊢
        obtain ⟨h, hk⟩ := h
        refine ⟨?_, (hb.block _ (by omega)).trans hk⟩
        rcases h with ⟨g1, h1, h2⟩ | ⟨g1, h1, h2⟩
        · exact .inl ⟨g1, hI pre W W' h1 (hb.mono (by omega)), (hb.block _ (by omega)).trans h2⟩
        · exact .inr ⟨g1, hS pre W W' h1 (hb.mono (by omega)), (hb.block _ (by omega)).trans h2⟩)
      (fun pre W h => by
        rw [hJd] at h
        rcases h.1 with ⟨g1, h1, h2⟩ | ⟨g1, h1, h2⟩
        · exact hIR pre W h1
        · exact hSR pre W h1) ?_ (by rw [hJd]; exact ⟨.inl ⟨going_nil gs, hI _ _ _ h0 hb1, hL1⟩, hK1⟩)
    · have hseq'' : CallsIn Fence.wide (n - 1) P gf (#[.func (.yield (w.heap.size + 1)) #[] #[]] ++ lb) W1 _ := callsIn_wide.2 (callsIn_wide.1 hseq')
      refine hseq''.mono ?_
      rintro e W2 ⟨⟨v, rfl⟩, ⟨pre, hj, he⟩, hs2⟩
      rw [hJd] at hj
      obtain ⟨hj, hk⟩ := hj
      rcases he with ⟨rfl, hgo⟩ | ⟨p, x, post, hx, rfl, hgo, hf⟩
      · rcases hj with ⟨_, hi, hl⟩ | ⟨g1, _⟩
        · refine ⟨none, _, by have := run_endLoop (P := P) hl (by rw [hrec]; simp); rw [hrec] at this; exact this, hdone _ (hI _ _ _ hi (below_put (by omega))) hgo (by simp; omega) ((World.putObj_heap_other (by omega)).trans hk)⟩
        · exact absurd hgo g1
      · rcases hj with ⟨g1, _⟩ | ⟨_, hi, hl⟩
        · have := (going_snoc.1 g1).2
          rw [hf] at this; cases this
        · refine ⟨some c, _, by have := run_endLoop (P := P) hl (by rw [hrec]; simp); rw [hrec] at this; exact this, hstop _ p x post hx hgo hf (hS _ _ _ hi (below_put (by omega))) (by simp; omega) ((World.putObj_heap_other (by omega)).trans hk)⟩
    · rintro pre x W hj hgo hsz hpre
      rw [hJd] at hj
      obtain ⟨hj, hk⟩ := hj
      rcases hj with ⟨_, hi, hl⟩ | ⟨g1, _⟩
      rotate_left
      · exact absurd hgo g1
      have hy := run_yield (P := P) (args := encs x) hl (by rw [hrec]; exact hps x)
      rw [hrec] at hy
      refine ⟨fn, _, assign, body, hy, roundIn_of_wpIn hfn (hassign _ pre x W _ hi (by omega) ?_)⟩
      clear hy
      intro a' Wa hba hax
      have hla := (hba.block _ (by omega)).trans hl
      have hka := (hba.block _ (by omega)).trans hk
      have hia := hI _ _ _ hi (hba.mono (by omega))
      have hsa := hba.size
      refine ⟨_, run_beginRound hla (by rw [hrec]), ?_⟩
      refine wpIn_mono (hbody _ pre x a' _ (hI _ _ _ hia (below_put (by omega))) (hAx x a' _ _ hax (from_put (by omega))) (by simp; omega) hpre) ?_
      rintro e a3 W3 ⟨he, hf3, ho3⟩
      have hl3 : W3.heap[w.heap.size + 1]? = some (.loop { rec .ready none with state := .busy }) :=
        (hf3.2 _ (by omega) (by simp; omega)).trans (World.putObj_heap_same (by omega))
      have hk3 : W3.heap[w.heap.size]? = some (.deferred (some [])) :=
        (hf3.2 _ (Nat.le_refl _) (by simp; omega)).trans ((World.putObj_heap_other (by omega)).trans hka)
      have hs3 := hf3.1
      simp at hs3
      have hl3' := (Array.getElem?_eq_some_iff.1 hl3).1
      have hfr : ∀ o, From W1.heap.size W (W3.putObj (w.heap.size + 1) o) := fun o => by
        rw [hs1]
        exact (From.of_below hba (by omega)).trans (.trans (from_put (by omega)) (.trans (hf3.mono (by omega)) (from_put (by omega))))
      have hos := And.intro (ho3.1.trans hba.os) (And.intro (ho3.2.1.trans hba.tape) (ho3.2.2.trans hba.output))
      rcases he with ⟨hg1, rfl, hi3⟩ | ⟨hg1, rfl, hi3⟩
      · refine ⟨_, _, run_endRound none hl3, ?_⟩
        refine ⟨by rw [hg1]; rfl, ?_, hfr _, hos⟩
        rw [hJd]
        refine ⟨.inl ⟨going_snoc.2 ⟨hgo, hg1⟩, hI _ _ _ hi3 (below_put (by omega)), ?_⟩, (World.putObj_heap_other (by omega)).trans hk3⟩
        rw [World.putObj_heap_same hl3', hrec]; rfl
      · have key : (gs pre x = false) → ((Ending.returned (.bool (some c).isNone)) = .returned (.bool (gs pre x)) ∧ J (pre ++ [x]) (W3.putObj (w.heap.size + 1) (.loop { rec .ready none with state := .done, pending := some c })) ∧ From W1.heap.size W (W3.putObj (w.heap.size + 1) (.loop { rec .ready none with state := .done, pending := some c })) ∧ W3.os = W.os ∧ W3.tape = W.tape ∧ W3.output = W.output) := fun hg1 => by
          refine ⟨by rw [hg1]; rfl, ?_, hfr _, hos⟩
          rw [hJd]
          refine ⟨.inr ⟨(fun h => by have := (going_snoc.1 h).2; rw [hg1] at this; cases this), hS _ _ _ hi3 (below_put (by omega)), ?_⟩, (World.putObj_heap_other (by omega)).trans hk3⟩
          rw [World.putObj_heap_same hl3', hrec]
        rcases hex with ⟨rfl, rfl⟩ | ⟨id, rfl, rfl⟩
        · exact ⟨_, _, run_endRound (some .ret) hl3, key hg1⟩
        · exact ⟨_, _, run_endRound (some (.exit id)) hl3, key hg1⟩
end Go.Seq.Stp
