import Derived.Test.YteekigpdiklppaaWChk
set_option linter.unusedSimpArgs false
set_option linter.unusedVariables false
namespace Go.Proofs.Yteekigpdiklppaa
open Go Go.Proofs Go.RowKit Go.Seq
/-! Wetting one place after the other. -/
def dryN (adj : Nat → Nat → Bool) (s : Nat → Bool) (p : Nat) : Nat → Bool := fun u => adj p u && !s u
/-- The pairs that may come next, of the places up to k. -/
def canTo (adj : Nat → Nat → Bool) (s : Nat → Bool) : Nat → Pts
  | 0 => []
  | k + 1 => if s k = true ∧ sz (dryN adj s k) = 1 then canTo adj s k ++ [((k : Int), onlyOf (dryN adj s k))] else canTo adj s k
theorem canTo_len (adj : Nat → Nat → Bool) (s : Nat → Bool) : ∀ k, (canTo adj s k).length ≤ k
  | 0 => by simp [canTo]
  | k + 1 => by
    have := canTo_len adj s k
    unfold canTo; split
    · rw [List.length_append]; simp; omega
    · omega
theorem one_only {D : Nat → Bool} (h : sz D = 1) : ∃ u, u < 12 ∧ D u = true ∧ onlyOf D = (u : Int) := by
  unfold sz at h
  obtain ⟨u, hu⟩ := List.length_eq_one_iff.1 h
  have hm : u ∈ vsTo D 12 := by rw [hu]; simp
  obtain ⟨h1, h2⟩ := vsTo_lt hm
  exact ⟨u, h1, h2, (only_sz h1).2 ⟨h, h2⟩⟩
theorem canTo_step {N : Nat} {E : Pts} (hG : GOk N E) {s : Nat → Bool} : ∀ k, k ≤ N → ∀ p ∈ canTo (adjOf E) s k, stepC N (adjOf E) s p = true
  | 0, _, p, hp => by simp [canTo] at hp
  | k + 1, hk, p, hp => by
    have ih := canTo_step hG (s := s) k (by omega)
    unfold canTo at hp
    split at hp
    · rename_i h
      rcases List.mem_append.1 hp with hp | hp
      · exact ih p hp
      · obtain ⟨u, hu1, hu2, hu3⟩ := one_only h.2
        simp only [List.mem_singleton] at hp
        subst hp
        have huN : u < N := by
          unfold dryN at hu2
          rw [Bool.and_eq_true] at hu2
          exact hG.adj hu2.1
        have h3 : onlyOf (fun u => adjOf E k u && !s u) = (u : Int) := hu3
        simp only [hu3]
        unfold stepC
        simp only [Int.toNat_natCast, Bool.and_eq_true, decide_eq_true_eq]
        exact ⟨⟨⟨⟨by omega, by omega⟩, by omega, by omega⟩, h.1⟩, h3⟩
    · exact ih p hp
theorem canTo_nil {adj : Nat → Nat → Bool} {s : Nat → Bool} : ∀ k, canTo adj s k = [] → ∀ p, p < k → s p = true → sz (dryN adj s p) ≠ 1
  | 0, _, p, hp, _ => by omega
  | k + 1, h, p, hp, hs => by
    unfold canTo at h
    split at h
    · simp at h
    · rename_i hn
      by_cases e : p = k
      · subst e; exact fun h1 => hn ⟨hs, h1⟩
      · exact canTo_nil k h p (by omega) hs
theorem chrT_app {n : Nat} {adj : Nat → Nat → Bool} : ∀ (a b : Pts) (s : Nat → Bool), chrT n adj s (a ++ b) = (chrT n adj s a).bind fun t => chrT n adj t b
  | [], b, s => rfl
  | p :: a, b, s => by
    show (if stepC n adj s p = true then chrT n adj (adds s p.2.toNat) (a ++ b) else none) = (if stepC n adj s p = true then chrT n adj (adds s p.2.toNat) a else none).bind _
    split
    · exact chrT_app a b _
    · rfl
theorem chrT_snoc {n : Nat} {adj : Nat → Nat → Bool} {a : Pts} {s t : Nat → Bool} {p : Int × Int} (h : chrT n adj s a = some t) (hp : stepC n adj t p = true) : chrT n adj s (a ++ [p]) = some (adds t p.2.toNat) := by
  rw [chrT_app, h]
  show (if stepC n adj t p = true then some (adds t p.2.toNat) else none) = _
  rw [if_pos hp]
theorem chrT_pre {n : Nat} {adj : Nat → Nat → Bool} {c : Pts} {s : Nat → Bool} (h : (chrT n adj s c).isSome = true) (k : Nat) : (chrT n adj s (c.take k)).isSome = true := by
  have e : c.take k ++ c.drop k = c := List.take_append_drop k c
  rw [← e, chrT_app] at h
  cases hx : chrT n adj s (c.take k) with
  | none => rw [hx] at h; simp at h
  | some t => rfl
theorem stepC_dry {n : Nat} {adj : Nat → Nat → Bool} {s : Nat → Bool} {p : Int × Int} (h : stepC n adj s p = true) : ∃ a u : Nat, p = ((a : Int), (u : Int)) ∧ a < n ∧ u < n ∧ s a = true ∧ s u = false ∧ u < 12 ∧ onlyOf (fun j => adj a j && !s j) = (u : Int) := by
  unfold stepC at h
  simp only [Bool.and_eq_true, decide_eq_true_eq] at h
  obtain ⟨⟨⟨h1, h2⟩, h3⟩, h4⟩ := h
  obtain ⟨x, y⟩ := p
  simp only at h1 h2 h3 h4
  obtain ⟨a, rfl⟩ : ∃ a : Nat, x = a := ⟨x.toNat, by omega⟩
  obtain ⟨u, rfl⟩ : ∃ u : Nat, y = u := ⟨y.toNat, by omega⟩
  simp only [Int.toNat_natCast] at h3 h4
  obtain ⟨h5, h6, _⟩ := onlyOf_some h4
  rw [Bool.and_eq_true] at h6
  exact ⟨a, u, rfl, by omega, by omega, h3, by simpa using h6.2, h5, h4⟩
theorem bad_none {n : Nat} {adj : Nat → Nat → Bool} {a : Pts} {s t : Nat → Bool} {x : Int} (h : chrT n adj s a = some t) : chrT n adj s (a ++ [(x, x)]) = none := by
  rw [chrT_app, h]
  show (if stepC n adj t (x, x) = true then some (adds t x.toNat) else none) = none
  rw [if_neg]
  intro hs
  obtain ⟨a, u, he, _, _, h1, h2, _⟩ := stepC_dry hs
  injection he with e1 e2
  have : a = u := by omega
  subst this
  rw [h1] at h2; cases h2
theorem step_sub {n : Nat} (hn : n ≤ 12) {adj : Nat → Nat → Bool} {s c : Nat → Bool} {p : Int × Int} (hp : stepC n adj s p = true) (h : ∀ j, j < 12 → s j = true → c j = true) (hc : ∀ j, j < 12 → fround adj c j = true → c j = true) : ∀ j, j < 12 → adds s p.2.toNat j = true → c j = true := by
  obtain ⟨a, u, rfl, h1, h2, h3, h4, h5, h6⟩ := stepC_dry hp
  intro j hj hs
  simp only [Int.toNat_natCast] at hs
  unfold adds at hs
  split at hs
  · rename_i e
    subst e
    exact absorbs_force adj s c h hc j hj ((force_iff adj s j).2 (.inr ⟨a, by omega, h3, h6⟩))
  · exact h j hj hs
/-- What the law holds between two steps: how far it is, and where. -/
structure OrS (N : Nat) (E : Pts) (S : Nat → Bool) (k : Nat) (c : Pts) (t : Nat → Bool) : Prop where
  len : c.length = k
  chr : chrT N (adjOf E) S c = some t
  tin : InN N t
  up : ∀ j, j < 12 → S j = true → t j = true
  lo : ∀ j, j < 12 → t j = true → clo (fround (adjOf E)) S j = true
  sz : sz t = sz S + k
theorem OrS.start {N : Nat} {E : Pts} {S : Nat → Bool} (hS : InN N S) : OrS N E S 0 [] S :=
  ⟨rfl, rfl, hS, fun _ _ h => h, fun j _ h => clo_up (infl_force _) S j h, rfl⟩
theorem OrS.next {N : Nat} {E : Pts} (hG : GOk N E) {S t : Nat → Bool} {k : Nat} {c : Pts} {p : Int × Int} (h : OrS N E S k c t) (hp : stepC N (adjOf E) t p = true) : OrS N E S (k + 1) (c ++ [p]) (adds t p.2.toNat) := by
  obtain ⟨a, u, he, h1, h2, h3, h4, h5, h6⟩ := stepC_dry hp
  refine ⟨by rw [List.length_append, h.len]; rfl, chrT_snoc h.chr hp, fun j e1 e2 => ?_, fun j hj hs => ?_, step_sub hG.n12 hp h.lo (fun j hj hr => by rw [clo_closed (infl_force _) S j hj] at hr; exact hr), ?_⟩
  · subst he
    simp only [Int.toNat_natCast]
    unfold adds
    rw [if_neg (by omega)]; exact h.tin j e1 e2
  · unfold adds; split
    · rfl
    · exact h.up j hj hs
  · subst he
    simp only [Int.toNat_natCast]
    rw [sz_adds h5 h4, h.sz]; omega
theorem OrS.done {N : Nat} {E : Pts} (hG : GOk N E) {S t : Nat → Bool} {k : Nat} {c : Pts} (h : OrS N E S k c t) (hc : ∀ j, j < 12 → fround (adjOf E) t j = true → t j = true) : Eqv t (clo (fround (adjOf E)) S) := fun j hj => by
  have h1 := h.lo j hj
  have h2 := clo_least (absorbs_force (adjOf E)) (s := S) (c := t) h.up hc j hj
  cases e : t j with
  | true => exact (h1 e).symm
  | false =>
    cases e2 : clo (fround (adjOf E)) S j with
    | false => rfl
    | true => rw [h2 e2] at e; cases e
theorem OrS.stuck {N : Nat} {E : Pts} (hG : GOk N E) {S t : Nat → Bool} {k : Nat} {c : Pts} (h : OrS N E S k c t) (hn : canTo (adjOf E) t N = []) : Eqv t (clo (fround (adjOf E)) S) := by
  refine h.done hG fun j hj hr => ?_
  rcases (force_iff _ _ _).1 hr with h1 | ⟨v, h1, h2, h3⟩
  · exact h1
  · have hvN : v < N := by
      rcases Nat.lt_or_ge v N with h' | h'
      · exact h'
      · rw [h.tin v h' h1] at h2; cases h2
    exact absurd ((only_sz hj).1 h3).1 (canTo_nil N hn v hvN h2)
theorem OrS.full {N : Nat} {E : Pts} (hG : GOk N E) {S t : Nat → Bool} {c : Pts} (h : OrS N E S N c t) : Eqv t (clo (fround (adjOf E)) S) := by
  have hN := hG.n12
  have hall : Eqv t (allS N) := by
    refine sub_eqv (fun j hj ht => ?_) ?_
    · unfold allS
      rcases Nat.lt_or_ge j N with h' | h'
      · exact decide_eq_true h'
      · rw [h.tin j h' hj] at ht; cases ht
    · have h1 : Go.Proofs.Yteekigpdiklppaa.sz (allS N) = N := vsTo_all hN
      have h2 := h.sz
      omega
  refine h.done hG fun j hj hr => ?_
  have : fround (adjOf E) (fun j => decide (j < N)) j = true := by
    rw [← hr]
    exact ((infl_force (adjOf E)).cg _ _ (fun i hi => by rw [hall i hi]; rfl) j hj)
  have := force_in hG j hj this
  rw [hall j hj]; unfold allS; exact decide_eq_true this
end Go.Proofs.Yteekigpdiklppaa
