import Derived.Test.YtifbiamfandjnaaOptMath
set_option linter.unusedSimpArgs false
set_option linter.unusedVariables false
namespace Go.Proofs.Ytifbiamfandjnaa
open Go Go.Proofs Go.RowKit
/-- D is the greatest |difference| of g at two places up to N, and (s, t) the first two places that have it. -/
def pairSpec (g : Nat → Int) (N D s t : Nat) : Prop :=
  s < t ∧ t ≤ N ∧ (g t - g s).natAbs = D ∧ (∀ a b, a < b → b ≤ N → (g b - g a).natAbs ≤ D) ∧ (∀ a b, a < b → b ≤ N → (a < s ∨ (a = s ∧ b < t)) → (g b - g a).natAbs < D)
theorem pair_unique {g : Nat → Int} {N D s t D' s' t' : Nat} (h : pairSpec g N D s t) (h' : pairSpec g N D' s' t') : D = D' ∧ s = s' ∧ t = t' := by
  obtain ⟨h1, h2, h3, h4, h5⟩ := h
  obtain ⟨k1, k2, k3, k4, k5⟩ := h'
  have e : D = D' := by
    have a1 := h4 s' t' k1 k2
    have a2 := k4 s t h1 h2
    omega
  subst e
  have n1 : ¬ (s < s' ∨ (s = s' ∧ t < t')) := fun h => by have := k5 s t h1 h2 h; omega
  have n2 : ¬ (s' < s ∨ (s' = s ∧ t' < t)) := fun h => by have := h5 s' t' k1 k2 h; omega
  omega
theorem pair_of {g : Nat → Int} {N i j : Nat} (hi : i ≤ N) (hj : j ≤ N) (hlo : ∀ k, k ≤ N → g i ≤ g k) (hhi : ∀ k, k ≤ N → g k ≤ g j) (fi : ∀ k, k < i → g i < g k) (fj : ∀ k, k < j → g k < g j) (hne : g i < g j) :
    pairSpec g N (g j - g i).natAbs (min i j) (max i j) := by
  have hij : i ≠ j := fun h => by subst h; omega
  rcases Nat.lt_or_ge i j with h | h
  · rw [Nat.min_eq_left (by omega), Nat.max_eq_right (by omega)]
    refine ⟨h, hj, rfl, fun a b hab hb => ?_, fun a b hab hb hc => ?_⟩
    · have := hlo a (by omega); have := hlo b hb; have := hhi a (by omega); have := hhi b hb; omega
    · have l1 := hlo a (by omega); have l2 := hlo b hb; have l3 := hhi a (by omega); have l4 := hhi b hb
      rcases hc with hc | ⟨rfl, hc⟩
      · have := fi a hc; have := fj a (by omega); omega
      · have := fj b hc; omega
  · have h' : j < i := by omega
    rw [Nat.min_eq_right (by omega), Nat.max_eq_left (by omega)]
    refine ⟨h', hi, by omega, fun a b hab hb => ?_, fun a b hab hb hc => ?_⟩
    · have := hlo a (by omega); have := hlo b hb; have := hhi a (by omega); have := hhi b hb; omega
    · have l1 := hlo a (by omega); have l2 := hlo b hb; have l3 := hhi a (by omega); have l4 := hhi b hb
      rcases hc with hc | ⟨rfl, hc⟩
      · have := fi a (by omega); have := fj a hc; omega
      · have := fi b hc; omega
theorem pair_flat {g : Nat → Int} {N : Nat} (hN : 1 ≤ N) (h : ∀ k, k ≤ N → g k = g 0) : pairSpec g N 0 0 1 := by
  refine ⟨by omega, hN, ?_, fun a b hab hb => ?_, fun a b hab hb hc => ?_⟩
  · have := h 1 hN; omega
  · have := h a (by omega); have := h b hb; omega
  · omega
/-- What the walk over all pairs has found ahead of (s, t): best (less than 0: nothing yet) and the place. -/
def pairSeen (g : Nat → Int) (N s t : Nat) (best : Int) (a b : Nat) : Prop :=
  (best = -1 ∧ ∀ x y, x < y → y ≤ N → ¬ (x < s ∨ (x = s ∧ y < t))) ∨
  (a < b ∧ b ≤ N ∧ (a < s ∨ (a = s ∧ b < t)) ∧ best = ((g b - g a).natAbs : Int) ∧ (∀ x y, x < y → y ≤ N → (x < s ∨ (x = s ∧ y < t)) → ((g y - g x).natAbs : Int) ≤ best) ∧
    (∀ x y, x < y → y ≤ N → (x < a ∨ (x = a ∧ y < b)) → ((g y - g x).natAbs : Int) < best))
theorem pair_step {g : Nat → Int} {N s t a b : Nat} {best : Int} (h : pairSeen g N s t best a b) (hst : s < t) (ht : t ≤ N) :
    pairSeen g N s (t + 1) (if best < ((g t - g s).natAbs : Int) then ((g t - g s).natAbs : Int) else best) (if best < ((g t - g s).natAbs : Int) then s else a) (if best < ((g t - g s).natAbs : Int) then t else b) := by
  by_cases hb : best < ((g t - g s).natAbs : Int)
  · rw [if_pos hb, if_pos hb, if_pos hb]
    refine .inr ⟨hst, ht, .inr ⟨rfl, by omega⟩, rfl, fun x y hxy hy hc => ?_, fun x y hxy hy hc => ?_⟩
    · rcases h with ⟨h1, h2⟩ | ⟨h1, h2, h3, h4, h5, h6⟩
      · have := h2 x y hxy hy
        have e : x = s ∧ y = t := by omega
        rw [e.1, e.2]; omega
      · by_cases e : x = s ∧ y = t
        · rw [e.1, e.2]; omega
        · have := h5 x y hxy hy (by omega); omega
    · rcases h with ⟨h1, h2⟩ | ⟨h1, h2, h3, h4, h5, h6⟩
      · exact absurd hc (h2 x y hxy hy)
      · have := h5 x y hxy hy hc; omega
  · rw [if_neg hb, if_neg hb, if_neg hb]
    rcases h with ⟨h1, h2⟩ | ⟨h1, h2, h3, h4, h5, h6⟩
    · omega
    · refine .inr ⟨h1, h2, by omega, h4, fun x y hxy hy hc => ?_, h6⟩
      by_cases e : x = s ∧ y = t
      · rw [e.1, e.2]; omega
      · exact h5 x y hxy hy (by omega)
theorem pair_row {g : Nat → Int} {N s a b : Nat} {best : Int} (h : pairSeen g N s (N + 1) best a b) : pairSeen g N (s + 1) (s + 2) best a b := by
  rcases h with ⟨h1, h2⟩ | ⟨h1, h2, h3, h4, h5, h6⟩
  · exact .inl ⟨h1, fun x y hxy hy hc => h2 x y hxy hy (by omega)⟩
  · exact .inr ⟨h1, h2, by omega, h4, fun x y hxy hy hc => h5 x y hxy hy (by omega), h6⟩
theorem pair_done {g : Nat → Int} {N a b : Nat} {best : Int} (hN : 1 ≤ N) (h : pairSeen g N N (N + 1) best a b) : pairSpec g N best.toNat a b := by
  rcases h with ⟨h1, h2⟩ | ⟨h1, h2, h3, h4, h5, h6⟩
  · exact absurd (show (0 : Nat) < N ∨ ((0 : Nat) = N ∧ 1 < N + 1) by omega) (h2 0 1 (by omega) hN)
  · refine ⟨h1, h2, by omega, fun x y hxy hy => ?_, fun x y hxy hy hc => ?_⟩
    · have := h5 x y hxy hy (by omega); omega
    · have := h6 x y hxy hy hc; omega
theorem pair_start {g : Nat → Int} {N : Nat} : pairSeen g N 0 1 (-1) 0 0 := .inl ⟨rfl, fun x y hxy hy hc => by omega⟩
end Go.Proofs.Ytifbiamfandjnaa
