import Derived.Test.YtifbiamfandjnaaRefIntv
import Derived.Test.YtifbiamfandjnaaRefLine3
import Derived.Test.YtifbiamfandjnaaThereMath
set_option linter.unusedSimpArgs false
set_option linter.unusedVariables false
namespace Go.Proofs.Ytifbiamfandjnaa
open Go Go.Proofs Go.RowKit
theorem line_upto {N n : Nat} {zs : List Int} : ∀ T, T ≤ N → (worstOf (upTo N n (mid zs N) (T + 1))).1.1 ≤ T ∧ (worstOf (upTo N n (mid zs N) (T + 1))).2 = ((devOf N n zs (worstOf (upTo N n (mid zs N) (T + 1))).1.1).1 : Int) ∧
    (∀ t, t ≤ T → ((devOf N n zs t).1 : Int) ≤ (worstOf (upTo N n (mid zs N) (T + 1))).2) ∧ ∀ t, t < (worstOf (upTo N n (mid zs N) (T + 1))).1.1 → ((devOf N n zs t).1 : Int) < (worstOf (upTo N n (mid zs N) (T + 1))).2
  | 0, _ => by
    have h := worst_step (N := N) (n := n) (t := 0) (zs := zs) (by omega)
    rw [if_pos (by show (-1 : Int) < _; omega)] at h
    obtain ⟨h1, h2, h3⟩ := key_cases _ h
    rw [h1, h3]
    exact ⟨by omega, rfl, fun t ht => by rw [show t = 0 by omega]; exact Int.le_refl _, fun t ht => by omega⟩
  | T + 1, hT => by
    obtain ⟨a1, a2, a3, a4⟩ := line_upto (N := N) (n := n) (zs := zs) T (by omega)
    have h := worst_step (N := N) (n := n) (t := T + 1) (zs := zs) (by omega)
    by_cases hc : (worstOf (upTo N n (mid zs N) (T + 1))).2 < ((devOf N n zs (T + 1)).1 : Int)
    · rw [if_pos hc] at h
      obtain ⟨h1, h2, h3⟩ := key_cases _ h
      rw [h1, h3]
      refine ⟨by omega, rfl, fun t ht => ?_, fun t ht => ?_⟩
      · by_cases e : t = T + 1
        · rw [e]; exact Int.le_refl _
        · have := a3 t (by omega); omega
      · have := a3 t (by omega); omega
    · rw [if_neg hc] at h
      obtain ⟨h1, h2, h3⟩ := key_cases (worstOf (upTo N n (mid zs N) (T + 1 + 1))) (t := (worstOf (upTo N n (mid zs N) (T + 1))).1.1) (l := (worstOf (upTo N n (mid zs N) (T + 1))).1.2.1) (m := (worstOf (upTo N n (mid zs N) (T + 1))).2) h
      rw [h1, h3]
      refine ⟨by omega, a2, fun t ht => ?_, a4⟩
      by_cases e : t = T + 1
      · rw [e]; omega
      · exact a3 t (by omega)
theorem line_facts (N : Nat) (zs : List Int) : (lineW N zs).1.1 ≤ N ∧ (lineW N zs).2 = ((devOf N zs.length zs (lineW N zs).1.1).1 : Int) ∧ (∀ t, t ≤ N → ((devOf N zs.length zs t).1 : Int) ≤ (lineW N zs).2) ∧ ∀ t, t < (lineW N zs).1.1 → ((devOf N zs.length zs t).1 : Int) < (lineW N zs).2 :=
  line_upto (N := N) (n := zs.length) (zs := zs) N (Nat.le_refl _)
theorem exc_box {N n c t : Nat} (hc : c ≤ n) (ht : t ≤ N) : (exc N n c t).natAbs ≤ n * N := by
  have h1 : c * N ≤ n * N := Nat.mul_le_mul_right _ hc
  have h2 : t * n ≤ N * n := Nat.mul_le_mul_right _ ht
  rw [Nat.mul_comm N n] at h2
  have e1 : ((c * N : Nat) : Int) = (c : Int) * N := Int.natCast_mul _ _
  have e2 : ((t * n : Nat) : Int) = (t : Int) * n := Int.natCast_mul _ _
  unfold exc
  omega
theorem dev_box (N : Nat) (zs : List Int) {t : Nat} (ht : t ≤ N) : (devOf N zs.length zs t).1 ≤ zs.length * N := by
  unfold devOf
  split
  · exact exc_box (belowC_le _ _) ht
  · exact exc_box (belowC_le _ _) ht
theorem exc_dev (N : Nat) (zs : List Int) (t : Nat) : (excT N zs t).natAbs ≤ (devOf N zs.length zs t).1 := by
  unfold devOf excT
  split
  · exact Nat.le_refl _
  · rename_i h
    simp only
    rcases Nat.lt_or_ge (exc N zs.length (belowC zs t) t).natAbs (exc N zs.length (belowC zs (t + 1)) t).natAbs with h' | h'
    · exact Nat.le_of_lt h'
    · exact absurd (Or.inr h') h
theorem exc_zero {N : Nat} {zs : List Int} (hok : okLine (N : Int) zs = true) : excT N zs 0 = 0 := by
  unfold okLine at hok
  rw [Bool.and_eq_true] at hok
  unfold excT exc
  rw [(zero_none hok.2).2]; simp
/-- Fractions of one denominator are ordered as their numerators. -/
theorem red_lt {a b P : Nat} (hP : 0 < P) : ¬ a < b → ¬ (redN (a : Int) (P : Int) * redD (b : Int) (P : Int) < redN (b : Int) (P : Int) * redD (a : Int) (P : Int)) := by
  intro h hc
  obtain ⟨x, y, g, e1, e2, e3, e4, e5, e6, _⟩ := lowest_nat a hP
  obtain ⟨x', y', g', e1', e2', e3', e4', e5', e6', _⟩ := lowest_nat b hP
  rw [e1, e2, e1', e2'] at hc
  have hc2 : x * y' < x' * y := by
    have q1 : ((x * y' : Nat) : Int) = (x : Int) * y' := Int.natCast_mul _ _
    have q2 : ((x' * y : Nat) : Int) = (x' : Int) * y := Int.natCast_mul _ _
    omega
  have k1 : a * P = (g * g') * (x * y') := by
    rw [show a * P = (g * x) * (g' * y') by rw [← e3, ← e4'], Nat.mul_mul_mul_comm]
  have k2 : b * P = (g * g') * (x' * y) := by
    rw [show b * P = (g' * x') * (g * y) by rw [← e3', ← e4], Nat.mul_mul_mul_comm, Nat.mul_comm g' g]
  have k3 : (g * g') * (x * y') < (g * g') * (x' * y) := Nat.mul_lt_mul_of_pos_left hc2 (Nat.mul_pos e5 e5')
  rw [← k1, ← k2] at k3
  exact h (Nat.lt_of_mul_lt_mul_right k3)
theorem red_twice {a b P : Nat} (hP : 0 < P) (h : b ≤ 2 * a) : ¬ ((2 * redN (a : Int) (P : Int)) * redD (b : Int) (P : Int) < redN (b : Int) (P : Int) * redD (a : Int) (P : Int)) := by
  intro hc
  obtain ⟨x, y, g, e1, e2, e3, e4, e5, e6, _⟩ := lowest_nat a hP
  obtain ⟨x', y', g', e1', e2', e3', e4', e5', e6', _⟩ := lowest_nat b hP
  rw [e1, e2, e1', e2'] at hc
  have hc2 : 2 * (x * y') < x' * y := by
    have q1 : ((x * y' : Nat) : Int) = (x : Int) * y' := Int.natCast_mul _ _
    have q2 : ((x' * y : Nat) : Int) = (x' : Int) * y := Int.natCast_mul _ _
    rw [Int.mul_assoc] at hc
    omega
  have k1 : a * P = (g * g') * (x * y') := by
    rw [show a * P = (g * x) * (g' * y') by rw [← e3, ← e4'], Nat.mul_mul_mul_comm]
  have k2 : b * P = (g * g') * (x' * y) := by
    rw [show b * P = (g' * x') * (g * y) by rw [← e3', ← e4], Nat.mul_mul_mul_comm, Nat.mul_comm g' g]
  have k3 : (g * g') * (2 * (x * y')) < (g * g') * (x' * y) := Nat.mul_lt_mul_of_pos_left hc2 (Nat.mul_pos e5 e5')
  rw [Nat.mul_left_comm, ← k1, ← k2] at k3
  have k4 : b * P ≤ 2 * a * P := Nat.mul_le_mul_right _ h
  rw [Nat.mul_assoc] at k4
  omega
theorem red_one {a P : Nat} (hP : 0 < P) (h : a ≤ P) : ¬ (1 * redD (a : Int) (P : Int) < redN (a : Int) (P : Int) * 1) := by
  obtain ⟨x, y, g, e1, e2, e3, e4, e5, e6, _⟩ := lowest_nat a hP
  rw [e1, e2]
  have : g * x ≤ g * y := by rw [← e3, ← e4]; exact h
  have := Nat.le_of_mul_le_mul_left this e5
  omega
theorem red_inj {a b P : Nat} (hP : 0 < P) (h1 : redN (a : Int) (P : Int) = redN (b : Int) (P : Int)) (h2 : redD (a : Int) (P : Int) = redD (b : Int) (P : Int)) : a = b := by
  obtain ⟨x, y, g, e1, e2, e3, e4, e5, e6, _⟩ := lowest_nat a hP
  obtain ⟨x', y', g', e1', e2', e3', e4', e5', e6', _⟩ := lowest_nat b hP
  rw [e1, e1'] at h1
  rw [e2, e2'] at h2
  have hx : x = x' := by omega
  have hy : y = y' := by omega
  subst hx; subst hy
  have : g = g' := Nat.eq_of_mul_eq_mul_right e6 (e4.symm.trans e4')
  rw [e3, e3', this]
theorem pair_le_two {N : Nat} {zs : List Int} {D s t : Nat} (h : pairSpec (excT N zs) N D s t) : (D : Int) ≤ 2 * (lineW N zs).2 := by
  obtain ⟨h1, h2, h3, _⟩ := h
  have a1 := exc_dev N zs t
  have a2 := exc_dev N zs s
  obtain ⟨_, _, b, _⟩ := line_facts N zs
  have b1 := b t h2
  have b2 := b s (by omega)
  omega
theorem pair_ge {N : Nat} {zs : List Int} (hok : okLine (N : Int) zs = true) {D s t k : Nat} (h : pairSpec (excT N zs) N D s t) (hk : k ≤ N) : (excT N zs k).natAbs ≤ D := by
  obtain ⟨h1, h2, h3, h4, _⟩ := h
  have z := exc_zero hok
  by_cases h0 : k = 0
  · rw [h0, z]; simp
  · have := h4 0 k (by omega) hk
    rw [z] at this; simpa using this
end Go.Proofs.Ytifbiamfandjnaa
