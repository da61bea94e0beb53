/- Lowest terms: what they are, and when two are the same. -/
import Derived.Test.YtbocmbhinjkjlaaSums
set_option linter.unusedSimpArgs false
set_option linter.unusedVariables false
namespace Go.Proofs.Ytbocmbhinjkjlaa
open Go Go.Proofs Go.RowKit
theorem red_unique {a b a' b' : Nat} (h1 : Nat.Coprime a b) (h2 : Nat.Coprime a' b') (hb : 0 < b) (e : a * b' = a' * b) : a = a' ∧ b = b' := by
  have d1 : b ∣ b' := by
    have : b ∣ a * b' := ⟨a', by rw [e, Nat.mul_comm]⟩
    exact Nat.Coprime.dvd_of_dvd_mul_left (Nat.Coprime.symm h1) this
  have d2 : b' ∣ b := by
    have : b' ∣ a' * b := ⟨a, by rw [← e, Nat.mul_comm]⟩
    exact Nat.Coprime.dvd_of_dvd_mul_left (Nat.Coprime.symm h2) this
  have hbb : b = b' := Nat.dvd_antisymm d1 d2
  subst hbb
  exact ⟨Nat.eq_of_mul_eq_mul_right hb e, rfl⟩
theorem red_parts (a : Int) {b : Int} (hb : 1 ≤ b) : ∃ g : Int, 1 ≤ g ∧ redN a b * g = a ∧ redD a b * g = b ∧ 1 ≤ redD a b ∧ Int.gcd (redN a b) (redD a b) = 1 := by
  have hgp : 0 < Int.gcd a b := Int.gcd_pos_of_ne_zero_right _ (by omega)
  have d1 : ((Int.gcd a b : Nat) : Int) ∣ a := Int.gcd_dvd_left ..
  have d2 : ((Int.gcd a b : Nat) : Int) ∣ b := Int.gcd_dvd_right ..
  have e1 : redN a b * ((Int.gcd a b : Nat) : Int) = a := Int.tdiv_mul_cancel d1
  have e2 : redD a b * ((Int.gcd a b : Nat) : Int) = b := Int.ediv_mul_cancel d2
  have h1 : 1 ≤ redD a b := by
    rcases Int.lt_or_le (redD a b) 1 with h | h
    · have : redD a b * ((Int.gcd a b : Nat) : Int) ≤ 0 := Int.mul_nonpos_of_nonpos_of_nonneg (by omega) (by omega)
      omega
    · exact h
  refine ⟨_, by omega, e1, e2, h1, ?_⟩
  have hg : Int.gcd a b = Int.gcd (redN a b) (redD a b) * Int.gcd a b := by
    have : Int.gcd (redN a b * ((Int.gcd a b : Nat) : Int)) (redD a b * ((Int.gcd a b : Nat) : Int)) = Int.gcd (redN a b) (redD a b) * (((Int.gcd a b : Nat) : Int)).natAbs := Int.gcd_mul_right ..
    rw [e1, e2] at this
    simpa using this
  have : 1 * Int.gcd a b = Int.gcd (redN a b) (redD a b) * Int.gcd a b := by omega
  exact (Nat.eq_of_mul_eq_mul_right hgp this).symm
theorem red_same {a b c d : Int} (hb : 1 ≤ b) (hd : 1 ≤ d) (e : a * d = c * b) : redN a b = redN c d ∧ redD a b = redD c d := by
  obtain ⟨g, g1, p1, p2, p3, p4⟩ := red_parts a hb
  obtain ⟨k, k1, q1, q2, q3, q4⟩ := red_parts c hd
  generalize redN a b = x at *
  generalize redD a b = y at *
  generalize redN c d = x' at *
  generalize redD c d = y' at *
  have e2 : x * y' = x' * y := by
    have h0 : (x * y') * (g * k) = (x' * y) * (g * k) := by
      have e3 : (x * g) * (y' * k) = (x' * k) * (y * g) := by rw [p1, q2, q1, p2]; exact e
      have l : (x * y') * (g * k) = (x * g) * (y' * k) := by ac_rfl
      have r : (x' * y) * (g * k) = (x' * k) * (y * g) := by ac_rfl
      rw [l, r, e3]
    exact Int.eq_of_mul_eq_mul_right (Int.ne_of_gt (Int.mul_pos (by omega) (by omega))) h0
  have hn := congrArg Int.natAbs e2
  rw [Int.natAbs_mul, Int.natAbs_mul] at hn
  obtain ⟨u1, u2⟩ := red_unique (a := x.natAbs) (b := y.natAbs) (a' := x'.natAbs) (b' := y'.natAbs) p4 q4 (by omega) hn
  have hy : y = y' := by omega
  subst hy
  exact ⟨Int.eq_of_mul_eq_mul_right (by omega) e2, rfl⟩
theorem red_self {a b : Int} (hb : 1 ≤ b) (h : Int.gcd a b = 1) : redN a b = a ∧ redD a b = b := by
  unfold redN redD
  rw [h]
  exact ⟨by simp, by simp⟩
theorem red_one (a : Int) : redN a 1 = a ∧ redD a 1 = 1 := red_self (by omega) (by simp)
theorem red_le (a : Int) {b : Int} (hb : 1 ≤ b) : redD a b ≤ b ∧ -(a.natAbs : Int) ≤ redN a b ∧ redN a b ≤ (a.natAbs : Int) := by
  obtain ⟨g, g1, p1, p2, p3, p4⟩ := red_parts a hb
  have h1 : redD a b * 1 ≤ redD a b * g := Int.mul_le_mul_of_nonneg_left g1 (by omega)
  have h2 : (redN a b).natAbs * 1 ≤ (redN a b).natAbs * g.natAbs := Nat.mul_le_mul_left _ (by omega)
  rw [← Int.natAbs_mul, p1] at h2
  exact ⟨by omega, by omega, by omega⟩
theorem red_eq_iff {a b c d : Int} (hb : 1 ≤ b) (hd : 1 ≤ d) : (redN a b = redN c d ∧ redD a b = redD c d) ↔ a * d = c * b := by
  refine ⟨fun ⟨h1, h2⟩ => ?_, red_same hb hd⟩
  obtain ⟨g, g1, p1, p2, p3, p4⟩ := red_parts a hb
  obtain ⟨k, k1, q1, q2, q3, q4⟩ := red_parts c hd
  rw [h1] at p1
  rw [h2] at p2
  clear h1 h2 p3 p4 q3 q4
  generalize redN c d = x at *
  generalize redD c d = y at *
  subst p1 p2 q1 q2
  ac_rfl
end Go.Proofs.Ytbocmbhinjkjlaa
