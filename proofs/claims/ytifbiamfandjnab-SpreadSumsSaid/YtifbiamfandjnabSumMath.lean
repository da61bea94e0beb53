/-
  Sums of fractions: what Add answers at the fractions of the law, in one piece.
-/
import Derived.Test.YtifbiamfandjnabAddFn
set_option linter.unusedSimpArgs false
set_option linter.unusedVariables false
namespace Go.Proofs.Ytifbiamfandjnab.Sums
open Go Go.Proofs Go.RowKit
theorem red_parts (e : Int) {P : Int} (hP : 0 < P) : e * redD e P = redN e P * P ∧ 0 < redD e P ∧ redD e P ≤ P ∧ -(e.natAbs : Int) ≤ redN e P ∧ redN e P ≤ (e.natAbs : Int) := by
  have hgp : 0 < Int.gcd e P := Int.gcd_pos_of_ne_zero_right _ (by omega)
  unfold redN redD
  have d1 : ((Int.gcd e P : Nat) : Int) ∣ e := Int.gcd_dvd_left _ _
  have d2 : ((Int.gcd e P : Nat) : Int) ∣ P := Int.gcd_dvd_right _ _
  generalize Int.gcd e P = g at *
  obtain ⟨a, ha⟩ := d1
  obtain ⟨b, hb⟩ := d2
  have q1 : e.tdiv (g : Int) = a := by rw [ha]; exact Int.mul_tdiv_cancel_left _ (by omega)
  have q2 : P / (g : Int) = b := by rw [hb]; exact Int.mul_ediv_cancel_left _ (by omega)
  have hb1 : 0 < b := by
    rcases Int.lt_or_le 0 b with h | h
    · exact h
    · have := Int.mul_nonneg (show (0 : Int) ≤ g by omega) (show (0 : Int) ≤ -b by omega)
      rw [Int.mul_neg] at this; omega
  rw [q1, q2]
  refine ⟨?_, hb1, ?_, ?_, ?_⟩
  · rw [ha, hb, Int.mul_assoc, Int.mul_left_comm, Int.mul_comm]
  · have := Int.mul_le_mul_of_nonneg_right (show (1 : Int) ≤ g by omega) (show (0 : Int) ≤ b by omega)
    omega
  · have : a.natAbs ≤ e.natAbs := by rw [ha, Int.natAbs_mul]; exact Nat.le_mul_of_pos_left _ (by simpa using hgp)
    omega
  · have : a.natAbs ≤ e.natAbs := by rw [ha, Int.natAbs_mul]; exact Nat.le_mul_of_pos_left _ (by simpa using hgp)
    omega
theorem red_gcd (e : Int) {P : Int} (hP : 0 < P) : Int.gcd (redN e P) (redD e P) = 1 := by
  have hgp : 0 < Int.gcd e P := Int.gcd_pos_of_ne_zero_right _ (by omega)
  have h := Nat.coprime_div_gcd_div_gcd (m := e.natAbs) (n := P.natAbs) hgp
  have e1 : (redN e P).natAbs = e.natAbs / Nat.gcd e.natAbs P.natAbs := by
    unfold redN; rw [Int.natAbs_tdiv]; rfl
  have e2 : (redD e P).natAbs = P.natAbs / Nat.gcd e.natAbs P.natAbs := by
    unfold redD
    obtain ⟨p, rfl⟩ : ∃ p : Nat, P = (p : Int) := ⟨P.toNat, by omega⟩
    rfl
  unfold Int.gcd
  rw [e1, e2]; exact h
theorem coprime_eq {a b a' b' : Int} (hb : 0 < b) (hb' : 0 < b') (h1 : Int.gcd a b = 1) (h2 : Int.gcd a' b' = 1) (e : a * b' = a' * b) : a = a' ∧ b = b' := by
  have n1 : Nat.Coprime a.natAbs b.natAbs := h1
  have n2 : Nat.Coprime a'.natAbs b'.natAbs := h2
  have en : a.natAbs * b'.natAbs = a'.natAbs * b.natAbs := by rw [← Int.natAbs_mul, ← Int.natAbs_mul, e]
  have d1 : b.natAbs ∣ b'.natAbs := n1.symm.dvd_of_dvd_mul_left ⟨a'.natAbs, by rw [en, Nat.mul_comm]⟩
  have d2 : b'.natAbs ∣ b.natAbs := n2.symm.dvd_of_dvd_mul_left ⟨a.natAbs, by rw [← en, Nat.mul_comm]⟩
  have hbb : b = b' := by have := Nat.dvd_antisymm d1 d2; omega
  subst hbb
  exact ⟨Int.eq_of_mul_eq_mul_right (by omega) e, rfl⟩
theorem red_eq {n d n' d' : Int} (hd : 0 < d) (hd' : 0 < d') (e : n * d' = n' * d) : redN n d = redN n' d' ∧ redD n d = redD n' d' := by
  obtain ⟨a1, a2, _⟩ := red_parts n hd
  obtain ⟨b1, b2, _⟩ := red_parts n' hd'
  refine coprime_eq a2 b2 (red_gcd n hd) (red_gcd n' hd') ?_
  generalize redN n d = x at *
  generalize redD n d = q at *
  generalize redN n' d' = x' at *
  generalize redD n' d' = q' at *
  have h : (x * q') * (d * d') = (x' * q) * (d * d') := by
    calc (x * q') * (d * d') = (x * d) * (q' * d') := by ac_rfl
      _ = (n * q) * (q' * d') := by rw [a1]
      _ = (n * d') * (q * q') := by ac_rfl
      _ = (n' * d) * (q * q') := by rw [e]
      _ = (n' * q') * (q * d) := by ac_rfl
      _ = (x' * d') * (q * d) := by rw [b1]
      _ = (x' * q) * (d * d') := by ac_rfl
  have := Int.mul_pos hd hd'
  exact Int.eq_of_mul_eq_mul_right (by omega) h
/-- A fraction that is reduced, of a size. -/
def Fr (B D a b : Int) : Prop := 1 ≤ b ∧ b ≤ D ∧ -B ≤ a ∧ a ≤ B ∧ Int.gcd a b = 1
theorem fr_red {B D n d : Int} (hd : 1 ≤ d) (hD : d ≤ D) (h1 : -B ≤ n) (h2 : n ≤ B) : Fr B D (redN n d) (redD n d) := by
  obtain ⟨_, a2, a3, a4, a5⟩ := red_parts n (P := d) (by omega)
  exact ⟨by omega, by omega, by omega, by omega, red_gcd n (by omega)⟩
theorem fr_term {B D a b : Int} (h : Fr B D a b) (hB : B ≤ 1000000000) (hD : D ≤ 1000000000) : termB a b = true ∧ In64 a ∧ In64 b := by
  obtain ⟨h1, h2, h3, h4, h5⟩ := h
  refine ⟨?_, by unfold In64; omega, by unfold In64; omega⟩
  unfold termB validB
  rw [Bool.and_eq_true, decide_eq_true_iff, decide_eq_true_iff]
  exact ⟨⟨h1, h5⟩, by omega, by omega, by omega⟩
theorem fr_neg {B D a b : Int} (h : Fr B D a b) : Fr B D (-a) b := by
  obtain ⟨h1, h2, h3, h4, h5⟩ := h
  exact ⟨h1, h2, by omega, by omega, by rw [Int.neg_gcd]; exact h5⟩
theorem mul_le {x y X Y : Int} (hY : 0 ≤ y) (h1 : -X ≤ x) (h2 : x ≤ X) (h4 : y ≤ Y) (hX : 0 ≤ X) : -(X * Y) ≤ x * y ∧ x * y ≤ X * Y := by
  have a1 := Int.mul_le_mul_of_nonneg_right h2 hY
  have a2 := Int.mul_le_mul_of_nonneg_right h1 hY
  have a3 := Int.mul_le_mul_of_nonneg_left h4 hX
  rw [Int.neg_mul] at a2
  omega
theorem fr_sum {B D B' D' a b c d : Int} (h : Fr B D a b) (h' : Fr B' D' c d) : 1 ≤ sumD b d ∧ sumD b d ≤ D * D' ∧ -(B * D' + B' * D) ≤ sumN a b c d ∧ sumN a b c d ≤ B * D' + B' * D := by
  obtain ⟨h1, h2, h3, h4, h5⟩ := h
  obtain ⟨k1, k2, k3, k4, k5⟩ := h'
  have m1 := mul_le (show 0 ≤ d by omega) h3 h4 k2 (by omega)
  have m2 := mul_le (show 0 ≤ b by omega) k3 k4 h2 (by omega)
  have m3 := Int.mul_le_mul h2 k2 (by omega) (by omega)
  have m4 := Int.mul_pos (show 0 < b by omega) (show 0 < d by omega)
  unfold sumN sumD
  omega
theorem assoc {a b c d e f n1 d1 n2 d2 : Int} (hb : 0 < b) (hd : 0 < d) (hf : 0 < f) (p1 : 0 < d1) (p2 : 0 < d2)
    (e1 : sumN a b c d * d1 = n1 * sumD b d) (e2 : sumN c d e f * d2 = n2 * sumD d f) :
    redN (sumN n1 d1 e f) (sumD d1 f) = redN (sumN a b n2 d2) (sumD b d2) ∧ redD (sumN n1 d1 e f) (sumD d1 f) = redD (sumN a b n2 d2) (sumD b d2) := by
  unfold sumN sumD at *
  refine red_eq (Int.mul_pos p1 hf) (Int.mul_pos hb p2) ?_
  have h : ((n1 * f + e * d1) * (b * d2)) * d = ((a * d2 + n2 * b) * (d1 * f)) * d := by
    have l : ((n1 * f + e * d1) * (b * d2)) * d = (n1 * (b * d)) * (f * d2) + e * d1 * b * d2 * d := by rw [Int.add_mul, Int.add_mul]; congr 1 <;> ac_rfl
    have r : ((a * d2 + n2 * b) * (d1 * f)) * d = (n2 * (d * f)) * (b * d1) + a * d2 * d1 * f * d := by rw [Int.add_mul, Int.add_mul, Int.add_comm]; congr 1 <;> ac_rfl
    rw [l, r, ← e1, ← e2]
    have l2 : (a * d + c * b) * d1 * (f * d2) = a * d2 * d1 * f * d + c * b * d1 * f * d2 := by rw [Int.add_mul, Int.add_mul]; congr 1 <;> ac_rfl
    have r2 : (c * f + e * d) * d2 * (b * d1) = c * b * d1 * f * d2 + e * d1 * b * d2 * d := by rw [Int.add_mul, Int.add_mul]; congr 1 <;> ac_rfl
    rw [l2, r2]; omega
  exact Int.eq_of_mul_eq_mul_right (by omega) h
theorem sum_comm (a b c d : Int) : sumN a b c d = sumN c d a b ∧ sumD b d = sumD d b := by
  unfold sumN sumD; exact ⟨Int.add_comm _ _, Int.mul_comm _ _⟩
theorem red_self {a b : Int} (hb : 0 < b) (h : Int.gcd a b = 1) : redN a b = a ∧ redD a b = b := by
  unfold redN redD
  rw [h]
  exact ⟨by simp, by simp⟩
theorem sum_zero {a b : Int} (hb : 0 < b) (h : Int.gcd a b = 1) : redN (sumN a b 0 1) (sumD b 1) = a ∧ redD (sumN a b 0 1) (sumD b 1) = b := by
  have e1 : sumN a b 0 1 = a := by unfold sumN; omega
  have e2 : sumD b 1 = b := by unfold sumD; omega
  rw [e1, e2]; exact red_self hb h
theorem sum_neg {a b : Int} (hb : 0 < b) : redN (sumN a b (-a) b) (sumD b b) = 0 ∧ redD (sumN a b (-a) b) (sumD b b) = 1 := by
  have e1 : sumN a b (-a) b = 0 := by unfold sumN; rw [Int.neg_mul]; omega
  rw [e1]
  have := red_eq (n := 0) (n' := 0) (d := sumD b b) (d' := 1) (by unfold sumD; exact Int.mul_pos hb hb) (by omega) (by simp)
  rw [this.1, this.2]
  exact red_self (by omega) (by decide)
abbrev Adds (a b c d x y : Int) : Prop := ∀ w : World, Calls Try.prog 13 #[fracV a b, fracV c d] w fun e w' => e = .returned (.tuple #[fracV x y, .int .i64 0]) ∧ Below w.heap.size w w'
theorem sums_facts {a b c d e f : Int} (h0 : Fr 500 500 a b) (h1 : Fr 500 500 c d) (h2 : Fr 500 500 e f) :
    ∃ n1 d1 n2 d2 x y, Adds a b c d n1 d1 ∧ Adds c d a b n1 d1 ∧ Adds c d e f n2 d2 ∧ Adds n1 d1 e f x y ∧ Adds a b n2 d2 x y ∧ Adds a b 0 1 a b ∧ Adds a b (-a) b 0 1 := by
  have g1 := fr_sum h0 h1
  have g2 := fr_sum h1 h2
  have s1 : Fr 500000 250000 (redN (sumN a b c d) (sumD b d)) (redD (sumN a b c d) (sumD b d)) := fr_red g1.1 (by omega) (by omega) (by omega)
  have s2 : Fr 500000 250000 (redN (sumN c d e f) (sumD d f)) (redD (sumN c d e f) (sumD d f)) := fr_red g2.1 (by omega) (by omega) (by omega)
  obtain ⟨p1, p2, _⟩ := red_parts (sumN a b c d) (P := sumD b d) (by omega)
  obtain ⟨r1, r2, _⟩ := red_parts (sumN c d e f) (P := sumD d f) (by omega)
  have ha := assoc (show 0 < b by have := h0.1; omega) (show 0 < d by have := h1.1; omega) (show 0 < f by have := h2.1; omega) p2 r2 p1 r1
  obtain ⟨t0, u0, v0⟩ := fr_term h0 (by omega) (by omega)
  obtain ⟨t1, u1, v1⟩ := fr_term h1 (by omega) (by omega)
  obtain ⟨t2, u2, v2⟩ := fr_term h2 (by omega) (by omega)
  obtain ⟨t3, u3, v3⟩ := fr_term s1 (by omega) (by omega)
  obtain ⟨t4, u4, v4⟩ := fr_term s2 (by omega) (by omega)
  obtain ⟨t5, u5, v5⟩ := fr_term (fr_neg h0) (by omega) (by omega)
  obtain ⟨t6, u6, v6⟩ := fr_term (show Fr 1 1 0 1 from ⟨by omega, by omega, by omega, by omega, by decide⟩) (by omega) (by omega)
  have hb : 0 < b := by have := h0.1; omega
  refine ⟨_, _, _, _, _, _, fun w => add_any ⟨u0, v0⟩ ⟨u1, v1⟩ t0 t1 w, fun w => ?_, fun w => add_any ⟨u1, v1⟩ ⟨u2, v2⟩ t1 t2 w, fun w => add_any ⟨u3, v3⟩ ⟨u2, v2⟩ t3 t2 w, fun w => ?_, fun w => ?_, fun w => ?_⟩
  · have := add_any ⟨u1, v1⟩ ⟨u0, v0⟩ t1 t0 w
    rwa [(sum_comm c d a b).1, (sum_comm c d a b).2] at this
  · have := add_any ⟨u0, v0⟩ ⟨u4, v4⟩ t0 t4 w
    rwa [← ha.1, ← ha.2] at this
  · have := add_any ⟨u0, v0⟩ ⟨u6, v6⟩ t0 t6 w
    rwa [(sum_zero hb h0.2.2.2.2).1, (sum_zero hb h0.2.2.2.2).2] at this
  · have := add_any ⟨u0, v0⟩ ⟨u5, v5⟩ t0 t5 w
    rwa [(sum_neg hb).1, (sum_neg hb).2] at this
end Go.Proofs.Ytifbiamfandjnab.Sums
