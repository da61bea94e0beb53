/- Fractions in lowest terms: what sums, differences, halves and comparisons of them are. -/
import Derived.Test.YtbocmbhinjkjlaaRedMath
set_option linter.unusedSimpArgs false
set_option linter.unusedVariables false
namespace Go.Proofs.Ytbocmbhinjkjlaa
open Go Go.Proofs Go.RowKit
def redV (p q : Int) : Value := fracV (redN p q) (redD p q)
theorem redV_same {a b c d : Int} (hb : 1 ≤ b) (hd : 1 ≤ d) (e : a * d = c * b) : redV a b = redV c d := by
  obtain ⟨h1, h2⟩ := red_same hb hd e
  unfold redV; rw [h1, h2]
theorem redV_one (a : Int) : redV a 1 = fracV a 1 := by unfold redV; rw [(red_one a).1, (red_one a).2]
theorem redV_zero {q : Int} (hq : 1 ≤ q) : redV 0 q = fracV 0 1 := by rw [← redV_one]; exact redV_same hq (by omega) (by simp)
/-- The bounds within which all of it stays. -/
structure Bd (p q : Int) : Prop where
  lo : -1000000000 ≤ p
  hi : p ≤ 1000000000
  q1 : 1 ≤ q
  q2 : q ≤ 1000000000
theorem Bd.red {p q : Int} (h : Bd p q) : Bd (redN p q) (redD p q) := by
  obtain ⟨g, g1, p1, p2, p3, p4⟩ := red_parts p h.q1
  obtain ⟨h1, h2, h3⟩ := red_le p h.q1
  have := h.lo; have := h.hi; have := h.q2
  exact ⟨by omega, by omega, p3, by omega⟩
theorem mul_bd {a b : Int} (h1 : -1000000000 ≤ a) (h2 : a ≤ 1000000000) (h3 : 1 ≤ b) (h4 : b ≤ 1000000000) : -1000000000000000000 ≤ a * b ∧ a * b ≤ 1000000000000000000 := by
  have m1 : a * b ≤ 1000000000 * b := Int.mul_le_mul_of_nonneg_right h2 (by omega)
  have m2 : -1000000000 * b ≤ a * b := Int.mul_le_mul_of_nonneg_right h1 (by omega)
  omega
theorem mul_pos1 {a b : Int} (h1 : 1 ≤ a) (h2 : 1 ≤ b) : 1 ≤ a * b := by
  have : 1 * b ≤ a * b := Int.mul_le_mul_of_nonneg_right h1 (by omega)
  omega
theorem Bd.sumOk {a b c d : Int} (h : Bd a b) (k : Bd c d) : SumOk a b c d := by
  have m1 := mul_bd h.lo h.hi k.q1 k.q2
  have m2 := mul_bd k.lo k.hi h.q1 h.q2
  have m3 := mul_bd (a := b) (by have := h.q1; omega) h.q2 k.q1 k.q2
  have m4 := mul_pos1 h.q1 k.q1
  exact ⟨⟨by omega, by omega⟩, ⟨by omega, by omega⟩, by omega, by omega, by omega, by omega⟩
theorem Bd.subOk {a b c d : Int} (h : Bd a b) (k : Bd c d) : SubOk a b c d := by
  have m1 := mul_bd h.lo h.hi k.q1 k.q2
  have m2 := mul_bd k.lo k.hi h.q1 h.q2
  have m3 := mul_bd (a := b) (by have := h.q1; omega) h.q2 k.q1 k.q2
  have m4 := mul_pos1 h.q1 k.q1
  exact ⟨⟨by omega, by omega⟩, ⟨by omega, by omega⟩, by omega, by omega, by omega, by omega⟩
theorem red_add {p q p' q' : Int} (hq : 1 ≤ q) (hq' : 1 ≤ q') : redV (redN p q * redD p' q' + redN p' q' * redD p q) (redD p q * redD p' q') = redV (p * q' + p' * q) (q * q') := by
  obtain ⟨g, g1, p1, p2, p3, p4⟩ := red_parts p hq
  obtain ⟨k, k1, q1, q2, q3, q4⟩ := red_parts p' hq'
  refine redV_same (mul_pos1 p3 q3) (mul_pos1 hq hq') ?_
  generalize redN p q = a at *
  generalize redD p q = b at *
  generalize redN p' q' = c at *
  generalize redD p' q' = d at *
  subst p1 p2 q1 q2
  rw [Int.add_mul, Int.add_mul]
  congr 1 <;> ac_rfl
theorem red_sub {p q p' q' : Int} (hq : 1 ≤ q) (hq' : 1 ≤ q') : redV (redN p q * redD p' q' - redN p' q' * redD p q) (redD p q * redD p' q') = redV (p * q' - p' * q) (q * q') := by
  obtain ⟨g, g1, p1, p2, p3, p4⟩ := red_parts p hq
  obtain ⟨k, k1, q1, q2, q3, q4⟩ := red_parts p' hq'
  refine redV_same (mul_pos1 p3 q3) (mul_pos1 hq hq') ?_
  generalize redN p q = a at *
  generalize redD p q = b at *
  generalize redN p' q' = c at *
  generalize redD p' q' = d at *
  subst p1 p2 q1 q2
  rw [Int.sub_mul, Int.sub_mul]
  congr 1 <;> ac_rfl
theorem red_half {p q : Int} (hq : 1 ≤ q) : redV (redN p q) (2 * redD p q) = redV p (2 * q) := by
  obtain ⟨g, g1, p1, p2, p3, p4⟩ := red_parts p hq
  refine redV_same (by omega) (by omega) ?_
  generalize redN p q = a at *
  generalize redD p q = b at *
  subst p1 p2
  ac_rfl
theorem red_less {p q p' q' : Int} (hq : 1 ≤ q) (hq' : 1 ≤ q') : redN p q * redD p' q' < redN p' q' * redD p q ↔ p * q' < p' * q := by
  obtain ⟨g, g1, p1, p2, p3, p4⟩ := red_parts p hq
  obtain ⟨k, k1, q1, q2, q3, q4⟩ := red_parts p' hq'
  generalize redN p q = a at *
  generalize redD p q = b at *
  generalize redN p' q' = c at *
  generalize redD p' q' = d at *
  subst p1 p2 q1 q2
  have e1 : a * g * (d * k) = (a * d) * (g * k) := by ac_rfl
  have e2 : c * k * (b * g) = (c * b) * (g * k) := by ac_rfl
  rw [e1, e2]
  have hgk : 0 < g * k := Int.mul_pos (by omega) (by omega)
  exact ⟨fun h => Int.mul_lt_mul_of_pos_right h hgk, fun h => Int.lt_of_mul_lt_mul_right h (by omega)⟩
theorem refAdd_red {p q p' q' : Int} (h : Bd p q) (k : Bd p' q') (w : World) : Calls Try.prog 52 #[redV p q, redV p' q'] w fun e w' => e = .returned (redV (p * q' + p' * q) (q * q')) ∧ Below w.heap.size w w' := by
  have := refAdd_any (h.red.sumOk k.red) w
  rw [← red_add h.q1 k.q1]; exact this
theorem refSub_red {p q p' q' : Int} (h : Bd p q) (k : Bd p' q') (w : World) : Calls Try.prog 58 #[redV p q, redV p' q'] w fun e w' => e = .returned (redV (p * q' - p' * q) (q * q')) ∧ Below w.heap.size w w' := by
  have := refSub_any (h.red.subOk k.red) w
  rw [← red_sub h.q1 k.q1]; exact this
theorem half_red {p q : Int} (h : Bd p q) (w : World) : Calls Try.prog 67 #[redV p q] w fun e w' => e = .returned (redV p (2 * q)) ∧ Below w.heap.size w w' := by
  have hr := h.red
  have := half_any (a := redN p q) (b := redD p q) (by have := hr.lo; omega) (by have := hr.hi; omega) (by have := hr.q1; omega) (by have := hr.q2; omega) w
  rw [← red_half h.q1]; exact this
theorem refLess_red {p q p' q' : Int} (h : Bd p q) (k : Bd p' q') (w : World) : Calls Try.prog 53 #[redV p q, redV p' q'] w fun e w' => e = .returned (.bool (decide (p * q' < p' * q))) ∧ Below w.heap.size w w' := by
  have s := h.red.sumOk k.red
  have := refLess_any (a := redN p q) (b := redD p q) (c := redN p' q') (d := redD p' q') s.p1 s.p2 w
  rw [← decide_eq_decide.2 (red_less h.q1 k.q1)]; exact this
theorem sum_red {p q p' q' : Int} (h : Bd p q) (k : Bd p' q') (w : World) : Calls Try.prog 85 #[redV p q, redV p' q'] w fun e w' => e = .returned (redV (p * q' + p' * q) (q * q')) ∧ Below w.heap.size w w' := by
  have := sum_any (h.red.sumOk k.red) w
  rw [← red_add h.q1 k.q1]; exact this
end Go.Proofs.Ytbocmbhinjkjlaa
