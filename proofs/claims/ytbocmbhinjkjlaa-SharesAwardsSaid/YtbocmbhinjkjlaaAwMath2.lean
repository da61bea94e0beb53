/- The mathematics of awards, continued: two claims, agreement with the contested garment, smallest shares and greatest losses. -/
import Derived.Test.YtbocmbhinjkjlaaAwAll
import Derived.Test.YtbocmbhinjkjlaaAgrees
set_option linter.unusedSimpArgs false
set_option linter.unusedVariables false
namespace Go.Proofs.Ytbocmbhinjkjlaa
open Go Go.Proofs Go.RowKit Go.Seq Go.Sort
theorem over_mul {E b N : Int} (hN : 1 ≤ N) : over E b * N = over (E * N) (b * N) := by
  have h : (E - b) * N = E * N - b * N := Int.sub_mul ..
  rcases over_cases E b with ⟨k, e⟩ | ⟨k, e⟩ <;> rcases over_cases (E * N) (b * N) with ⟨k', e'⟩ | ⟨k', e'⟩ <;> rw [e, e']
  · exact h
  · exfalso; have := Int.mul_pos k (show 0 < N by omega); omega
  · exfalso; have : (E - b) * N ≤ 0 := Int.mul_nonpos_of_nonpos_of_nonneg (by omega) (by omega); omega
  · simp
theorem conX_mul {E a b N : Int} (hN : 1 ≤ N) : conX E a b * N = conX (E * N) (a * N) (b * N) := by
  unfold conX
  rw [← over_mul hN, ← over_mul hN, Int.add_mul, Int.sub_mul, Int.sub_mul, Int.mul_assoc]
theorem pair_low {x y L : Int} (hx : 0 ≤ x) (hy : 0 ≤ y) (hL : 0 ≤ L) : conX (mnI x L + mnI y L) (2 * x) (2 * y) = 2 * mnI x L := by
  unfold conX
  have h1 := over_cases (mnI x L + mnI y L) (2 * y)
  have h2 := over_cases (mnI x L + mnI y L) (2 * x)
  have h3 := mnI_cases x L
  have h4 := mnI_cases y L
  generalize over (mnI x L + mnI y L) (2 * y) = p at *
  generalize over (mnI x L + mnI y L) (2 * x) = q at *
  generalize mnI x L = m at *
  generalize mnI y L = n at *
  omega
theorem pair_high {x y L : Int} (hx : 0 ≤ x) (hy : 0 ≤ y) (hL : 0 ≤ L) : conX ((2 * x - mnI x L) + (2 * y - mnI y L)) (2 * x) (2 * y) = 2 * (2 * x - mnI x L) := by
  unfold conX
  have h1 := over_cases ((2 * x - mnI x L) + (2 * y - mnI y L)) (2 * y)
  have h2 := over_cases ((2 * x - mnI x L) + (2 * y - mnI y L)) (2 * x)
  have h3 := mnI_cases x L
  have h4 := mnI_cases y L
  generalize over ((2 * x - mnI x L) + (2 * y - mnI y L)) (2 * y) = p at *
  generalize over ((2 * x - mnI x L) + (2 * y - mnI y L)) (2 * x) = q at *
  generalize mnI x L = m at *
  generalize mnI y L = n at *
  omega
theorem aw_pair {S E N L c e : Int} (hN : 1 ≤ N) (hL : 0 ≤ L) (hc : 0 ≤ c) (he : 0 ≤ e) : conX (awX 3 S E N L c + awX 3 S E N L e) (c * awD 3 S N) (e * awD 3 S N) = 2 * awX 3 S E N L c := by
  show conX ((if 2 * E ≤ S then mnI (c * N) L else c * (2 * N) - mnI (c * N) L) + (if 2 * E ≤ S then mnI (e * N) L else e * (2 * N) - mnI (e * N) L)) (c * (2 * N)) (e * (2 * N)) = 2 * (if 2 * E ≤ S then mnI (c * N) L else c * (2 * N) - mnI (c * N) L)
  rw [show c * (2 * N) = 2 * (c * N) by ac_rfl, show e * (2 * N) = 2 * (e * N) by ac_rfl]
  have h1 : 0 ≤ c * N := Int.mul_nonneg hc (by omega)
  have h2 : 0 ≤ e * N := Int.mul_nonneg he (by omega)
  split
  · exact pair_low h1 h2 hL
  · exact pair_high h1 h2 hL
theorem two_talmud {a b E N L : Int} (h : LevR 3 [a, b] E N L) (ha : 0 ≤ a) (hb : 0 ≤ b) (hE : 0 ≤ E ∧ E ≤ [a, b].sum) :
    conX E a b * awD 3 [a, b].sum N = awX 3 [a, b].sum E N L a * 2 ∧ conX E b a * awD 3 [a, b].sum N = awX 3 [a, b].sum E N L b * 2 := by
  have hN := h.n1
  have hL := h.l0
  have s := aw_sum h hE (by omega)
  have p1 := aw_pair (S := [a, b].sum) (E := E) hN hL ha hb
  have p2 := aw_pair (S := [a, b].sum) (E := E) hN hL hb ha
  have hD : 1 ≤ awD 3 [a, b].sum N := awD_one hN
  clear h
  generalize [a, b].sum = S at *
  rw [List.map_cons, List.sum_cons, List.map_cons, List.sum_cons, List.map_nil, List.sum_nil, Int.add_zero] at s
  rw [Int.add_comm (awX 3 S E N L b)] at p2
  rw [s] at p1 p2
  rw [conX_mul hD, conX_mul hD, p1, p2]
  omega
theorem agr_iff {c e X Y D : Int} (hD : 1 ≤ D) : agr c e (redN X D, redD X D) (redN Y D, redD Y D) = true ↔ conX (X + Y) (c * D) (e * D) = 2 * X := by
  obtain ⟨g, g1, p1, p2, p3, p4⟩ := red_parts X hD
  obtain ⟨k, k1, q1, q2, q3, q4⟩ := red_parts Y hD
  unfold agr
  simp only []
  generalize redN X D = x at *
  generalize redD X D = y at *
  generalize redN Y D = x' at *
  generalize redD Y D = y' at *
  have hu : 1 ≤ y * y' := mul_pos1 p3 q3
  have hgk : 1 ≤ g * k := mul_pos1 g1 k1
  rw [decide_eq_true_eq]
  have r0 := red_self p3 p4
  have r1 := red_eq_iff (a := conX (x * y' + x' * y) (c * (y * y')) (e * (y * y'))) (b := 2 * (y * y')) (c := x) (d := y) (by omega) p3
  rw [r0.1, r0.2] at r1
  rw [r1]
  have m1 : conX (x * y' + x' * y) (c * (y * y')) (e * (y * y')) * (g * k) = conX (X + Y) (c * D) (e * D) * D := by
    rw [conX_mul hgk, conX_mul hD]
    have e1 : (x * y' + x' * y) * (g * k) = (X + Y) * D := by
      rw [Int.add_mul, Int.add_mul]
      congr 1
      · rw [show x * y' * (g * k) = (x * g) * (y' * k) by ac_rfl, p1, q2]
      · rw [show x' * y * (g * k) = (x' * k) * (y * g) by ac_rfl, q1, p2]
    have e2 : ∀ c, c * (y * y') * (g * k) = c * D * D := fun c => by
      rw [show c * (y * y') * (g * k) = c * ((y * g) * (y' * k)) by ac_rfl, p2, q2]; ac_rfl
    rw [e1, e2, e2]
  generalize conX (x * y' + x' * y) (c * (y * y')) (e * (y * y')) = Z at *
  generalize conX (X + Y) (c * D) (e * D) = T at *
  have m2 : x * y' * (g * k) = X * D := by rw [show x * y' * (g * k) = (x * g) * (y' * k) by ac_rfl, p1, q2]
  constructor
  · intro h
    have h1 : Z = 2 * (x * y') := Int.eq_of_mul_eq_mul_right (show y ≠ 0 by omega) (by rw [h]; ac_rfl)
    refine Int.eq_of_mul_eq_mul_right (show D ≠ 0 by omega) ?_
    rw [← m1, h1, Int.mul_assoc, m2, Int.mul_assoc]
  · intro h
    have h1 : Z = 2 * (x * y') := Int.eq_of_mul_eq_mul_right (show g * k ≠ 0 by omega) (by rw [m1, h, Int.mul_assoc 2 (x * y'), m2, Int.mul_assoc])
    rw [h1]; ac_rfl
/-- No award has a greater smallest share than equal awards. -/
theorem small_math {zs : List Int} {E N L D : Int} {X : Int → Int} (h : Lev zs E N L) (hD : 1 ≤ D) (hX : ∀ z ∈ zs, X z ≤ z * D) (hs : (zs.map X).sum = E * D) {k : Int} (hk : k ∈ zs) : ∃ z ∈ zs, X z * N ≤ mnI (k * N) L * D := by
  have hN := h.n1
  rcases Classical.em (∃ z ∈ zs, X z * N ≤ mnI (k * N) L * D) with hh | hh
  · exact hh
  · exfalso
    have hall : ∀ z ∈ zs, mnI (k * N) L * D < X z * N := fun z hz => by
      rcases Int.lt_or_le (mnI (k * N) L * D) (X z * N) with h1 | h1
      · exact h1
      · exact absurd ⟨z, hz, h1⟩ hh
    have h1 := hall k hk
    have h2 : X k * N ≤ k * D * N := Int.mul_le_mul_of_nonneg_right (hX k hk) (by omega)
    rcases mnI_cases (k * N) L with ⟨_, e⟩ | ⟨_, e⟩
    · rw [e, show k * N * D = k * D * N by ac_rfl] at h1
      omega
    · rw [e] at hall
      have hle : ∀ z ∈ zs, mnI (z * N) L * D ≤ X z * N := fun z hz => by
        have a1 : mnI (z * N) L * D ≤ L * D := Int.mul_le_mul_of_nonneg_right (by rcases mnI_cases (z * N) L with ⟨_, h⟩ | ⟨_, h⟩ <;> omega) (by omega)
        have := hall z hz
        omega
      have e1 : (zs.map fun z => mnI (z * N) L * D).sum = E * N * D := by rw [sum_scale (f := fun z => mnI (z * N) L), h.sum]
      have e2 : (zs.map fun z => X z * N).sum = E * D * N := by rw [sum_scale (f := X), hs]
      have h3 := sum_eq_all hle (by rw [e1, e2, show E * N * D = E * D * N by ac_rfl]; exact Int.le_refl _) k hk
      have h4 := hall k hk
      rw [← h3, e] at h4
      omega
/-- No award has a smaller greatest loss than equal losses. -/
theorem loss_math {zs : List Int} {E N L D : Int} {X : Int → Int} (h : Lev zs (zs.sum - E) N L) (hD : 1 ≤ D) (hX : ∀ z ∈ zs, 0 ≤ X z) (hs : (zs.map X).sum = E * D) {k : Int} (hk : k ∈ zs) : ∃ z ∈ zs, mnI (k * N) L * D ≤ (z * D - X z) * N := by
  have hN := h.n1
  rcases Classical.em (∃ z ∈ zs, mnI (k * N) L * D ≤ (z * D - X z) * N) with hh | hh
  · exact hh
  · exfalso
    have hall : ∀ z ∈ zs, (z * D - X z) * N < mnI (k * N) L * D := fun z hz => by
      rcases Int.lt_or_le ((z * D - X z) * N) (mnI (k * N) L * D) with h1 | h1
      · exact h1
      · exact absurd ⟨z, hz, h1⟩ hh
    have hle : ∀ z ∈ zs, (z * D - X z) * N ≤ mnI (z * N) L * D := fun z hz => by
      have h1 := hall z hz
      have a1 : mnI (k * N) L * D ≤ L * D := Int.mul_le_mul_of_nonneg_right (by rcases mnI_cases (k * N) L with ⟨_, h⟩ | ⟨_, h⟩ <;> omega) (by omega)
      have a2 : (z * D - X z) * N ≤ z * D * N := Int.mul_le_mul_of_nonneg_right (by have := hX z hz; omega) (by omega)
      rcases mnI_cases (z * N) L with ⟨_, e⟩ | ⟨_, e⟩
      · rw [e, show z * N * D = z * D * N by ac_rfl]; exact a2
      · rw [e]; omega
    have e1 : (zs.map fun z => mnI (z * N) L * D).sum = (zs.sum - E) * N * D := by rw [sum_scale (f := fun z => mnI (z * N) L), h.sum]
    have e3 : (zs.map fun z => z * D).sum = zs.sum * D := sum_mul_all fun z _ => rfl
    have e2 : (zs.map fun z => (z * D - X z) * N).sum = (zs.sum * D - E * D) * N := by rw [sum_scale (f := fun z => z * D - X z), sum_sub_all (f := fun z => z * D) (g := X), hs, e3]
    have h3 := sum_eq_all hle (by rw [e1, e2, ← Int.sub_mul, show (zs.sum - E) * N * D = (zs.sum - E) * D * N by ac_rfl]; exact Int.le_refl _) k hk
    have h4 := hall k hk
    omega
end Go.Proofs.Ytbocmbhinjkjlaa
