import Derived.Test.YtifbiamfandjnaaBackFn
set_option linter.unusedSimpArgs false
set_option linter.unusedVariables false
namespace Go.Proofs.Ytifbiamfandjnaa
open Go Go.Proofs Go.RowKit
theorem lowest_nat (n : Nat) {d : Nat} (hd : 0 < d) : ∃ a b g : Nat, redN (n : Int) (d : Int) = (a : Int) ∧ redD (n : Int) (d : Int) = (b : Int) ∧ n = g * a ∧ d = g * b ∧ 0 < g ∧ 0 < b ∧ Nat.Coprime a b ∧ b ≤ d ∧ a ≤ n ∧ (n < d → a < b) := by
  have hg : 0 < Nat.gcd n d := Nat.gcd_pos_of_pos_right _ hd
  have e : Int.gcd (n : Int) (d : Int) = Nat.gcd n d := rfl
  obtain ⟨a, ha⟩ := Nat.gcd_dvd_left n d
  obtain ⟨b, hb⟩ := Nat.gcd_dvd_right n d
  have hco : Nat.Coprime (n / Nat.gcd n d) (d / Nat.gcd n d) := Nat.coprime_div_gcd_div_gcd hg
  unfold redN redD
  rw [e]
  generalize Nat.gcd n d = g at *
  have q1 : n / g = a := by rw [ha]; exact Nat.mul_div_cancel_left _ hg
  have q2 : d / g = b := by rw [hb]; exact Nat.mul_div_cancel_left _ hg
  rw [q1, q2] at hco
  have hb0 : 0 < b := by
    rcases Nat.eq_zero_or_pos b with h | h
    · subst h; rw [Nat.mul_zero] at hb; omega
    · exact h
  refine ⟨a, b, g, ?_, ?_, ha, hb, hg, hb0, hco, ?_, ?_, ?_⟩
  · rw [Int.tdiv_eq_ediv_of_nonneg (by omega), ← q1]; rfl
  · rw [← q2]; rfl
  · rw [hb]; exact Nat.le_mul_of_pos_left _ hg
  · rw [ha]; exact Nat.le_mul_of_pos_left _ hg
  · intro h
    rw [ha, hb] at h
    exact Nat.lt_of_mul_lt_mul_left h
theorem red_unique {a b a' b' : Nat} (h1 : Nat.Coprime a b) (h2 : Nat.Coprime a' b') (hb : 0 < b) (e : a * b' = a' * b) : a = a' ∧ b = b' := by
  have d1 : b ∣ b' := by
    have : b ∣ a * b' := ⟨a', by rw [e, Nat.mul_comm]⟩
    exact (Nat.Coprime.symm h1).dvd_of_dvd_mul_left this
  have d2 : b' ∣ b := by
    have : b' ∣ a' * b := ⟨a, by rw [← e, Nat.mul_comm]⟩
    exact (Nat.Coprime.symm h2).dvd_of_dvd_mul_left this
  have hbb := Nat.dvd_antisymm d1 d2
  subst hbb
  exact ⟨Nat.eq_of_mul_eq_mul_right hb e, rfl⟩
theorem red_same {n d n' d' : Nat} (hd : 0 < d) (hd' : 0 < d') (e : n * d' = n' * d) : redN (n : Int) d = redN (n' : Int) d' ∧ redD (n : Int) d = redD (n' : Int) d' := by
  obtain ⟨a, b, g, h1, h2, h3, h4, hg, hb, hco, _⟩ := lowest_nat n hd
  obtain ⟨a', b', g', h1', h2', h3', h4', hg', hb', hco', _⟩ := lowest_nat n' hd'
  have : a * b' = a' * b := by
    rw [h3, h4', h3', h4] at e
    have e2 : (g * g') * (a * b') = (g * g') * (a' * b) := by
      rw [Nat.mul_mul_mul_comm, e, Nat.mul_mul_mul_comm, Nat.mul_comm g' g]
    exact Nat.eq_of_mul_eq_mul_left (Nat.mul_pos hg hg') e2
  obtain ⟨e1, e2⟩ := red_unique hco hco' hb this
  rw [h1, h2, h1', h2', e1, e2]
  exact ⟨rfl, rfl⟩
/-- The mirror as a fraction, by the lowest digit. -/
def mf (b : Nat) : Nat → Nat → Nat × Nat
  | 0, _ => (0, 1)
  | f + 1, k => if k = 0 then (0, 1) else (k % b * (mf b f (k / b)).2 + (mf b f (k / b)).1, b * (mf b f (k / b)).2)
theorem mir_mf (b : Nat) : ∀ f k n d, mir b f k n d = (n * (mf b f k).2 + (mf b f k).1, d * (mf b f k).2)
  | 0, k, n, d => by simp [mir, mf]
  | f + 1, k, n, d => by
    unfold mir mf
    by_cases h : k = 0
    · rw [if_pos h, if_pos h]; simp
    · rw [if_neg h, if_neg h, mir_mf b f]
      simp only [Prod.mk.injEq]
      constructor
      · rw [Nat.add_mul, Nat.mul_assoc, Nat.add_assoc]
      · rw [Nat.mul_assoc]
theorem half {b k f : Nat} (hb : 2 ≤ b) (h : k < 2 ^ (f + 1)) : k / b < 2 ^ f := by
  have h1 : k / b ≤ k / 2 := Nat.div_le_div_left hb (by omega)
  rw [Nat.pow_succ] at h
  omega
theorem mf_facts {b : Nat} (hb : 2 ≤ b) : ∀ f k, k < 2 ^ f → (mf b f k).1 < (mf b f k).2 ∧ (k ≠ 0 → 0 < (mf b f k).1 ∧ (mf b f k).2 ≤ b * k) ∧ (k = 0 → (mf b f k).2 = 1) ∧ mf b (f + 1) k = mf b f k
  | 0, k, h => by
    have : k = 0 := by simpa using h
    subst this
    simp [mf]
  | f + 1, k, h => by
    obtain ⟨i1, i2, i3, i4⟩ := mf_facts hb f (k / b) (half hb h)
    have hlt : k % b < b := Nat.mod_lt _ (by omega)
    have hdm := Nat.div_add_mod k b
    by_cases hk : k = 0
    · subst hk; simp [mf]
    · have e : mf b (f + 1) k = (k % b * (mf b f (k / b)).2 + (mf b f (k / b)).1, b * (mf b f (k / b)).2) := by
        show (if k = 0 then _ else _) = _
        rw [if_neg hk]
      have e2 : mf b (f + 2) k = (k % b * (mf b (f + 1) (k / b)).2 + (mf b (f + 1) (k / b)).1, b * (mf b (f + 1) (k / b)).2) := by
        show (if k = 0 then _ else _) = _
        rw [if_neg hk]
      refine ⟨?_, fun _ => ⟨?_, ?_⟩, fun h0 => absurd h0 hk, ?_⟩
      · rw [e]
        simp only
        have : (k % b + 1) * (mf b f (k / b)).2 ≤ b * (mf b f (k / b)).2 := Nat.mul_le_mul_right _ hlt
        rw [Nat.add_mul, Nat.one_mul] at this
        omega
      · rw [e]
        simp only
        by_cases hq : k / b = 0
        · have : 1 ≤ k % b := by rw [hq] at hdm; omega
          have h3 := i3 hq
          rw [h3]; omega
        · have := (i2 hq).1; omega
      · rw [e]
        simp only
        refine Nat.mul_le_mul_left _ ?_
        by_cases hq : k / b = 0
        · rw [i3 hq]; omega
        · have h2 := (i2 hq).2; omega
      · rw [e2, e, i4]
theorem bk_mf {b D : Nat} (hb : 2 ≤ b) (hD : 0 < D) : ∀ f k F r K p, k < 2 ^ f → f + 1 ≤ F → r * (mf b f k).2 = (mf b f k).1 * D → K + p * k ≤ 1000000 → 1 ≤ p → bk b D F r K p = some (K + p * k) := by
  intro f
  induction f with
  | zero =>
    intro k F r K p hk hF hr hle hp
    have : k = 0 := by simpa using hk
    subst this
    obtain ⟨F', rfl⟩ : ∃ F', F = F' + 1 := ⟨F - 1, by omega⟩
    have hr0 : r = 0 := by simpa [mf] using hr
    unfold bk
    rw [if_pos hr0, if_pos (by omega)]; simp
  | succ f ih =>
    intro k F r K p hk hF hr hle hp
    obtain ⟨F', rfl⟩ : ∃ F', F = F' + 1 := ⟨F - 1, by omega⟩
    by_cases hk0 : k = 0
    · subst hk0
      have hr0 : r = 0 := by simpa [mf] using hr
      unfold bk
      rw [if_pos hr0, if_pos (by omega)]; simp
    · obtain ⟨j1, j2, _, _⟩ := mf_facts hb (f + 1) k hk
      have hx := (j2 hk0).1
      have hlt : k % b < b := Nat.mod_lt _ (by omega)
      have hdm := Nat.div_add_mod k b
      obtain ⟨i1, i2, i3, i4⟩ := mf_facts hb f (k / b) (half hb hk)
      have e : mf b (f + 1) k = (k % b * (mf b f (k / b)).2 + (mf b f (k / b)).1, b * (mf b f (k / b)).2) := by
        show (if k = 0 then _ else _) = _
        rw [if_neg hk0]
      have hr0 : r ≠ 0 := by
        intro h; subst h
        rw [Nat.zero_mul] at hr
        have := Nat.mul_pos hx hD
        omega
      have hpk : p * 1 ≤ p * k := Nat.mul_le_mul_left _ (by omega)
      rw [e] at hr
      simp only at hr
      have hih := ih (k / b) F'
      generalize hc : k % b = c at *
      generalize hq : k / b = q at *
      generalize (mf b f q).1 = x at *
      generalize (mf b f q).2 = y at *
      have hr2 : r * b * y = c * D * y + x * D := by
        rw [Nat.mul_assoc, hr, Nat.add_mul, Nat.mul_assoc, Nat.mul_comm y D, ← Nat.mul_assoc]
      have hy : 0 < y := by omega
      have hge : c * D ≤ r * b := Nat.le_of_mul_le_mul_right (by rw [hr2]; omega) hy
      obtain ⟨r', hr'⟩ : ∃ r', r * b = c * D + r' := ⟨r * b - c * D, by omega⟩
      have hr3 : r' * y = x * D := by
        rw [hr', Nat.add_mul] at hr2; omega
      have hrD : r' < D := by
        refine Nat.lt_of_mul_lt_mul_right (a := y) ?_
        rw [hr3, Nat.mul_comm D y]
        exact Nat.mul_lt_mul_of_pos_right i1 hD
      have hm : r * b % D = r' := by rw [hr', Nat.add_comm, Nat.add_mul_mod_self_right]; exact Nat.mod_eq_of_lt hrD
      have hd : r * b / D = c := by rw [hr', Nat.add_comm, Nat.add_mul_div_right _ _ hD, Nat.div_eq_of_lt hrD, Nat.zero_add]
      unfold bk
      rw [if_neg hr0, if_neg (by omega), hm, hd]
      have hs : K + c * p + p * b * q = K + p * k := by
        rw [← hdm, Nat.mul_add, Nat.mul_comm c p, Nat.mul_assoc]; omega
      rw [hih r' (K + c * p) (p * b) (by rw [← hq]; exact half hb hk) (by omega) hr3 (by rw [hs]; exact hle) (Nat.mul_pos hp (by omega)), hs]
end Go.Proofs.Ytifbiamfandjnaa
