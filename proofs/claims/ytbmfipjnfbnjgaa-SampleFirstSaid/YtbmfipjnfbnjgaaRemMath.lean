import Derived.Test.YtbmfipjnfbnjgaaLeftFn
set_option linter.unusedSimpArgs false
set_option linter.unusedVariables false
namespace Go.Sample
theorem cross_le {x y p q u v : Nat} (hq : 0 < q) (h1 : x * q ≤ p * y) (h2 : p * v ≤ u * q) : x * v ≤ u * y := by
  -- x/y <= p/q <= u/v
  apply Nat.le_of_mul_le_mul_right (c := q) _ hq
  calc x * v * q = (x * q) * v := by ac_rfl
    _ ≤ (p * y) * v := Nat.mul_le_mul_right _ h1
    _ = (p * v) * y := by ac_rfl
    _ ≤ (u * q) * y := Nat.mul_le_mul_right _ h2
    _ = u * y * q := by ac_rfl
theorem cross_lt {x y p q u v : Nat} (hq : 0 < q) (hy : 0 < y) (h1 : x * q ≤ p * y) (h2 : p * v < u * q) : x * v < u * y := by
  apply Nat.lt_of_mul_lt_mul_right (a := q)
  calc x * v * q = (x * q) * v := by ac_rfl
    _ ≤ (p * y) * v := Nat.mul_le_mul_right _ h1
    _ = (p * v) * y := by ac_rfl
    _ < (u * q) * y := Nat.mul_lt_mul_of_pos_right h2 hy
    _ = u * y * q := by ac_rfl
theorem best_max (N n c : Nat) : ∀ K, K ≤ N + 1 → ∀ k, k < K → lef n (N - n) k (c + 1) * ch N (bestTo N n c K) ≤ lef n (N - n) (bestTo N n c K) (c + 1) * ch N k
  | 0, _, k, hk => by omega
  | K + 1, hK, k, hk => by
    have ih := best_max N n c K (by omega)
    have hb := ch_pos (bestTo_bound N n c (k := K) (by omega))
    simp only [bestTo]
    split
    · next h =>
      by_cases e : k = K
      · subst e; exact Nat.le_refl _
      · exact cross_le hb (ih k (by omega)) (Nat.le_of_lt h)
    · next h =>
      by_cases e : k = K
      · subst e; omega
      · exact ih k (by omega)
theorem best_first (N n c : Nat) : ∀ K, K ≤ N + 1 → ∀ k, k < bestTo N n c K → lef n (N - n) k (c + 1) * ch N (bestTo N n c K) < lef n (N - n) (bestTo N n c K) (c + 1) * ch N k
  | 0, _, k, hk => by simp [bestTo] at hk
  | K + 1, hK, k, hk => by
    have ih := best_first N n c K (by omega)
    have hb := ch_pos (bestTo_bound N n c (k := K) (by omega))
    simp only [bestTo] at hk ⊢
    split
    · next h =>
      rw [if_pos h] at hk
      exact cross_lt hb (ch_pos (by omega)) (best_max N n c K (by omega) k hk) h
    · next h =>
      rw [if_neg h] at hk
      exact ih k hk
theorem lef_full (n d : Nat) : ∀ c, lef n 0 d c = 0
  | 0 => rfl
  | c + 1 => by
    rw [lef_succ, lef_full n d c]
    unfold tm
    by_cases h : c ≤ d
    · rw [if_pos h]
      by_cases e : d - c = 0
      · rw [e]; simp
      · obtain ⟨k, hk⟩ : ∃ k, d - c = k + 1 := ⟨d - c - 1, by omega⟩
        rw [hk]; simp [ch]
    · rw [if_neg h]; simp
/-- A plan that accepts more leaves no less. -/
theorem best_more (N n c : Nat) : lef n (N - n) (bestTo N n c (N + 1)) (c + 1) * ch N (bestTo N n (c + 1) (N + 1)) ≤ lef n (N - n) (bestTo N n (c + 1) (N + 1)) (c + 1 + 1) * ch N (bestTo N n c (N + 1)) := by
  have hb := bestTo_bound N n c (k := N + 1) (Nat.le_refl _)
  have h := best_max N n (c + 1) (N + 1) (Nat.le_refl _) (bestTo N n c (N + 1)) (by omega)
  exact Nat.le_trans (Nat.mul_le_mul_right _ (lef_mono1 n (N - n) (bestTo N n c (N + 1)) (c + 1))) h
end Go.Sample
