set_option linter.unusedSimpArgs false
set_option linter.unusedVariables false
namespace Go.Sample
/-- The number of ways to choose k of n. -/
def ch : Nat → Nat → Nat
  | _, 0 => 1
  | 0, _ + 1 => 0
  | n + 1, k + 1 => ch n k + ch n (k + 1)
@[simp] theorem ch_zero (n : Nat) : ch n 0 = 1 := by cases n <;> rfl
@[simp] theorem ch_none (k : Nat) : ch 0 (k + 1) = 0 := rfl
theorem ch_succ (n k : Nat) : ch (n + 1) (k + 1) = ch n k + ch n (k + 1) := rfl
theorem ch_gt : ∀ {n k : Nat}, n < k → ch n k = 0
  | 0, k + 1, _ => rfl
  | n + 1, 0, h => by omega
  | n + 1, k + 1, h => by rw [ch_succ, ch_gt (by omega), ch_gt (by omega)]
theorem ch_pos : ∀ {n k : Nat}, k ≤ n → 1 ≤ ch n k
  | n, 0, _ => by simp
  | 0, k + 1, h => by omega
  | n + 1, k + 1, h => by have := ch_pos (n := n) (k := k) (by omega); rw [ch_succ]; omega
theorem ch_self (n : Nat) : ch n n = 1 := by
  induction n with
  | zero => rfl
  | succ n ih => rw [ch_succ, ih, ch_gt (by omega)]
/-- Absorption: (n+1) C(n,k) = (k+1) C(n+1,k+1). -/
theorem ch_absorb : ∀ (n k : Nat), (k + 1) * ch (n + 1) (k + 1) = (n + 1) * ch n k
  | 0, 0 => by decide
  | 0, k + 1 => by rw [ch_succ]; simp
  | n + 1, 0 => by
    have h := ch_absorb n 0
    rw [ch_succ]
    simp only [ch_zero, Nat.zero_add, Nat.one_mul, Nat.mul_one] at h ⊢
    omega
  | n + 1, k + 1 => by
    have h1 := ch_absorb n k
    have h2 := ch_absorb n (k + 1)
    have h3 : ch (n + 1) (k + 1) = ch n k + ch n (k + 1) := rfl
    rw [ch_succ (n + 1) (k + 1), Nat.mul_add, h2]
    have : (k + 1 + 1) * ch (n + 1) (k + 1) = (k + 1) * ch (n + 1) (k + 1) + ch (n + 1) (k + 1) := by rw [Nat.succ_mul]
    rw [this, h1]
    have e : (n + 1 + 1) * ch (n + 1) (k + 1) = (n + 1) * ch (n + 1) (k + 1) + ch (n + 1) (k + 1) := by rw [Nat.succ_mul]
    rw [e, h3, Nat.mul_add]
    omega
/-- (k+1) C(n,k+1) = (n-k) C(n,k). -/
theorem ch_next (n k : Nat) : (k + 1) * ch n (k + 1) = (n - k) * ch n k := by
  by_cases h : k ≤ n
  · have h1 := ch_absorb n k
    rw [ch_succ, Nat.mul_add] at h1
    have h2 : (n + 1) * ch n k = (k + 1) * ch n k + (n - k) * ch n k := by rw [← Nat.add_mul]; congr 1; omega
    omega
  · rw [ch_gt (by omega), ch_gt (n := n) (k := k) (by omega)]; simp
theorem ch_symm : ∀ (a b : Nat), ch (a + b) a = ch (a + b) b
  | 0, b => by rw [Nat.zero_add, ch_self]; simp
  | a + 1, 0 => by rw [Nat.add_zero, ch_self]; simp
  | a + 1, b + 1 => by
    have h1 := ch_symm a (b + 1)
    have h2 := ch_symm (a + 1) b
    rw [show a + 1 + (b + 1) = (a + b + 1) + 1 by omega, ch_succ (a + b + 1) a, ch_succ (a + b + 1) b]
    rw [show a + (b + 1) = a + b + 1 by omega] at h1
    rw [show a + 1 + b = a + b + 1 by omega] at h2
    omega
theorem ch_le_succ (n k : Nat) : ch n k ≤ ch (n + 1) k := by
  cases k with
  | zero => simp
  | succ k => rw [ch_succ]; omega
theorem ch_mono {n m : Nat} (h : n ≤ m) (k : Nat) : ch n k ≤ ch m k := by
  induction m with
  | zero => rw [show n = 0 by omega]; exact Nat.le_refl _
  | succ m ih =>
    by_cases e : n = m + 1
    · rw [e]; exact Nat.le_refl _
    · exact Nat.le_trans (ih (by omega)) (ch_le_succ m k)
/-- Rows by lists, for the kernel. -/
def nextRow (l : List Nat) : List Nat := List.zipWith (· + ·) (0 :: l) (l ++ [0])
def pascal : Nat → List Nat
  | 0 => [1]
  | n + 1 => nextRow (pascal n)
theorem pascal_len (n : Nat) : (pascal n).length = n + 1 := by
  induction n with
  | zero => rfl
  | succ n ih => simp [pascal, nextRow, ih]
theorem pascal_at (n : Nat) : ∀ k, (pascal n).getD k 0 = ch n k := by
  induction n with
  | zero => intro k; cases k with
    | zero => rfl
    | succ k => simp [pascal]
  | succ n ih =>
    intro k
    have hl := pascal_len n
    by_cases hk : k ≤ n + 1
    · have h1 : (pascal (n + 1)).getD k 0 = (0 :: pascal n).getD k 0 + (pascal n ++ [0]).getD k 0 := by
        simp only [pascal, nextRow, List.getD_eq_getElem?_getD, List.getElem?_zipWith]
        have e1 : (0 :: pascal n)[k]? = some ((0 :: pascal n)[k]'(by simp [hl]; omega)) := List.getElem?_eq_getElem _
        have e2 : (pascal n ++ [0])[k]? = some ((pascal n ++ [0])[k]'(by simp [hl]; omega)) := List.getElem?_eq_getElem _
        rw [e1, e2]; rfl
      have h2 : (pascal n ++ [0]).getD k 0 = ch n k := by
        by_cases hk2 : k < n + 1
        · rw [← ih k, List.getD_eq_getElem?_getD, List.getD_eq_getElem?_getD, List.getElem?_append_left (by omega)]
        · rw [ch_gt (by omega), List.getD_eq_getElem?_getD, List.getElem?_append_right (by omega)]
          rw [show k - (pascal n).length = 0 by omega]; rfl
      rw [h1, h2]
      cases k with
      | zero => simp
      | succ k => rw [ch_succ, ← ih k]; simp
    · rw [ch_gt (by omega), List.getD_eq_getElem?_getD, List.getElem?_eq_none (by rw [pascal_len]; omega)]; rfl
theorem pascal36 : (pascal 36).all (fun x => decide (x ≤ 9075135300)) = true := by decide +kernel
theorem ch36 (k : Nat) : ch 36 k ≤ 9075135300 := by
  rw [← pascal_at]
  by_cases h : k < (pascal 36).length
  · rw [List.getD_eq_getElem?_getD, List.getElem?_eq_getElem h]
    have := List.all_eq_true.1 pascal36 _ (List.getElem_mem h)
    simpa using this
  · rw [List.getD_eq_getElem?_getD, List.getElem?_eq_none (by omega)]; simp
theorem ch_le {n : Nat} (h : n ≤ 36) (k : Nat) : ch n k ≤ 9075135300 := Nat.le_trans (ch_mono h k) (ch36 k)
/-- One term: k bad ones among the first n, the rest of d among m more. -/
def tm (n m d k : Nat) : Nat := if k ≤ d then ch n k * ch m (d - k) else 0
/-- The ways with fewer than c bad ones among the first n. -/
def acc (n m d : Nat) : Nat → Nat
  | 0 => 0
  | c + 1 => acc n m d c + tm n m d c
theorem acc_succ (n m d c : Nat) : acc n m d (c + 1) = acc n m d c + tm n m d c := rfl
theorem tm_zero (n m d : Nat) : tm n m d 0 = ch m d := by simp [tm]
theorem tm_pascal (n m d k : Nat) : tm (n + 1) m (d + 1) (k + 1) = tm n m (d + 1) (k + 1) + tm n m d k := by
  unfold tm
  by_cases h : k ≤ d
  · rw [if_pos (by omega), if_pos (by omega), if_pos h, ch_succ, Nat.add_mul, show d + 1 - (k + 1) = d - k by omega]; omega
  · rw [if_neg (by omega), if_neg (by omega), if_neg h]
theorem acc_pascal (n m d : Nat) : ∀ c, acc (n + 1) m (d + 1) (c + 1) = acc n m (d + 1) (c + 1) + acc n m d c
  | 0 => by simp [acc, tm_zero]
  | c + 1 => by
    rw [acc_succ, acc_pascal n m d c, tm_pascal, acc_succ n m (d + 1) (c + 1), acc_succ n m d c]; omega
theorem acc_none (n m : Nat) : ∀ c, acc n m 0 (c + 1) = 1
  | 0 => by simp [acc, tm_zero]
  | c + 1 => by rw [acc_succ, acc_none n m c]; simp [tm]
theorem acc_first (m d : Nat) : ∀ c, acc 0 m d (c + 1) = ch m d
  | 0 => by simp [acc, tm_zero]
  | c + 1 => by rw [acc_succ, acc_first m d c]; simp [tm]
theorem acc_mono1 (n m d c : Nat) : acc n m d c ≤ acc n m d (c + 1) := by rw [acc_succ]; omega
theorem acc_mono (n m d : Nat) {a b : Nat} (h : a ≤ b) : acc n m d a ≤ acc n m d b := by
  induction b with
  | zero => rw [show a = 0 by omega]; exact Nat.le_refl _
  | succ b ih =>
    by_cases e : a = b + 1
    · rw [e]; exact Nat.le_refl _
    · exact Nat.le_trans (ih (by omega)) (acc_mono1 n m d b)
theorem acc_le : ∀ (n m d c : Nat), acc n m d c ≤ ch (n + m) d
  | n, m, d, 0 => by simp [acc]
  | 0, m, d, c + 1 => by rw [acc_first]; simp
  | n + 1, m, 0, c + 1 => by rw [acc_none]; simp
  | n + 1, m, d + 1, c + 1 => by
    rw [acc_pascal, show n + 1 + m = (n + m) + 1 by omega, ch_succ]
    have := acc_le n m (d + 1) (c + 1)
    have := acc_le n m d c
    omega
theorem acc_all : ∀ (n m d c : Nat), n < c → acc n m d c = ch (n + m) d
  | _, _, _, 0, h => by omega
  | 0, m, d, c + 1, _ => by rw [acc_first]; simp
  | n + 1, m, 0, c + 1, _ => by rw [acc_none]; simp
  | n + 1, m, d + 1, c + 1, h => by
    rw [acc_pascal, show n + 1 + m = (n + m) + 1 by omega, ch_succ, acc_all n m (d + 1) (c + 1) (by omega), acc_all n m d c (by omega)]
    omega
theorem acc_bad : ∀ (n m d c : Nat), d < c → acc n m d c = ch (n + m) d
  | _, _, _, 0, h => by omega
  | 0, m, d, c + 1, _ => by rw [acc_first]; simp
  | n + 1, m, 0, c + 1, _ => by rw [acc_none]; simp
  | n + 1, m, d + 1, c + 1, h => by
    rw [acc_pascal, show n + 1 + m = (n + m) + 1 by omega, ch_succ, acc_bad n m d c (by omega), acc_bad n m (d + 1) (c + 1) (by omega)]
    omega
theorem tm_le_acc (n m d : Nat) : ∀ {c k}, k < c → tm n m d k ≤ acc n m d c
  | 0, k, h => by omega
  | c + 1, k, h => by
    rw [acc_succ]
    by_cases e : k = c
    · subst e; omega
    · have := tm_le_acc n m d (c := c) (k := k) (by omega); omega
theorem tm_le (n m d k : Nat) : tm n m d k ≤ ch (n + m) d := Nat.le_trans (tm_le_acc n m d (Nat.lt_succ_self k)) (acc_le n m d (k + 1))
theorem tm_pos {n m d k : Nat} (h1 : k ≤ n) (h2 : k ≤ d) (h3 : d - k ≤ m) : 1 ≤ tm n m d k := by
  unfold tm; rw [if_pos h2]; exact Nat.mul_pos (ch_pos h1) (ch_pos h3)
theorem tm_out {n m d k : Nat} (h : m + k < d) : tm n m d k = 0 := by
  unfold tm
  by_cases h2 : k ≤ d
  · rw [if_pos h2, ch_gt (n := m) (k := d - k) (by omega)]; simp
  · rw [if_neg h2]
theorem acc_zero {n m d : Nat} : ∀ {c : Nat}, m + c < d + 1 → acc n m d c = 0
  | 0, _ => rfl
  | c + 1, h => by rw [acc_succ, acc_zero (by omega), tm_out (by omega)]
theorem acc_some {n m d c : Nat} (hc : 0 < c) (hn : c ≤ n + 1) (hd : d + 1 ≤ m + c) (hb : d ≤ n + m) : 1 ≤ acc n m d c := by
  refine Nat.le_trans (tm_pos (n := n) (m := m) (d := d) (k := min (c - 1) d) (by omega) (by omega) (by omega)) (tm_le_acc n m d (by omega))
theorem acc_short {n m d c : Nat} (hn : c ≤ n) (hc : c ≤ d) (hb : d ≤ n + m) : acc n m d c < ch (n + m) d := by
  have h1 := acc_all n m d (n + 1) (by omega)
  have hk : c ≤ max c (d - m) := by omega
  have h2 := tm_pos (n := n) (m := m) (d := d) (k := max c (d - m)) (by omega) (by omega) (by omega)
  have h3 := acc_mono n m d hk
  have h4 := acc_mono n m d (a := max c (d - m) + 1) (b := n + 1) (by omega)
  rw [acc_succ] at h4
  omega
/-- The ways that accept, weighed by the bad ones behind. -/
def lef (n m d : Nat) : Nat → Nat
  | 0 => 0
  | c + 1 => lef n m d c + tm n m d c * (d - c)
theorem lef_succ (n m d c : Nat) : lef n m d (c + 1) = lef n m d c + tm n m d c * (d - c) := rfl
theorem lef_le (n m d : Nat) : ∀ c, lef n m d c ≤ acc n m d c * d
  | 0 => by simp [lef]
  | c + 1 => by
    rw [lef_succ, acc_succ, Nat.add_mul]
    exact Nat.add_le_add (lef_le n m d c) (Nat.mul_le_mul_left _ (by omega))
theorem lef_mono1 (n m d c : Nat) : lef n m d c ≤ lef n m d (c + 1) := by rw [lef_succ]; omega
/-- One bad piece more: (d+1) acc(d+1) <= (n+m-d) acc(d). -/
theorem tm_step (n m d k : Nat) : (d + 1) * tm n m (d + 1) (k + 1) = (n - k) * tm n m d k + (m - (d - (k + 1))) * tm n m d (k + 1) := by
  unfold tm
  by_cases h : k + 1 ≤ d
  · rw [if_pos (by omega), if_pos (by omega), if_pos h]
    have e1 : d + 1 = (k + 1) + (d - (k + 1) + 1) := by omega
    have e2 : d + 1 - (k + 1) = d - (k + 1) + 1 := by omega
    have e3 : d - k = d - (k + 1) + 1 := by omega
    have h1 := ch_next n k
    have h2 := ch_next m (d - (k + 1))
    rw [e2, e3]
    generalize hq : d - (k + 1) = q at *
    rw [e1, Nat.add_mul]
    congr 1
    · rw [← Nat.mul_assoc, h1, Nat.mul_assoc]
    · rw [Nat.mul_left_comm, h2, Nat.mul_left_comm]
  · by_cases h' : k = d
    · subst h'
      rw [if_pos (by omega), if_pos (by omega), if_neg h, Nat.sub_self, Nat.sub_self]
      have h1 := ch_next n k
      simp only [ch_zero, Nat.mul_one, Nat.mul_zero, Nat.add_zero]
      exact h1
    · rw [if_neg (by omega), if_neg (by omega), if_neg h]; simp
theorem tm_step0 (n m d : Nat) : (d + 1) * tm n m (d + 1) 0 = (m - d) * tm n m d 0 := by
  rw [tm_zero, tm_zero]; exact ch_next m d
theorem tm_weigh (n m d k : Nat) (hd : d < n + m) : (n - k) * tm n m d k + (m - (d - k)) * tm n m d k = (n + m - d) * tm n m d k := by
  rw [← Nat.add_mul]
  by_cases h : k ≤ d ∧ k ≤ n ∧ d - k ≤ m
  · congr 1; omega
  · have : tm n m d k = 0 := by
      unfold tm
      by_cases h1 : k ≤ d
      · rw [if_pos h1]
        by_cases h2 : k ≤ n
        · rw [ch_gt (n := m) (k := d - k) (by omega)]; simp
        · rw [ch_gt (n := n) (k := k) (by omega)]; simp
      · rw [if_neg h1]
    rw [this]; simp
theorem acc_step (n m d : Nat) (hd : d < n + m) : ∀ c, (d + 1) * acc n m (d + 1) (c + 1) + (n - c) * tm n m d c = (n + m - d) * acc n m d (c + 1)
  | 0 => by
    have h1 := tm_step0 n m d
    have h2 := tm_weigh n m d 0 hd
    simp only [acc, Nat.zero_add, Nat.sub_zero] at *
    rw [h1]; omega
  | c + 1 => by
    have ih := acc_step n m d hd c
    have h1 := tm_step n m d c
    have h2 := tm_weigh n m d (c + 1) hd
    rw [acc_succ n m (d + 1) (c + 1), acc_succ n m d (c + 1), Nat.mul_add, Nat.mul_add, h1, ← ih, ← h2]
    omega
theorem acc_falls (n m d c : Nat) (hd : d < n + m) : acc n m (d + 1) c * ch (n + m) d ≤ acc n m d c * ch (n + m) (d + 1) := by
  cases c with
  | zero => simp [acc]
  | succ c =>
    have h1 := acc_step n m d hd c
    have h2 := ch_next (n + m) d
    have h3 : (d + 1) * acc n m (d + 1) (c + 1) ≤ (n + m - d) * acc n m d (c + 1) := by omega
    have h4 : (d + 1) * (acc n m (d + 1) (c + 1) * ch (n + m) d) ≤ (d + 1) * (acc n m d (c + 1) * ch (n + m) (d + 1)) := by
      rw [← Nat.mul_assoc, Nat.mul_left_comm (d + 1), h2]
      have := Nat.mul_le_mul_right (ch (n + m) d) h3
      refine Nat.le_trans this (Nat.le_of_eq ?_)
      rw [Nat.mul_assoc, Nat.mul_left_comm]
    exact Nat.le_of_mul_le_mul_left h4 (by omega)
end Go.Sample
