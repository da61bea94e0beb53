import Derived.Test.YtbmfipjnfbnjgaaOutcome
import Derived.Test.YtbmfipjnfbnjgaaCurtail
set_option linter.unusedSimpArgs false
set_option linter.unusedVariables false
namespace Go.Sample
open Go.Proofs.Ytbmfipjnfbnjgaa (chZ chZ_tm curA curR)
theorem sumTo_congr {f g : Nat → Nat} : ∀ (n : Nat), (∀ k, k < n → f k = g k) → sumTo f n = sumTo g n
  | 0, _ => rfl
  | n + 1, h => by rw [sumTo, sumTo, sumTo_congr n (fun k hk => h k (by omega)), h n (by omega)]
theorem sumTo_nxt (f W : Nat → Nat) : ∀ m, sumTo (fun k => nxt f k * W k) (m + 1) = sumTo (fun k => f k * (W k + W (k + 1))) m + f m * W m
  | 0 => by simp [sumTo, nxt]
  | m + 1 => by
    rw [sumTo, sumTo_nxt f W m, sumTo]
    simp only [nxt, Nat.add_sub_cancel, if_neg (Nat.succ_ne_zero m), Nat.add_mul, Nat.mul_add]
    omega
/-- All completions. -/
def wl (N d i k : Nat) : Nat := if k ≤ d then ch (N - i) (d - k) else 0
/-- Those with which the plan accepts. -/
def wa (N d n c i k : Nat) : Nat := if k ≤ d then acc (n - i) (N - n) (d - k) (c + 1 - k) else 0
theorem wl_chZ (N d i k : Nat) : chZ (N - i) ((d : Int) - (k : Int)) = wl N d i k := by
  unfold chZ wl
  by_cases h : k ≤ d
  · rw [if_neg (by omega), if_pos h, show ((d : Int) - (k : Int)).toNat = d - k by omega]
  · rw [if_pos (by omega), if_neg h]
theorem wl_rec {N d i : Nat} (h : i < N) (k : Nat) : wl N d i k = wl N d (i + 1) k + wl N d (i + 1) (k + 1) := by
  unfold wl
  obtain ⟨m, hm⟩ : ∃ m, N - i = m + 1 := ⟨N - i - 1, by omega⟩
  rw [hm, show N - (i + 1) = m by omega]
  by_cases h1 : k + 1 ≤ d
  · obtain ⟨e, he⟩ : ∃ e, d - k = e + 1 := ⟨d - k - 1, by omega⟩
    rw [if_pos (by omega), if_pos (by omega), if_pos h1, he, show d - (k + 1) = e by omega, ch_succ]
    omega
  · by_cases h2 : k ≤ d
    · rw [if_pos h2, if_pos h2, if_neg h1, show d - k = 0 by omega]; simp
    · rw [if_neg h2, if_neg h2, if_neg h1]
theorem wa_rec {N d n c i : Nat} (h : i < n) (k : Nat) : wa N d n c i k = wa N d n c (i + 1) k + wa N d n c (i + 1) (k + 1) := by
  unfold wa
  obtain ⟨m, hm⟩ : ∃ m, n - i = m + 1 := ⟨n - i - 1, by omega⟩
  rw [hm, show n - (i + 1) = m by omega]
  by_cases h1 : k + 1 ≤ d
  · obtain ⟨e, he⟩ : ∃ e, d - k = e + 1 := ⟨d - k - 1, by omega⟩
    rw [if_pos (by omega), if_pos (by omega), if_pos h1, he, show d - (k + 1) = e by omega]
    by_cases h3 : c + 1 - k = 0
    · rw [h3, show c + 1 - (k + 1) = 0 by omega]; simp [acc]
    · obtain ⟨b, hb⟩ : ∃ b, c + 1 - k = b + 1 := ⟨c + 1 - k - 1, by omega⟩
      rw [hb, show c + 1 - (k + 1) = b by omega, acc_pascal]
  · by_cases h2 : k ≤ d
    · rw [if_pos h2, if_pos h2, if_neg h1, show d - k = 0 by omega]
      by_cases h3 : c + 1 - k = 0
      · rw [h3]; simp [acc]
      · obtain ⟨b, hb⟩ : ∃ b, c + 1 - k = b + 1 := ⟨c + 1 - k - 1, by omega⟩
        rw [hb, acc_none, acc_none]
    · rw [if_neg h2, if_neg h2, if_neg h1]
section
variable {N d : Nat} {A R : Nat → Int}
theorem step_any (W : Nat → Nat → Nat) {i : Nat} (hr : ∀ k, W i k = W (i + 1) k + W (i + 1) (k + 1)) :
    sumTo (fun k => opn A R i k * W i k) (i + 1) = sumTo (fun k => nxt (opn A R i) k * W (i + 1) k) (i + 2) := by
  rw [sumTo_nxt, opn_gt A R (Nat.lt_succ_self i), Nat.zero_mul, Nat.add_zero]
  exact sumTo_congr _ (fun k _ => by rw [hr k])
theorem split_all {i : Nat} : ∀ j, sumTo (fun k => nxt (opn A R i) k * wl N d (i + 1) k) j = yesTo N d A R i j + noTo N d A R i j + sumTo (fun k => opn A R (i + 1) k * wl N d (i + 1) k) j
  | 0 => rfl
  | j + 1 => by
    rw [sumTo, split_all j, yesTo, noTo, sumTo, opn_succ]
    unfold wy
    rw [wl_chZ]
    by_cases h1 : (j : Int) ≤ A i
    · rw [if_pos h1, if_pos h1, if_pos (.inl h1)]; omega
    · by_cases h2 : R i ≤ (j : Int)
      · rw [if_neg h1, if_neg h1, if_pos h2, if_pos (.inr h2)]; omega
      · rw [if_neg h1, if_neg h1, if_neg h2, if_neg (by simp [h1, h2])]; omega
theorem split_acc {W : Nat → Nat → Nat} {i : Nat} (hy : ∀ k : Nat, (k : Int) ≤ A i → W (i + 1) k = wl N d (i + 1) k) (hn : ∀ k : Nat, ¬ (k : Int) ≤ A i → R i ≤ (k : Int) → W (i + 1) k = 0) :
    ∀ j, sumTo (fun k => nxt (opn A R i) k * W (i + 1) k) j = yesTo N d A R i j + sumTo (fun k => opn A R (i + 1) k * W (i + 1) k) j
  | 0 => rfl
  | j + 1 => by
    rw [sumTo, split_acc hy hn j, yesTo, sumTo, opn_succ]
    unfold wy
    rw [wl_chZ]
    by_cases h1 : (j : Int) ≤ A i
    · rw [if_pos h1, if_pos (.inl h1), hy j h1]; omega
    · by_cases h2 : R i ≤ (j : Int)
      · rw [if_neg h1, if_pos (.inr h2), hn j h1 h2]; omega
      · rw [if_neg h1, if_neg (by simp [h1, h2])]; omega
/-- All ways, by their ends among the first m pieces. -/
theorem total_all (hd : d ≤ N) : ∀ m, m ≤ N → ch N d = sumTo (fun i => yes N d A R i + no N d A R i) m + sumTo (fun k => opn A R m k * wl N d m k) (m + 1)
  | 0, _ => by simp [sumTo, opn, wl]
  | m + 1, h => by
    have e : sumTo (fun i => yes N d A R i + no N d A R i) (m + 1) = sumTo (fun i => yes N d A R i + no N d A R i) m + (yesTo N d A R m (m + 2) + noTo N d A R m (m + 2)) := rfl
    rw [total_all hd m (by omega), step_any (wl N d) (wl_rec (by omega)), split_all, e]
    exact (Nat.add_assoc _ _ _).symm
theorem total_acc {n c : Nat} (hy : ∀ i, i < n → ∀ k : Nat, (k : Int) ≤ A i → wa N d n c (i + 1) k = wl N d (i + 1) k) (hn : ∀ i, i < n → ∀ k : Nat, ¬ (k : Int) ≤ A i → R i ≤ (k : Int) → wa N d n c (i + 1) k = 0) :
    ∀ m, m ≤ n → acc n (N - n) d (c + 1) = sumTo (fun i => yes N d A R i) m + sumTo (fun k => opn A R m k * wa N d n c m k) (m + 1)
  | 0, _ => by simp [sumTo, opn, wa]
  | m + 1, h => by
    have e : sumTo (fun i => yes N d A R i) (m + 1) = sumTo (fun i => yes N d A R i) m + yesTo N d A R m (m + 2) := rfl
    rw [total_acc hy hn m (by omega), step_any (wa N d n c) (wa_rec (by omega)), split_acc (hy m (by omega)) (hn m (by omega)), e]
    exact (Nat.add_assoc _ _ _).symm
theorem tabE_low {L j : Nat} (hj : j < 37) : tabE N d A R L 0 j = if 1 ≤ j ∧ j ≤ L then yes N d A R (j - 1) else 0 := by
  unfold tabE tabY
  rw [if_pos hj]
  by_cases h : 1 ≤ j ∧ j ≤ L
  · rw [if_pos h, if_pos h]
  · rw [if_neg h, if_neg h]
    split <;> rfl
theorem tabE_high {L j : Nat} : tabE N d A R L 0 (37 + j) = if 1 ≤ j ∧ j ≤ L then no N d A R (j - 1) else 0 := by
  unfold tabE tabN
  rw [if_neg (by omega), show 37 + j - 37 = j by omega]
  by_cases h : 1 ≤ j ∧ j ≤ L
  · rw [if_pos h, if_pos h]
  · rw [if_neg h, if_neg h]
    split <;> rfl
theorem sum_shift (f : Nat → Nat) (L : Nat) : ∀ M, L ≤ M → sumTo (fun j => if 1 ≤ j ∧ j ≤ L then f (j - 1) else 0) (M + 1) = sumTo f L
  | 0, h => by obtain rfl : L = 0 := by omega
               simp [sumTo]
  | M + 1, h => by
    have e1 : sumTo (fun j => if 1 ≤ j ∧ j ≤ L then f (j - 1) else 0) (M + 1 + 1) = sumTo (fun j => if 1 ≤ j ∧ j ≤ L then f (j - 1) else 0) (M + 1) + (if 1 ≤ M + 1 ∧ M + 1 ≤ L then f (M + 1 - 1) else 0) := rfl
    rw [e1]
    by_cases e : L = M + 1
    · subst e
      have e2 : sumTo f (M + 1) = sumTo f M + f M := rfl
      rw [if_pos (by omega), Nat.add_sub_cancel, e2, ← sum_shift f M M (Nat.le_refl _)]
      congr 1
      exact sumTo_congr _ (fun k hk => by
        by_cases h1 : 1 ≤ k
        · rw [if_pos (by omega), if_pos (by omega)]
        · rw [if_neg (by omega), if_neg (by omega)])
    · rw [if_neg (by omega), sum_shift f L M (by omega)]; rfl
theorem accAll_eq {L : Nat} (hL : L ≤ N) (h36 : N ≤ 36) : accAll N d A R L = sumTo (fun i => yes N d A R i) L := by
  unfold accAll
  rw [← sum_shift _ L N hL]
  exact sumTo_congr _ (fun k hk => tabE_low (by omega))
theorem exAll_eq {L : Nat} (hL : L ≤ N) (h36 : N ≤ 36) : exAll N d A R L = sumTo (fun i => (i + 1) * (yes N d A R i + no N d A R i)) L := by
  unfold exAll
  rw [← sum_shift _ L N hL]
  exact sumTo_congr _ (fun k hk => by
    rw [tabE_low (by omega), tabE_high]
    by_cases h : 1 ≤ k ∧ k ≤ L
    · rw [if_pos h, if_pos h, if_pos h, show k - 1 + 1 = k by omega]
    · rw [if_neg h, if_neg h, if_neg h]; simp)
theorem opn_end {n c : Nat} (hA : A n = c) (hR : R n = (c : Int) + 1) (k : Nat) : opn A R (n + 1) k = 0 := by
  rw [opn_succ, if_pos]
  rw [hA, hR]; omega
theorem sumTo_zero {f : Nat → Nat} : ∀ n, (∀ k, k < n → f k = 0) → sumTo f n = 0
  | 0, _ => rfl
  | n + 1, h => by rw [sumTo, sumTo_zero n (fun k hk => h k (by omega)), h n (by omega)]
/-- A course that decides by the plan has the plan's chance, and a mean of at most n pieces. -/
theorem same_acc {n c : Nat} (h36 : N ≤ 36) (hn : n + 1 ≤ N) (hA : A n = c) (hR : R n = (c : Int) + 1) (hy : ∀ i, i < n + 1 → ∀ k : Nat, (k : Int) ≤ A i → wa N d (n + 1) c (i + 1) k = wl N d (i + 1) k) (hno : ∀ i, i < n + 1 → ∀ k : Nat, ¬ (k : Int) ≤ A i → R i ≤ (k : Int) → wa N d (n + 1) c (i + 1) k = 0) :
    accAll N d A R (n + 1) = acc (n + 1) (N - (n + 1)) d (c + 1) := by
  rw [accAll_eq hn h36, total_acc hy hno (n + 1) (Nat.le_refl _), sumTo_zero (n + 1 + 1) (fun k _ => by rw [opn_end hA hR, Nat.zero_mul])]
  rfl
theorem ends_all {n c : Nat} (hd : d ≤ N) (hn : n + 1 ≤ N) (hA : A n = c) (hR : R n = (c : Int) + 1) : sumTo (fun i => yes N d A R i + no N d A R i) (n + 1) = ch N d := by
  rw [total_all hd (n + 1) hn, sumTo_zero (n + 1 + 1) (fun k _ => by rw [opn_end hA hR, Nat.zero_mul])]
  rfl
theorem weigh_last (f : Nat → Nat) (n : Nat) (h : ∀ i, i < n → f i = 0) : sumTo (fun i => (i + 1) * f i) (n + 1) = (n + 1) * sumTo f (n + 1) := by
  have e1 : sumTo (fun i => (i + 1) * f i) (n + 1) = sumTo (fun i => (i + 1) * f i) n + (n + 1) * f n := rfl
  have e2 : sumTo f (n + 1) = sumTo f n + f n := rfl
  rw [e1, e2, sumTo_zero n (fun k hk => by rw [h k hk, Nat.mul_zero]), sumTo_zero n h]
  simp
/-- The plan itself as a course: no decision before the last piece. -/
def lateA (n c : Nat) (i : Nat) : Int := if i = n then (c : Int) else -1
def lateR (n c : Nat) (i : Nat) : Int := if i = n then (c : Int) + 1 else (n : Int) + 2
theorem late_none {n c i : Nat} (hi : i < n) : yes N d (lateA n c) (lateR n c) i = 0 ∧ no N d (lateA n c) (lateR n c) i = 0 := by
  have hA : lateA n c i = -1 := if_neg (by omega)
  have hR : lateR n c i = (n : Int) + 2 := if_neg (by omega)
  have h1 : ∀ j, yesTo N d (lateA n c) (lateR n c) i j = 0 := fun j => by
    induction j with
    | zero => rfl
    | succ j ih => rw [yesTo, ih, if_neg (by rw [hA]; omega)]
  have h2 : ∀ j, j ≤ i + 2 → noTo N d (lateA n c) (lateR n c) i j = 0 := fun j => by
    induction j with
    | zero => intro _; rfl
    | succ j ih => intro hj; rw [noTo, ih (by omega), if_neg (by rw [hA]; omega), if_neg (by rw [hR]; omega)]
  exact ⟨h1 _, h2 _ (Nat.le_refl _)⟩
theorem weigh_le (f : Nat → Nat) (L : Nat) : ∀ m, m ≤ L → sumTo (fun i => (i + 1) * f i) m ≤ L * sumTo f m
  | 0, _ => by simp [sumTo]
  | m + 1, h => by
    have := weigh_le f L m (by omega)
    have h2 : (m + 1) * f m ≤ L * f m := Nat.mul_le_mul_right _ h
    rw [sumTo, sumTo, Nat.mul_add]; omega
theorem mean_le {n c : Nat} (h36 : N ≤ 36) (hd : d ≤ N) (hn : n + 1 ≤ N) (hA : A n = c) (hR : R n = (c : Int) + 1) : exAll N d A R (n + 1) ≤ (n + 1) * ch N d := by
  rw [exAll_eq hn h36, ← ends_all hd hn hA hR]
  exact weigh_le _ _ _ (Nat.le_refl _)
theorem wa_all {N d n c i k : Nat} (hn : n ≤ N) (hi : i ≤ n) (h : n - i + k ≤ c) : wa N d n c i k = wl N d i k := by
  unfold wa wl
  by_cases hk : k ≤ d
  · rw [if_pos hk, if_pos hk, acc_all _ _ _ _ (by omega), show n - i + (N - n) = N - i by omega]
  · rw [if_neg hk, if_neg hk]
theorem wa_none {N d n c i k : Nat} (h : c < k) : wa N d n c i k = 0 := by
  unfold wa
  rw [show c + 1 - k = 0 by omega]
  simp [acc]
end
/-- The curtailed course. -/
theorem cur_ok {N d n c : Nat} (h36 : N ≤ 36) (hcn : c < n) (hnN : n ≤ N) : accAll N d (curA n c) (curR c) n = acc n (N - n) d (c + 1) := by
  obtain ⟨m, rfl⟩ : ∃ m, n = m + 1 := ⟨n - 1, by omega⟩
  refine same_acc h36 hnN (by unfold curA; omega) rfl ?_ ?_
  · intro i hi k hk
    unfold curA at hk
    exact wa_all hnN hi (by omega)
  · intro i hi k _ hk
    unfold curR at hk
    exact wa_none (by omega)
theorem cur_mean {N d n c : Nat} (h36 : N ≤ 36) (hd : d ≤ N) (hcn : c < n) (hnN : n ≤ N) : exAll N d (curA n c) (curR c) n ≤ n * ch N d := by
  obtain ⟨m, rfl⟩ : ∃ m, n = m + 1 := ⟨n - 1, by omega⟩
  exact mean_le (c := c) h36 hd hnN (by unfold curA; omega) rfl
theorem late_ok {N d n c : Nat} (h36 : N ≤ 36) (hcn : c < n + 1) (hnN : n + 1 ≤ N) : accAll N d (lateA n c) (lateR n c) (n + 1) = acc (n + 1) (N - (n + 1)) d (c + 1) := by
  refine same_acc h36 hnN (if_pos rfl) (if_pos rfl) ?_ ?_
  · intro i hi k hk
    by_cases e : i = n
    · subst e
      have : lateA i c i = (c : Int) := if_pos rfl
      exact wa_all hnN hi (by omega)
    · have : lateA n c i = -1 := if_neg e
      omega
  · intro i hi k _ hk
    by_cases e : i = n
    · subst e
      have : lateR i c i = (c : Int) + 1 := if_pos rfl
      exact wa_none (by omega)
    · have : lateR n c i = (n : Int) + 2 := if_neg e
      exact wa_none (by omega)
theorem late_mean {N d n c : Nat} (h36 : N ≤ 36) (hd : d ≤ N) (hcn : c < n + 1) (hnN : n + 1 ≤ N) : exAll N d (lateA n c) (lateR n c) (n + 1) = (n + 1) * ch N d := by
  rw [exAll_eq hnN h36, weigh_last _ _ (fun i hi => by obtain ⟨h1, h2⟩ := late_none (N := N) (d := d) (c := c) hi; rw [h1, h2]), ends_all (c := c) hd hnN (if_pos rfl) (if_pos rfl)]
end Go.Sample
