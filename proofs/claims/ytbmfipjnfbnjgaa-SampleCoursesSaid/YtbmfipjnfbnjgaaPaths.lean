import Derived.Test.YtbmfipjnfbnjgaaChance
set_option linter.unusedSimpArgs false
set_option linter.unusedVariables false
namespace Go.Sample
open Go.Proofs.Ytbmfipjnfbnjgaa (chZ chZ_tm)
/-- One piece more. -/
def nxt (f : Nat → Nat) (k : Nat) : Nat := f k + (if k = 0 then 0 else f (k - 1))
/-- The orders of i pieces with k bad ones after which the course has not ended. -/
def opn (A R : Nat → Int) : Nat → Nat → Nat
  | 0, k => if k = 0 then 1 else 0
  | i + 1, k => if (k : Int) ≤ A i ∨ R i ≤ (k : Int) then 0 else nxt (opn A R i) k
theorem opn_succ (A R : Nat → Int) (i k : Nat) : opn A R (i + 1) k = if (k : Int) ≤ A i ∨ R i ≤ (k : Int) then 0 else nxt (opn A R i) k := rfl
theorem nxt_le {f g : Nat → Nat} (h : ∀ k, f k ≤ g k) (k : Nat) : nxt f k ≤ nxt g k := by
  unfold nxt
  have h1 := h k
  have h2 := h (k - 1)
  split <;> omega
theorem nxt_ch (i k : Nat) : nxt (ch i) k = ch (i + 1) k := by
  unfold nxt
  cases k with
  | zero => simp
  | succ k => rw [if_neg (by omega), ch_succ, Nat.add_sub_cancel]; omega
theorem opn_le (A R : Nat → Int) : ∀ (i k : Nat), opn A R i k ≤ ch i k
  | 0, k => by
    cases k with
    | zero => simp [opn]
    | succ k => simp [opn]
  | i + 1, k => by
    rw [opn_succ]
    split
    · exact Nat.zero_le _
    · rw [← nxt_ch]; exact nxt_le (opn_le A R i) k
theorem nxt_le_ch (A R : Nat → Int) (i k : Nat) : nxt (opn A R i) k ≤ ch (i + 1) k := by rw [← nxt_ch]; exact nxt_le (opn_le A R i) k
theorem opn_gt (A R : Nat → Int) {i k : Nat} (h : i < k) : opn A R i k = 0 := by have := opn_le A R i k; rw [ch_gt h] at this; omega
theorem nxt_gt (A R : Nat → Int) {i k : Nat} (h : i + 1 < k) : nxt (opn A R i) k = 0 := by have := nxt_le_ch A R i k; rw [ch_gt h] at this; omega
section
variable (N d : Nat) (A R : Nat → Int)
/-- The ways with k bad ones among the first i + 1, of a course that has not ended before. -/
def wy (i k : Nat) : Nat := nxt (opn A R i) k * chZ (N - (i + 1)) ((d : Int) - (k : Int))
theorem wy_le (i k : Nat) : wy N d A R i k ≤ tm (i + 1) (N - (i + 1)) d k := by
  rw [← chZ_tm]; exact Nat.mul_le_mul_right _ (nxt_le_ch A R i k)
def yesTo (i : Nat) : Nat → Nat
  | 0 => 0
  | j + 1 => yesTo i j + (if (j : Int) ≤ A i then wy N d A R i j else 0)
def noTo (i : Nat) : Nat → Nat
  | 0 => 0
  | j + 1 => noTo i j + (if (j : Int) ≤ A i then 0 else if R i ≤ (j : Int) then wy N d A R i j else 0)
def yes (i : Nat) : Nat := yesTo N d A R i (i + 2)
def no (i : Nat) : Nat := noTo N d A R i (i + 2)
theorem both_le (i : Nat) : ∀ j, yesTo N d A R i j + noTo N d A R i j ≤ acc (i + 1) (N - (i + 1)) d j
  | 0 => by simp [yesTo, noTo]
  | j + 1 => by
    have h := both_le i j
    have h2 := wy_le N d A R i j
    unfold yesTo noTo
    rw [acc_succ]
    split
    · omega
    · split <;> omega
theorem both_ch {i : Nat} (h : i + 1 ≤ N) (j : Nat) : yesTo N d A R i j + noTo N d A R i j ≤ ch N d := by
  have h1 := both_le N d A R i j
  have h2 := acc_le (i + 1) (N - (i + 1)) d j
  rw [show i + 1 + (N - (i + 1)) = N by omega] at h2
  omega
theorem wy_ch {i : Nat} (h : i + 1 ≤ N) (j : Nat) : wy N d A R i j ≤ ch N d := by
  have h1 := wy_le N d A R i j
  have h2 := tm_le (i + 1) (N - (i + 1)) d j
  rw [show i + 1 + (N - (i + 1)) = N by omega] at h2
  omega
/-- The table of ends while the boundary m is followed up to k bad pieces. -/
def tabY (m k j : Nat) : Nat := if 1 ≤ j ∧ j ≤ m then yes N d A R (j - 1) else if j = m + 1 then yesTo N d A R m k else 0
def tabN (m k j : Nat) : Nat := if 1 ≤ j ∧ j ≤ m then no N d A R (j - 1) else if j = m + 1 then noTo N d A R m k else 0
theorem tabY_step (m j : Nat) : tabY N d A R m (m + 2) j = tabY N d A R (m + 1) 0 j := by
  unfold tabY
  by_cases h : 1 ≤ j ∧ j ≤ m
  · rw [if_pos h, if_pos (by omega)]
  · rw [if_neg h]
    by_cases h2 : j = m + 1
    · subst h2; rw [if_pos rfl, if_pos (by omega)]; rfl
    · rw [if_neg h2, if_neg (by omega)]
      by_cases h3 : j = m + 1 + 1
      · rw [if_pos h3]; rfl
      · rw [if_neg h3]
theorem tabN_step (m j : Nat) : tabN N d A R m (m + 2) j = tabN N d A R (m + 1) 0 j := by
  unfold tabN
  by_cases h : 1 ≤ j ∧ j ≤ m
  · rw [if_pos h, if_pos (by omega)]
  · rw [if_neg h]
    by_cases h2 : j = m + 1
    · subst h2; rw [if_pos rfl, if_pos (by omega)]; rfl
    · rw [if_neg h2, if_neg (by omega)]
      by_cases h3 : j = m + 1 + 1
      · rw [if_pos h3]; rfl
      · rw [if_neg h3]
def tabE (m k j : Nat) : Nat := if j < 37 then tabY N d A R m k j else tabN N d A R m k (j - 37)
theorem tabE_step (m j : Nat) : tabE N d A R m (m + 2) j = tabE N d A R (m + 1) 0 j := by
  unfold tabE; rw [tabY_step, tabN_step]
theorem tabE_zero (j : Nat) : tabE N d A R 0 0 j = 0 := by
  have h1 : ∀ j, tabY N d A R 0 0 j = 0 := fun j => by
    unfold tabY
    rw [if_neg (by omega)]
    split <;> rfl
  have h2 : ∀ j, tabN N d A R 0 0 j = 0 := fun j => by
    unfold tabN
    rw [if_neg (by omega)]
    split <;> rfl
  unfold tabE; rw [h1, h2]; simp
/-- The open orders while one piece more is examined, from the back: those above k are done. -/
def midA (m k j : Nat) : Nat := if k < j then nxt (opn A R m) j else opn A R m j
/-- And while ends are cut off: those below k are done. -/
def midB (m k j : Nat) : Nat := if j < k then opn A R (m + 1) j else nxt (opn A R m) j
theorem midA_start {m j : Nat} : midA A R m (m + 1) j = opn A R m j := by
  unfold midA
  by_cases h : m + 1 < j
  · rw [if_pos h, nxt_gt A R h, opn_gt A R (by omega)]
  · rw [if_neg h]
theorem midA_end {m j : Nat} : midA A R m 0 j = midB A R m 0 j := by
  unfold midA midB
  rw [if_neg (show ¬ j < 0 by omega)]
  by_cases h : 0 < j
  · rw [if_pos h]
  · rw [if_neg h, show j = 0 by omega]; simp [nxt]
theorem midB_end {m j : Nat} : midB A R m (m + 2) j = opn A R (m + 1) j := by
  unfold midB
  by_cases h : j < m + 2
  · rw [if_pos h]
  · rw [if_neg h, nxt_gt A R (by omega), opn_gt A R (by omega)]
end
end Go.Sample
