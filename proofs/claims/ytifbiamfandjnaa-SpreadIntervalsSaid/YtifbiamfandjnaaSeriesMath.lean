import Derived.Test.YtifbiamfandjnaaThereMath
set_option linter.unusedSimpArgs false
set_option linter.unusedVariables false
namespace Go.Proofs.Ytifbiamfandjnaa
open Go Go.Proofs Go.RowKit
def trn (b : Nat) : Nat → Nat → Nat → Nat
  | 0, _, a => a
  | D + 1, k, a => trn b D (k / b) (a * b + k % b)
theorem trn_acc (b : Nat) : ∀ D k a, trn b D k a = a * b ^ D + trn b D k 0
  | 0, k, a => by simp [trn]
  | D + 1, k, a => by
    unfold trn
    rw [trn_acc b D _ (a * b + k % b), trn_acc b D _ (0 * b + k % b), Nat.pow_succ]
    simp only [Nat.zero_mul, Nat.zero_add, Nat.add_mul]
    rw [Nat.mul_assoc, Nat.mul_comm b, Nat.add_assoc]
theorem trn_mf {b : Nat} (hb : 2 ≤ b) : ∀ D f k, k < b ^ D → k < 2 ^ f → trn b D k 0 * (mf b f k).2 = (mf b f k).1 * b ^ D ∧ (mf b f k).2 ∣ b ^ D
  | 0, f, k, h, _ => by
    have : k = 0 := by simpa using h
    subst this
    cases f <;> simp [trn, mf]
  | D + 1, f, k, h, hf => by
    by_cases hk : k = 0
    · subst hk
      have h0 : ∀ D, trn b D 0 0 = 0 := by
        intro D
        induction D with
        | zero => rfl
        | succ D ih => unfold trn; simpa using ih
      rw [h0]
      cases f <;> simp [mf]
    · obtain ⟨f', rfl⟩ : ∃ f', f = f' + 1 := by
        cases f with
        | zero => simp at hf; omega
        | succ f' => exact ⟨f', rfl⟩
      have e : mf b (f' + 1) k = (k % b * (mf b f' (k / b)).2 + (mf b f' (k / b)).1, b * (mf b f' (k / b)).2) := by
        show (if k = 0 then _ else _) = _
        rw [if_neg hk]
      have hq : k / b < b ^ D := by
        rw [Nat.div_lt_iff_lt_mul (by omega)]
        rw [Nat.pow_succ] at h; exact h
      obtain ⟨i1, i2⟩ := trn_mf hb D f' (k / b) hq (half hb hf)
      rw [e]
      simp only
      generalize (mf b f' (k / b)).1 = x at *
      generalize (mf b f' (k / b)).2 = y at *
      have ht : trn b (D + 1) k 0 = k % b * b ^ D + trn b D (k / b) 0 := by
        show trn b D (k / b) (0 * b + k % b) = _
        rw [trn_acc, Nat.zero_mul, Nat.zero_add]
      rw [ht, Nat.pow_succ]
      refine ⟨?_, ?_⟩
      · rw [Nat.add_mul, Nat.add_mul, Nat.mul_left_comm (trn b D (k / b) 0), i1]
        simp only [Nat.mul_comm, Nat.mul_left_comm, Nat.mul_assoc]
      · rw [Nat.mul_comm]; exact Nat.mul_dvd_mul i2 (Nat.dvd_refl b)
/-- A mirror in lowest terms, times the scale. -/
theorem mirror_scaled {b D k : Nat} (hb : 2 ≤ b) (hk : k < b ^ D) (hk2 : k < 2 ^ 20) {X Y : Nat} (hm : mir b 20 k 0 1 = (X, Y)) :
    ∃ a d q : Nat, redN (X : Int) (Y : Int) = (a : Int) ∧ redD (X : Int) (Y : Int) = (d : Int) ∧ 0 < d ∧ b ^ D = d * q ∧ q * a = trn b D k 0 := by
  rw [mir_mf] at hm
  simp only [Nat.zero_mul, Nat.zero_add, Nat.one_mul] at hm
  injection hm with e1 e2
  obtain ⟨i1, i2⟩ := trn_mf hb D 20 k hk hk2
  have hlt := (mf_facts hb 20 k hk2).1
  rw [e1, e2] at hlt i1
  rw [e2] at i2
  obtain ⟨a, d, g, r1, r2, r3, r4, r5, hd0, hco, hdY, haX, hadl⟩ := lowest_nat X (show 0 < Y by omega)
  obtain ⟨z, hz⟩ := i2
  refine ⟨a, d, g * z, r1, r2, hd0, by rw [hz, r4, Nat.mul_left_comm, Nat.mul_assoc], ?_⟩
  have : trn b D k 0 * Y = (g * z * a) * Y := by
    rw [i1, hz, r3]
    simp only [Nat.mul_comm, Nat.mul_left_comm, Nat.mul_assoc]
  exact (Nat.eq_of_mul_eq_mul_right (by omega) this).symm
theorem trn_le {b : Nat} (hb : 2 ≤ b) {D k : Nat} (hk : k < b ^ D) (hk2 : k < 2 ^ 20) : trn b D k 0 ≤ b ^ D := by
  obtain ⟨i1, i2⟩ := trn_mf hb D 20 k hk hk2
  have hlt := (mf_facts hb 20 k hk2).1
  have : trn b D k 0 * (mf b 20 k).2 ≤ b ^ D * (mf b 20 k).2 := by
    rw [i1, Nat.mul_comm]; exact Nat.mul_le_mul_left _ (by omega)
  exact Nat.le_of_mul_le_mul_right this (by omega)
end Go.Proofs.Ytifbiamfandjnaa
