import Derived.Test.YtbmfipjnfbnjgaaCutMath
import Derived.Test.YtbmfipjnfbnjgaaIsCourse
import Derived.Test.YtbmfipjnfbnjgaaPlanFn
set_option linter.unusedSimpArgs false
set_option linter.unusedVariables false
namespace Go.Sample
/-- The course of a double plan: it ends after n1 pieces or after all L. -/
def mrgA (n1 c1 c2 L : Nat) (i : Nat) : Int := if i = L - 1 then (c2 : Int) else if i = n1 - 1 then (c1 : Int) else -1
def mrgR (n1 r1 c2 L : Nat) (i : Nat) : Int := if i = L - 1 then (c2 : Int) + 1 else if i = n1 - 1 then (r1 : Int) else (L : Int) + 1
section
variable {N d n1 c1 r1 n2 c2 : Nat}
theorem mrg_none {i : Nat} (h2 : 1 ≤ n2) (hi : i < n1 - 1) : yes N d (mrgA n1 c1 c2 (n1 + n2)) (mrgR n1 r1 c2 (n1 + n2)) i = 0 ∧ no N d (mrgA n1 c1 c2 (n1 + n2)) (mrgR n1 r1 c2 (n1 + n2)) i = 0 := by
  have hA : mrgA n1 c1 c2 (n1 + n2) i = -1 := by unfold mrgA; rw [if_neg (by omega), if_neg (by omega)]
  have hR : mrgR n1 r1 c2 (n1 + n2) i = ((n1 + n2 : Nat) : Int) + 1 := by unfold mrgR; rw [if_neg (by omega), if_neg (by omega)]
  have k1 : ∀ j, yesTo N d (mrgA n1 c1 c2 (n1 + n2)) (mrgR n1 r1 c2 (n1 + n2)) i j = 0 := fun j => by
    induction j with
    | zero => rfl
    | succ j ih => rw [yesTo, ih, if_neg (by rw [hA]; omega)]
  have k2 : ∀ j, j ≤ i + 2 → noTo N d (mrgA n1 c1 c2 (n1 + n2)) (mrgR n1 r1 c2 (n1 + n2)) i j = 0 := fun j => by
    induction j with
    | zero => intro _; rfl
    | succ j ih => intro hj; rw [noTo, ih (by omega), if_neg (by rw [hA]; omega), if_neg (by rw [hR]; omega)]
  exact ⟨k1 _, k2 _ (Nat.le_refl _)⟩
theorem weigh_ge (f : Nat → Nat) (n : Nat) : ∀ m, (∀ i, i < n - 1 → f i = 0) → n * sumTo f m ≤ sumTo (fun i => (i + 1) * f i) m
  | 0, _ => by simp [sumTo]
  | m + 1, h => by
    have ih := weigh_ge f n m h
    have e1 : sumTo (fun i => (i + 1) * f i) (m + 1) = sumTo (fun i => (i + 1) * f i) m + (m + 1) * f m := rfl
    have e2 : sumTo f (m + 1) = sumTo f m + f m := rfl
    rw [e1, e2, Nat.mul_add]
    by_cases hm : m < n - 1
    · rw [h m hm]; simp; exact ih
    · exact Nat.add_le_add ih (Nat.mul_le_mul_right _ (by omega))
theorem sumTo_mono {f g : Nat → Nat} (h : ∀ k, f k ≤ g k) : ∀ n, sumTo f n ≤ sumTo g n
  | 0 => Nat.le_refl _
  | n + 1 => Nat.add_le_add (sumTo_mono h n) (h n)
theorem mrg_last (h2 : 1 ≤ n2) : mrgA n1 c1 c2 (n1 + n2) (n1 + n2 - 1) = c2 ∧ mrgR n1 r1 c2 (n1 + n2) (n1 + n2 - 1) = (c2 : Int) + 1 := by
  unfold mrgA mrgR
  rw [if_pos rfl, if_pos rfl]; exact ⟨rfl, rfl⟩
theorem mrg_all (hd : d ≤ N) (h2 : 1 ≤ n2) (hL : n1 + n2 ≤ N) : sumTo (fun i => yes N d (mrgA n1 c1 c2 (n1 + n2)) (mrgR n1 r1 c2 (n1 + n2)) i + no N d (mrgA n1 c1 c2 (n1 + n2)) (mrgR n1 r1 c2 (n1 + n2)) i) (n1 + n2) = ch N d := by
  have h := ends_all (N := N) (d := d) (A := mrgA n1 c1 c2 (n1 + n2)) (R := mrgR n1 r1 c2 (n1 + n2)) (n := n1 + n2 - 1) (c := c2) hd (by omega) (mrg_last (r1 := r1) h2).1 (mrg_last (c1 := c1) h2).2
  rwa [show n1 + n2 - 1 + 1 = n1 + n2 by omega] at h
theorem mrg_acc (h36 : N ≤ 36) (hd : d ≤ N) (h2 : 1 ≤ n2) (hL : n1 + n2 ≤ N) : accAll N d (mrgA n1 c1 c2 (n1 + n2)) (mrgR n1 r1 c2 (n1 + n2)) (n1 + n2) ≤ ch N d := by
  rw [accAll_eq hL h36, ← mrg_all (c1 := c1) (r1 := r1) (c2 := c2) hd h2 hL]
  exact sumTo_mono (fun k => Nat.le_add_right _ _) _
theorem mrg_le (h36 : N ≤ 36) (hd : d ≤ N) (h2 : 1 ≤ n2) (hL : n1 + n2 ≤ N) : exAll N d (mrgA n1 c1 c2 (n1 + n2)) (mrgR n1 r1 c2 (n1 + n2)) (n1 + n2) ≤ (n1 + n2) * ch N d := by
  rw [exAll_eq hL h36, ← mrg_all (c1 := c1) (r1 := r1) (c2 := c2) hd h2 hL]
  exact weigh_le _ _ _ (Nat.le_refl _)
theorem mrg_ge (h36 : N ≤ 36) (hd : d ≤ N) (h2 : 1 ≤ n2) (hL : n1 + n2 ≤ N) : n1 * ch N d ≤ exAll N d (mrgA n1 c1 c2 (n1 + n2)) (mrgR n1 r1 c2 (n1 + n2)) (n1 + n2) := by
  rw [exAll_eq hL h36, ← mrg_all (c1 := c1) (r1 := r1) (c2 := c2) hd h2 hL]
  exact weigh_ge _ n1 _ (fun i hi => by obtain ⟨k1, k2⟩ := mrg_none (N := N) (d := d) (c1 := c1) (r1 := r1) (c2 := c2) h2 hi; rw [k1, k2])
end
end Go.Sample
namespace Go.Proofs.Ytbmfipjnfbnjgaa
open Go Go.Proofs Go.RowKit Go.Sample
theorem mrg_ok {N n1 c1 r1 n2 c2 ga oa ca gr ro cr : Nat} (h1 : 1 ≤ n1) (h2 : 1 ≤ n2) (hL : n1 + n2 ≤ N) (k1 : c1 + 1 < r1) (k2 : r1 ≤ n1 + 1) (k3 : c2 < n1 + n2) :
    CrsOk ⟨ga, oa, ca, gr, ro, cr, n1 + n2, mrgA n1 c1 c2 (n1 + n2), mrgR n1 r1 c2 (n1 + n2)⟩ N := by
  refine ⟨by show 1 ≤ n1 + n2; omega, hL, fun k hk => ?_, ?_⟩
  · have hk' : k < n1 + n2 := hk
    show -1 ≤ mrgA n1 c1 c2 (n1 + n2) k ∧ mrgA n1 c1 c2 (n1 + n2) k < mrgR n1 r1 c2 (n1 + n2) k ∧ mrgR n1 r1 c2 (n1 + n2) k ≤ ((n1 + n2 : Nat) : Int) + 1
    unfold mrgA mrgR
    by_cases e : k = n1 + n2 - 1
    · rw [if_pos e, if_pos e]; omega
    · rw [if_neg e, if_neg e]
      by_cases e2 : k = n1 - 1
      · rw [if_pos e2, if_pos e2]; omega
      · rw [if_neg e2, if_neg e2]; omega
  · show mrgR n1 r1 c2 (n1 + n2) (n1 + n2 - 1) = mrgA n1 c1 c2 (n1 + n2) (n1 + n2 - 1) + 1
    unfold mrgA mrgR
    rw [if_pos rfl, if_pos rfl]
theorem red_cmp {A X : Nat} (hX : 1 ≤ X) (h : A ≤ X) : rN A X ≤ rD A X := by
  obtain ⟨h1, h2, h3, _⟩ := red_mul (a := A) hX
  exact Nat.le_of_mul_le_mul_right (by rw [h1, h2]; exact h) (by omega : 0 < Nat.gcd A X)
end Go.Proofs.Ytbmfipjnfbnjgaa
