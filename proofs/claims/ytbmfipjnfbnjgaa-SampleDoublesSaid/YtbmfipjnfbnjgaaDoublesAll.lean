import Derived.Test.YtbmfipjnfbnjgaaMrgMath
import Derived.Test.YtbmfipjnfbnjgaaMergedAll
import Derived.Laws.MakeOwn
import Derived.Test.YtbmfipjnfbnjgaaInts
import Derived.Test.YtbmfipjnfbnjgaaOutcome
set_option linter.unusedSimpArgs false
set_option linter.unusedVariables false
namespace Go.Sample
open Go.Proofs.Ytbmfipjnfbnjgaa (chZ chZ_tm)
theorem sumTo_add (f g : Nat → Nat) : ∀ n, sumTo (fun k => f k + g k) n = sumTo f n + sumTo g n
  | 0 => rfl
  | n + 1 => by rw [sumTo, sumTo, sumTo, sumTo_add f g n]; omega
theorem sumTo_mul (c : Nat) (f : Nat → Nat) : ∀ n, sumTo (fun k => c * f k) n = c * sumTo f n
  | 0 => rfl
  | n + 1 => by rw [sumTo, sumTo, sumTo_mul c f n, Nat.mul_add]
theorem sumTo_cut {f : Nat → Nat} {J : Nat} : ∀ M, J ≤ M → (∀ j, J ≤ j → j < M → f j = 0) → sumTo f M = sumTo f J
  | 0, h, _ => by rw [show J = 0 by omega]
  | M + 1, h, hz => by
    by_cases e : J = M + 1
    · rw [e]
    · rw [sumTo, sumTo_cut M (by omega) (fun j h1 h2 => hz j h1 (by omega)), hz M (by omega) (by omega)]; rfl
theorem sumTo_two {f : Nat → Nat} {p q : Nat} (hpq : p < q) (h : ∀ i, i < q → i ≠ p → f i = 0) : sumTo f (q + 1) = f p + f q := by
  have e : sumTo f q = f p := by
    rw [sumTo_cut (J := p + 1) q (by omega) (fun j h1 h2 => h j h2 (by omega)), sumTo, sumTo_zero p (fun k hk => h k (by omega) (by omega))]; omega
  rw [sumTo, e]
def vz (g : Nat → Nat) (m k : Nat) : Nat := sumTo (fun j => ch m j * g (k + j)) (m + 1)
theorem vz_zero (g : Nat → Nat) (k : Nat) : vz g 0 k = g k := by simp [vz, sumTo, ch]
theorem vz_rec (g : Nat → Nat) (m k : Nat) : vz g (m + 1) k = vz g m k + vz g m (k + 1) := by
  unfold vz
  have e1 : sumTo (fun j => ch (m + 1) j * g (k + j)) (m + 1 + 1) = sumTo (fun j => nxt (ch m) j * g (k + j)) (m + 1 + 1) := sumTo_congr _ (fun j _ => by rw [nxt_ch])
  rw [e1, sumTo_nxt (ch m) (fun j => g (k + j)), ch_gt (Nat.lt_succ_self m), Nat.zero_mul, Nat.add_zero, ← sumTo_add]
  exact sumTo_congr _ (fun j _ => by rw [Nat.mul_add, show k + 1 + j = k + (j + 1) by omega])
/-- The reference's sums of a double plan. -/
def fstW (N d n1 k : Nat) : Nat := ch n1 k * chZ (N - n1) ((d : Int) - (k : Int))
def tri (N d n1 n2 k j : Nat) : Nat := ch n1 k * ch n2 j * chZ (N - n1 - n2) ((d : Int) - (k : Int) - (j : Int))
def jN (n2 c2 k : Nat) : Nat := min n2 (c2 - k) + 1
def wayK (N d n1 c1 r1 n2 c2 k : Nat) : Nat := (if k ≤ c1 then fstW N d n1 k else 0) + (if c1 < k ∧ k < r1 then sumTo (fun j => tri N d n1 n2 k j) (jN n2 c2 k) else 0)
def pieK (N d n1 c1 r1 n2 k : Nat) : Nat := n1 * fstW N d n1 k + (if c1 < k ∧ k < r1 then n2 * fstW N d n1 k else 0)
section
variable {N d m c1 r1 n2 c2 : Nat}
theorem mrg_mid {i : Nat} (h2 : 1 ≤ n2) (h : i ≠ m) (h' : i ≠ m + n2) : mrgA (m + 1) c1 c2 (m + 1 + n2) i = -1 ∧ mrgR (m + 1) r1 c2 (m + 1 + n2) i = ((m + 1 + n2 : Nat) : Int) + 1 := by
  unfold mrgA mrgR
  rw [if_neg (by omega), if_neg (by omega), if_neg (by omega), if_neg (by omega)]; exact ⟨rfl, rfl⟩
theorem mrg_fst (h2 : 1 ≤ n2) : mrgA (m + 1) c1 c2 (m + 1 + n2) m = c1 ∧ mrgR (m + 1) r1 c2 (m + 1 + n2) m = r1 := by
  unfold mrgA mrgR
  rw [if_neg (show ¬ m = m + 1 + n2 - 1 by omega), if_neg (show ¬ m = m + 1 + n2 - 1 by omega), if_pos (show m = m + 1 - 1 by omega), if_pos (show m = m + 1 - 1 by omega)]; exact ⟨rfl, rfl⟩
theorem mrg_snd (h2 : 1 ≤ n2) : mrgA (m + 1) c1 c2 (m + 1 + n2) (m + n2) = c2 ∧ mrgR (m + 1) r1 c2 (m + 1 + n2) (m + n2) = (c2 : Int) + 1 := by
  unfold mrgA mrgR
  rw [if_pos (by omega), if_pos (by omega)]; exact ⟨rfl, rfl⟩
/-- No decision at i. -/
theorem opn_keep {i : Nat} (h2 : 1 ≤ n2) (h : i ≠ m) (h' : i ≠ m + n2) (hi : i < m + n2) (k : Nat) : opn (mrgA (m + 1) c1 c2 (m + 1 + n2)) (mrgR (m + 1) r1 c2 (m + 1 + n2)) (i + 1) k = nxt (opn (mrgA (m + 1) c1 c2 (m + 1 + n2)) (mrgR (m + 1) r1 c2 (m + 1 + n2)) i) k := by
  obtain ⟨e1, e2⟩ := mrg_mid (c1 := c1) (r1 := r1) (c2 := c2) h2 h h'
  rw [opn_succ, e1, e2]
  by_cases hk : m + 1 + n2 + 1 ≤ k
  · rw [if_pos (by omega), nxt_gt _ _ (by omega)]
  · rw [if_neg (by omega)]
theorem opn_lo (h2 : 1 ≤ n2) : ∀ i, i ≤ m → opn (mrgA (m + 1) c1 c2 (m + 1 + n2)) (mrgR (m + 1) r1 c2 (m + 1 + n2)) i = ch i
  | 0, _ => by funext k; cases k <;> simp [opn, ch]
  | i + 1, h => by
    funext k
    rw [opn_keep h2 (by omega) (by omega) (by omega), opn_lo h2 i (by omega), nxt_ch]
theorem opn_n1 (h2 : 1 ≤ n2) (k : Nat) : opn (mrgA (m + 1) c1 c2 (m + 1 + n2)) (mrgR (m + 1) r1 c2 (m + 1 + n2)) (m + 1) k = if c1 < k ∧ k < r1 then ch (m + 1) k else 0 := by
  obtain ⟨e1, e2⟩ := mrg_fst (m := m) (c1 := c1) (r1 := r1) (c2 := c2) h2
  rw [opn_succ, e1, e2, opn_lo h2 m (Nat.le_refl _), nxt_ch]
  by_cases hk : c1 < k ∧ k < r1
  · rw [if_neg (by omega), if_pos hk]
  · rw [if_pos (by omega), if_neg hk]
theorem yes_n1 (h2 : 1 ≤ n2) : yes N d (mrgA (m + 1) c1 c2 (m + 1 + n2)) (mrgR (m + 1) r1 c2 (m + 1 + n2)) m = sumTo (fun k => if k ≤ c1 then fstW N d (m + 1) k else 0) (m + 2) := by
  obtain ⟨e1, e2⟩ := mrg_fst (m := m) (c1 := c1) (r1 := r1) (c2 := c2) h2
  unfold yes
  have : ∀ j, yesTo N d (mrgA (m + 1) c1 c2 (m + 1 + n2)) (mrgR (m + 1) r1 c2 (m + 1 + n2)) m j = sumTo (fun k => if k ≤ c1 then fstW N d (m + 1) k else 0) j := fun j => by
    induction j with
    | zero => rfl
    | succ j ih =>
      rw [yesTo, ih, sumTo, e1]
      unfold wy fstW
      rw [opn_lo h2 m (Nat.le_refl _), nxt_ch]
      by_cases hk : j ≤ c1
      · rw [if_pos (by omega), if_pos hk]
      · rw [if_neg (by omega), if_neg hk]
  exact this _
/-- What the second sample accepts. -/
def gz (N d L c2 k : Nat) : Nat := if k ≤ c2 then wl N d L k else 0
theorem mid_same (h2 : 1 ≤ n2) (W : Nat → Nat → Nat) (hr : ∀ i, m + 1 ≤ i → i < m + 1 + n2 → ∀ k, W i k = W (i + 1) k + W (i + 1) (k + 1)) : ∀ p, p < n2 →
    sumTo (fun k => opn (mrgA (m + 1) c1 c2 (m + 1 + n2)) (mrgR (m + 1) r1 c2 (m + 1 + n2)) (m + 1) k * W (m + 1) k) (m + 2) = sumTo (fun k => opn (mrgA (m + 1) c1 c2 (m + 1 + n2)) (mrgR (m + 1) r1 c2 (m + 1 + n2)) (m + 1 + p) k * W (m + 1 + p) k) (m + 1 + p + 1)
  | 0, _ => rfl
  | p + 1, h => by
    rw [mid_same h2 W hr p (by omega), step_any W (hr (m + 1 + p) (by omega) (by omega))]
    refine sumTo_congr _ (fun k _ => ?_)
    rw [← opn_keep h2 (by omega) (by omega) (by omega)]; rfl
theorem yes_L (h2 : 1 ≤ n2) : yes N d (mrgA (m + 1) c1 c2 (m + 1 + n2)) (mrgR (m + 1) r1 c2 (m + 1 + n2)) (m + n2) = sumTo (fun k => opn (mrgA (m + 1) c1 c2 (m + 1 + n2)) (mrgR (m + 1) r1 c2 (m + 1 + n2)) (m + 1) k * vz (gz N d (m + 1 + n2) c2) n2 k) (m + 2) := by
  obtain ⟨q, rfl⟩ : ∃ q, n2 = q + 1 := ⟨n2 - 1, by omega⟩
  have hr : ∀ i, m + 1 ≤ i → i < m + 1 + (q + 1) → ∀ k, vz (gz N d (m + 1 + (q + 1)) c2) (m + 1 + (q + 1) - i) k = vz (gz N d (m + 1 + (q + 1)) c2) (m + 1 + (q + 1) - (i + 1)) k + vz (gz N d (m + 1 + (q + 1)) c2) (m + 1 + (q + 1) - (i + 1)) (k + 1) := fun i h1 h3 k => by
    rw [show m + 1 + (q + 1) - i = m + 1 + (q + 1) - (i + 1) + 1 by omega, vz_rec]
  have h := mid_same (c1 := c1) (r1 := r1) (c2 := c2) h2 (fun i k => vz (gz N d (m + 1 + (q + 1)) c2) (m + 1 + (q + 1) - i) k) hr q (by omega)
  have h3 := step_any (A := mrgA (m + 1) c1 c2 (m + 1 + (q + 1))) (R := mrgR (m + 1) r1 c2 (m + 1 + (q + 1))) (fun i k => vz (gz N d (m + 1 + (q + 1)) c2) (m + 1 + (q + 1) - i) k) (i := m + 1 + q) (hr (m + 1 + q) (by omega) (by omega))
  rw [h3] at h
  rw [show m + 1 + (q + 1) - (m + 1) = q + 1 by omega] at h
  rw [h]
  unfold yes
  obtain ⟨e1, e2⟩ := mrg_snd (m := m) (c1 := c1) (r1 := r1) (c2 := c2) h2
  have : ∀ j, yesTo N d (mrgA (m + 1) c1 c2 (m + 1 + (q + 1))) (mrgR (m + 1) r1 c2 (m + 1 + (q + 1))) (m + (q + 1)) j = sumTo (fun k => nxt (opn (mrgA (m + 1) c1 c2 (m + 1 + (q + 1))) (mrgR (m + 1) r1 c2 (m + 1 + (q + 1))) (m + 1 + q)) k * vz (gz N d (m + 1 + (q + 1)) c2) (m + 1 + (q + 1) - (m + 1 + q + 1)) k) j := fun j => by
    induction j with
    | zero => rfl
    | succ j ih =>
      rw [yesTo, ih, sumTo, e1]
      unfold wy
      rw [show m + 1 + (q + 1) - (m + 1 + q + 1) = 0 by omega, vz_zero, wl_chZ, show m + (q + 1) = m + 1 + q by omega]
      have eg : gz N d (m + 1 + (q + 1)) c2 j = if j ≤ c2 then wl N d (m + 1 + (q + 1)) j else 0 := rfl
      rw [eg]
      by_cases hk : j ≤ c2
      · rw [if_pos (by omega), if_pos hk]; rfl
      · rw [if_neg (by omega), if_neg hk, Nat.mul_zero]
  rw [this]
  rw [show m + (q + 1) + 2 = m + 1 + q + 2 by omega]
theorem inner_eq {k : Nat} (h : k ≤ c2) : ch (m + 1) k * vz (gz N d (m + 1 + n2) c2) n2 k = sumTo (fun j => tri N d (m + 1) n2 k j) (jN n2 c2 k) := by
  unfold vz
  rw [← sumTo_mul, sumTo_cut (J := jN n2 c2 k) (n2 + 1) (by unfold jN; omega) (fun j h1 h3 => by unfold jN at h1; unfold gz; rw [if_neg (by omega)]; simp)]
  refine sumTo_congr _ (fun j hj => ?_)
  unfold jN at hj
  unfold gz tri
  rw [if_pos (by omega), ← wl_chZ, Nat.mul_assoc, show N - (m + 1) - n2 = N - (m + 1 + n2) by omega, show ((d : Int) - ((k + j : Nat) : Int)) = (d : Int) - (k : Int) - (j : Int) by omega]
theorem yes_else {i : Nat} (h2 : 1 ≤ n2) (hi : i < m + n2) (hm : i ≠ m) : yes N d (mrgA (m + 1) c1 c2 (m + 1 + n2)) (mrgR (m + 1) r1 c2 (m + 1 + n2)) i = 0 ∧ no N d (mrgA (m + 1) c1 c2 (m + 1 + n2)) (mrgR (m + 1) r1 c2 (m + 1 + n2)) i = 0 := by
  obtain ⟨e1, e2⟩ := mrg_mid (m := m) (c1 := c1) (r1 := r1) (c2 := c2) h2 hm (show i ≠ m + n2 by omega)
  have k1 : ∀ j, yesTo N d (mrgA (m + 1) c1 c2 (m + 1 + n2)) (mrgR (m + 1) r1 c2 (m + 1 + n2)) i j = 0 := fun j => by
    induction j with
    | zero => rfl
    | succ j ih => rw [yesTo, ih, if_neg (by rw [e1]; omega)]
  have k2 : ∀ j, j ≤ i + 2 → noTo N d (mrgA (m + 1) c1 c2 (m + 1 + n2)) (mrgR (m + 1) r1 c2 (m + 1 + n2)) i j = 0 := fun j => by
    induction j with
    | zero => intro _; rfl
    | succ j ih => intro hj; rw [noTo, ih (by omega), if_neg (by rw [e1]; omega), if_neg (by rw [e2]; omega)]
  exact ⟨k1 _, k2 _ (Nat.le_refl _)⟩
theorem dbl_ways' (h36 : N ≤ 36) (h2 : 1 ≤ n2) (hL : m + 1 + n2 ≤ N) (k4 : r1 ≤ c2 + 1) :
    sumTo (wayK N d (m + 1) c1 r1 n2 c2) (m + 2) = accAll N d (mrgA (m + 1) c1 c2 (m + 1 + n2)) (mrgR (m + 1) r1 c2 (m + 1 + n2)) (m + 1 + n2) := by
  have hz : ∀ i, i < m + n2 → i ≠ m → yes N d (mrgA (m + 1) c1 c2 (m + n2 + 1)) (mrgR (m + 1) r1 c2 (m + n2 + 1)) i = 0 := fun i h1 h3 => by
    have := yes_else (N := N) (d := d) (c1 := c1) (r1 := r1) (c2 := c2) h2 h1 h3
    rw [show m + 1 + n2 = m + n2 + 1 by omega] at this; exact this.1
  rw [accAll_eq hL h36, show m + 1 + n2 = m + n2 + 1 by omega, sumTo_two (f := fun i => yes N d (mrgA (m + 1) c1 c2 (m + n2 + 1)) (mrgR (m + 1) r1 c2 (m + n2 + 1)) i) (p := m) (q := m + n2) (by omega) hz]
  have y1 := yes_n1 (N := N) (d := d) (m := m) (c1 := c1) (r1 := r1) (c2 := c2) h2
  have y2 := yes_L (N := N) (d := d) (m := m) (c1 := c1) (r1 := r1) (c2 := c2) h2
  rw [show m + 1 + n2 = m + n2 + 1 by omega] at y1 y2
  rw [y1, y2, ← sumTo_add]
  refine sumTo_congr _ (fun k hk => ?_)
  unfold wayK
  congr 1
  have o := opn_n1 (m := m) (c1 := c1) (r1 := r1) (c2 := c2) h2 k
  rw [show m + 1 + n2 = m + n2 + 1 by omega] at o
  rw [o]
  by_cases h : c1 < k ∧ k < r1
  · rw [if_pos h, if_pos h, ← inner_eq (show k ≤ c2 by omega), show m + 1 + n2 = m + n2 + 1 by omega]
  · rw [if_neg h, if_neg h, Nat.zero_mul]
theorem fst_sum (hd : d ≤ N) (hn : m + 1 ≤ N) : sumTo (fstW N d (m + 1)) (m + 2) = ch N d := by
  have e : ∀ c, sumTo (fstW N d (m + 1)) c = acc (m + 1) (N - (m + 1)) d c := fun c => by
    induction c with
    | zero => rfl
    | succ c ih => rw [sumTo, ih, acc_succ, ← chZ_tm]; rfl
  rw [e, acc_all _ _ _ _ (by omega), show m + 1 + (N - (m + 1)) = N by omega]
theorem dbl_pieces' (h36 : N ≤ 36) (hd : d ≤ N) (h2 : 1 ≤ n2) (hL : m + 1 + n2 ≤ N) :
    sumTo (pieK N d (m + 1) c1 r1 n2) (m + 2) = exAll N d (mrgA (m + 1) c1 c2 (m + 1 + n2)) (mrgR (m + 1) r1 c2 (m + 1 + n2)) (m + 1 + n2) := by
  have hall := mrg_all (N := N) (d := d) (n1 := m + 1) (c1 := c1) (r1 := r1) (c2 := c2) hd h2 hL
  have hmid := total_all (N := N) (d := d) (A := mrgA (m + 1) c1 c2 (m + 1 + n2)) (R := mrgR (m + 1) r1 c2 (m + 1 + n2)) hd (m + 1) (by omega)
  rw [exAll_eq hL h36]
  have hz : ∀ i, i < m + n2 → i ≠ m → yes N d (mrgA (m + 1) c1 c2 (m + 1 + n2)) (mrgR (m + 1) r1 c2 (m + 1 + n2)) i + no N d (mrgA (m + 1) c1 c2 (m + 1 + n2)) (mrgR (m + 1) r1 c2 (m + 1 + n2)) i = 0 := fun i h1 h3 => by
    obtain ⟨a, b⟩ := yes_else (N := N) (d := d) (c1 := c1) (r1 := r1) (c2 := c2) h2 h1 h3
    rw [a, b]
  have hmu : sumTo (fun k => opn (mrgA (m + 1) c1 c2 (m + 1 + n2)) (mrgR (m + 1) r1 c2 (m + 1 + n2)) (m + 1) k * wl N d (m + 1) k) (m + 1 + 1) = sumTo (fun k => if c1 < k ∧ k < r1 then fstW N d (m + 1) k else 0) (m + 2) :=
    sumTo_congr _ (fun k _ => by
      rw [opn_n1 h2, ← wl_chZ]
      by_cases h : c1 < k ∧ k < r1
      · rw [if_pos h, if_pos h]; rfl
      · rw [if_neg h, if_neg h, Nat.zero_mul])
  rw [hmu] at hmid
  generalize hF : (fun i => yes N d (mrgA (m + 1) c1 c2 (m + 1 + n2)) (mrgR (m + 1) r1 c2 (m + 1 + n2)) i + no N d (mrgA (m + 1) c1 c2 (m + 1 + n2)) (mrgR (m + 1) r1 c2 (m + 1 + n2)) i) = F at *
  have hF' : ∀ i, yes N d (mrgA (m + 1) c1 c2 (m + 1 + n2)) (mrgR (m + 1) r1 c2 (m + 1 + n2)) i + no N d (mrgA (m + 1) c1 c2 (m + 1 + n2)) (mrgR (m + 1) r1 c2 (m + 1 + n2)) i = F i := fun i => by rw [← hF]
  have e1 : sumTo (fun i => (i + 1) * (yes N d (mrgA (m + 1) c1 c2 (m + 1 + n2)) (mrgR (m + 1) r1 c2 (m + 1 + n2)) i + no N d (mrgA (m + 1) c1 c2 (m + 1 + n2)) (mrgR (m + 1) r1 c2 (m + 1 + n2)) i)) (m + 1 + n2) = (m + 1) * F m + (m + n2 + 1) * F (m + n2) := by
    have e0 : sumTo (fun i => (i + 1) * (yes N d (mrgA (m + 1) c1 c2 (m + 1 + n2)) (mrgR (m + 1) r1 c2 (m + 1 + n2)) i + no N d (mrgA (m + 1) c1 c2 (m + 1 + n2)) (mrgR (m + 1) r1 c2 (m + 1 + n2)) i)) (m + 1 + n2) = sumTo (fun i => (i + 1) * F i) (m + n2 + 1) := by
      rw [show m + n2 + 1 = m + 1 + n2 by omega]
      exact sumTo_congr _ (fun i _ => by rw [hF'])
    rw [e0, sumTo_two (f := fun i => (i + 1) * F i) (p := m) (q := m + n2) (by omega) (fun i h1 h3 => by
      show (i + 1) * F i = 0
      rw [← hF' i, hz i h1 h3, Nat.mul_zero])]
  have hz' : ∀ i, i < m + n2 → i ≠ m → F i = 0 := fun i h1 h3 => by rw [← hF']; exact hz i h1 h3
  have e2 : F m + F (m + n2) = ch N d := by
    rw [← hall, show m + 1 + n2 = m + n2 + 1 by omega, sumTo_two (p := m) (by omega) hz']
  have e3 : sumTo F (m + 1) = F m := by
    rw [sumTo, sumTo_zero m (fun k hk => hz' k (by omega) (by omega))]; omega
  rw [e3] at hmid
  rw [e1]
  have e4 : sumTo (pieK N d (m + 1) c1 r1 n2) (m + 2) = (m + 1) * sumTo (fstW N d (m + 1)) (m + 2) + n2 * sumTo (fun k => if c1 < k ∧ k < r1 then fstW N d (m + 1) k else 0) (m + 2) := by
    rw [← sumTo_mul, ← sumTo_mul, ← sumTo_add]
    refine sumTo_congr _ (fun k _ => ?_)
    unfold pieK
    by_cases h : c1 < k ∧ k < r1
    · rw [if_pos h, if_pos h]
    · rw [if_neg h, if_neg h, Nat.mul_zero]
  rw [e4, fst_sum hd (by omega)]
  generalize sumTo (fun k => if c1 < k ∧ k < r1 then fstW N d (m + 1) k else 0) (m + 2) = M at *
  have e5 : F (m + n2) = M := by omega
  have e6 : (m + n2 + 1) * M = (m + 1) * M + n2 * M := by rw [← Nat.add_mul]; congr 1; omega
  rw [← e2, e5, e6, Nat.mul_add]
  omega
end
section
variable {N d n1 c1 r1 n2 c2 : Nat}
theorem dbl_ways (h36 : N ≤ 36) (h1 : 1 ≤ n1) (h2 : 1 ≤ n2) (hL : n1 + n2 ≤ N) (k4 : r1 ≤ c2 + 1) :
    sumTo (wayK N d n1 c1 r1 n2 c2) (n1 + 1) = accAll N d (mrgA n1 c1 c2 (n1 + n2)) (mrgR n1 r1 c2 (n1 + n2)) (n1 + n2) := by
  obtain ⟨m, rfl⟩ : ∃ m, n1 = m + 1 := ⟨n1 - 1, by omega⟩
  exact dbl_ways' h36 h2 hL k4
theorem dbl_pieces (h36 : N ≤ 36) (hd : d ≤ N) (h1 : 1 ≤ n1) (h2 : 1 ≤ n2) (hL : n1 + n2 ≤ N) :
    sumTo (pieK N d n1 c1 r1 n2) (n1 + 1) = exAll N d (mrgA n1 c1 c2 (n1 + n2)) (mrgR n1 r1 c2 (n1 + n2)) (n1 + n2) := by
  obtain ⟨m, rfl⟩ : ∃ m, n1 = m + 1 := ⟨n1 - 1, by omega⟩
  exact dbl_pieces' h36 hd h2 hL
end
end Go.Sample
set_option linter.unusedSimpArgs false
set_option linter.unusedVariables false
namespace Go.Proofs.Ytbmfipjnfbnjgaa
open Go Go.Proofs Go.RowKit Go.Sample Go.Seq
/-- A block of five numbers. -/
def FiveAt (W : World) (b : Nat) (t : TypeId) (a0 a1 a2 a3 a4 : Int) : Prop := W.heap[b]? = some (.cells #[.int .i64 a0, .int .i64 a1, .int .i64 a2, .int .i64 a3, .int .i64 a4] t (0, 0))
theorem FiveAt.new (w : World) (t : TypeId) (a0 a1 a2 a3 a4 : Int) : FiveAt (w.alloc (.cells #[.int .i64 a0, .int .i64 a1, .int .i64 a2, .int .i64 a3, .int .i64 a4] t)) w.heap.size t a0 a1 a2 a3 a4 := World.alloc_heap_new w _
theorem FiveAt.lt {W : World} {b : Nat} {t : TypeId} {a0 a1 a2 a3 a4 : Int} (h : FiveAt W b t a0 a1 a2 a3 a4) : b < W.heap.size := (Array.getElem?_eq_some_iff.1 h).1
theorem FiveAt.after {W W' : World} {b : Nat} {t : TypeId} {a0 a1 a2 a3 a4 : Int} (h : FiveAt W b t a0 a1 a2 a3 a4) (hb : Below W.heap.size W W') : FiveAt W' b t a0 a1 a2 a3 a4 := (hb.block b h.lt).trans h
theorem FiveAt.at_ {W : World} {b : Nat} {t : TypeId} {a0 a1 a2 a3 a4 : Int} (h : FiveAt W b t a0 a1 a2 a3 a4) : W.cell? ⟨b, 0, none⟩ = some (.int .i64 a0) ∧ W.cell? ⟨b, 1, none⟩ = some (.int .i64 a1) ∧ W.cell? ⟨b, 2, none⟩ = some (.int .i64 a2) ∧ W.cell? ⟨b, 3, none⟩ = some (.int .i64 a3) ∧ W.cell? ⟨b, 4, none⟩ = some (.int .i64 a4) ∧ W.frozen? ⟨b, 0, none⟩ = false ∧ W.frozen? ⟨b, 1, none⟩ = false ∧ W.frozen? ⟨b, 2, none⟩ = false ∧ W.frozen? ⟨b, 3, none⟩ = false ∧ W.frozen? ⟨b, 4, none⟩ = false := by
  unfold FiveAt at h
  refine ⟨?_, ?_, ?_, ?_, ?_, ?_, ?_, ?_, ?_, ?_⟩ <;> simp [World.cell?, World.frozen?, h]
theorem below_set5 {B : Nat} {w W : World} {g : Nat} (h : Below B w W) (hg : B ≤ g) (u0 u1 u2 u3 u4 : Value) : Below B w (((((W.setCell ⟨g, 0, none⟩ u0).setCell ⟨g, 1, none⟩ u1).setCell ⟨g, 2, none⟩ u2).setCell ⟨g, 3, none⟩ u3).setCell ⟨g, 4, none⟩ u4) :=
  ((((h.setCell (p := ⟨g, 0, none⟩) hg _).setCell (p := ⟨g, 1, none⟩) hg _).setCell (p := ⟨g, 2, none⟩) hg _).setCell (p := ⟨g, 3, none⟩) hg _).setCell (p := ⟨g, 4, none⟩) hg _
theorem below_new {w W : World} (h : Below w.heap.size w W) (o : Obj) : Below w.heap.size w (W.alloc o) := h.alloc h.size _
def PlanTw (N a0 a1 a2 a3 a4 : Int) : Prop := 1 ≤ N ∧ N ≤ 36 ∧ TwOk N a0 a1 a2 a3 a4
set_option maxHeartbeats 2000000 in
set_option maxRecDepth 100000 in
theorem readDouble_no {N a0 a1 a2 a3 a4 : Int} (hno : ¬ PlanTw N a0 a1 a2 a3 a4) (w : World) :
    Calls Try.prog 57 #[.int .i64 N, twV a0 a1 a2 a3 a4] w fun e w' => e = .returned (.tuple #[.pointer none, twV 0 0 0 0 0, .bool false]) ∧ Below w.heap.size w w' := by
  have f3 := FiveAt.new w 37 a0 a1 a2 a3 a4
  obtain ⟨wa, hwa⟩ : ∃ wa, w.alloc (.cells #[.int .i64 a0, .int .i64 a1, .int .i64 a2, .int .i64 a3, .int .i64 a4] 37) = wa := ⟨_, rfl⟩
  obtain ⟨wb, hwb⟩ : ∃ wb, wa.alloc (.cells #[.int .i64 0, .int .i64 0, .int .i64 0, .int .i64 0, .int .i64 0] 102) = wb := ⟨_, rfl⟩
  rw [hwa] at f3
  have sa : wa.heap.size = w.heap.size + 1 := by rw [← hwa]; simp
  have ba : Below w.heap.size w wa := by rw [← hwa]; exact (Below.refl _ _).alloc (Nat.le_refl _) _
  have bb : Below wa.heap.size wa wb := by rw [← hwb]; exact (Below.refl _ _).alloc (Nat.le_refl _) _
  have f5 : FiveAt wb (w.heap.size + 1) 102 0 0 0 0 0 := by rw [← sa, ← hwb]; exact FiveAt.new wa 102 0 0 0 0 0
  have f3 := f3.after bb
  have bw := ba.trans (bb.mono (by omega))
  have hwab : (w.alloc (.cells #[.int .i64 a0, .int .i64 a1, .int .i64 a2, .int .i64 a3, .int .i64 a4] 37)).alloc (.cells #[.int .i64 0, .int .i64 0, .int .i64 0, .int .i64 0, .int .i64 0] 102) = wb := by rw [hwa, hwb]
  clear hwa hwb sa ba bb
  unfold twV
  by_cases hlot : N < 1 ∨ 36 < N
  · have hr := fun w => (readLot_no hlot w).mono (R' := fun e w' => e = .returned (.tuple #[.pointer none, .bool false]) ∧ Below w.heap.size w w') (fun e w' ⟨h1, h2⟩ => ⟨h1, by rw [h2]; exact Below.refl _ _⟩)
    clear hlot hno
    go_enter Try.func57, Try.ntmps57
    go_wp2_with (first
      | (go_at_call 62; refine (hr _).mono ?_; rintro e w5 ⟨rfl, hb5⟩
         have f3 := f3.after hb5
         have f5 := f5.after hb5
         have bw := bw.trans (hb5.mono bw.size)
         obtain ⟨x0, x1, x2, x3, x4, _⟩ := f3.at_
         obtain ⟨w6, hw6⟩ : ∃ w6, w5.alloc (.cells #[.int .i64 a0, .int .i64 a1, .int .i64 a2, .int .i64 a3, .int .i64 a4] 102) = w6 := ⟨_, rfl⟩
         have b6 : Below w5.heap.size w5 w6 := by rw [← hw6]; exact (Below.refl _ _).alloc (Nat.le_refl _) _
         have f5 := f5.after b6
         have bw := bw.trans (b6.mono bw.size)
         obtain ⟨s0, s1, s2, s3, s4, u0, u1, u2, u3, u4⟩ := f5.at_
         clear hb5 b6 hr f3))
    refine bodyPost_ret (v := .tuple #[.pointer none, .agg #[.int .i64 0, .int .i64 0, .int .i64 0, .int .i64 0, .int .i64 0], .bool false]) (by simp [results, Try.results57, go_sem]; try go_simp) rfl ?_
    exact ⟨rfl, below_set5 bw (by omega) _ _ _ _ _⟩
  · obtain ⟨N', rfl⟩ : ∃ N' : Nat, N = (N' : Int) := ⟨N.toNat, by omega⟩
    have hr := fun w => readLot_any (N := N') (by omega) (by omega) w
    have hD : decide (TwOk N' a0 a1 a2 a3 a4) = false := decide_eq_false (fun h => hno ⟨by omega, by omega, h⟩)
    have q71 := fun w => isFor_any (N := (N' : Int)) (n1 := a0) (c1 := a1) (r1 := a2) (n2 := a3) (c2 := a4) ⟨by omega, by omega⟩ w
    rw [hD] at q71
    unfold twV at q71
    clear hlot hno hD
    go_enter Try.func57, Try.ntmps57
    go_wp2_with (first
      | (go_at_call 62; refine (hr _).mono ?_; rintro e w5 ⟨rfl, hb5, _⟩
         have f3 := f3.after hb5
         have f5 := f5.after hb5
         have bw := bw.trans (hb5.mono bw.size)
         obtain ⟨x0, x1, x2, x3, x4, _⟩ := f3.at_
         obtain ⟨w6, hw6⟩ : ∃ w6, w5.alloc (.cells #[.int .i64 a0, .int .i64 a1, .int .i64 a2, .int .i64 a3, .int .i64 a4] 102) = w6 := ⟨_, rfl⟩
         have b6 : Below w5.heap.size w5 w6 := by rw [← hw6]; exact (Below.refl _ _).alloc (Nat.le_refl _) _
         have f9 : FiveAt w6 w5.heap.size 102 a0 a1 a2 a3 a4 := by rw [← hw6]; exact FiveAt.new w5 102 a0 a1 a2 a3 a4
         have f5 := f5.after b6
         have bw := bw.trans (b6.mono bw.size)
         obtain ⟨y0, y1, y2, y3, y4, z0, z1, z2, z3, z4⟩ := f9.at_
         clear hb5 b6 hr f3)
      | (go_at_call 71; (with_reducible refine (q71 _).mono ?_); rintro e w7 ⟨rfl, hb7⟩
         have f5 := f5.after hb7
         have bw := bw.trans (hb7.mono bw.size)
         obtain ⟨s0, s1, s2, s3, s4, u0, u1, u2, u3, u4⟩ := f5.at_
         clear hb7 q71))
    refine bodyPost_ret (v := .tuple #[.pointer none, .agg #[.int .i64 0, .int .i64 0, .int .i64 0, .int .i64 0, .int .i64 0], .bool false]) (by simp [results, Try.results57, go_sem]; try go_simp) rfl ?_
    exact ⟨rfl, below_set5 bw (by omega) _ _ _ _ _⟩
set_option maxHeartbeats 2000000 in
set_option maxRecDepth 100000 in
theorem merge_no {N a0 a1 a2 a3 a4 : Int} (hno : ¬ PlanTw N a0 a1 a2 a3 a4) (w : World) :
    Calls Try.prog 26 #[.int .i64 N, twV a0 a1 a2 a3 a4] w fun e w' => e = .returned (.tuple #[.agg #[.slice none 0 0, .slice none 0 0], .int .i64 2]) ∧ Below w.heap.size w w' := by
  have q57 := fun w => readDouble_no hno w
  have f3 := FiveAt.new w 37 a0 a1 a2 a3 a4
  obtain ⟨wa, hwa⟩ : ∃ wa, w.alloc (.cells #[.int .i64 a0, .int .i64 a1, .int .i64 a2, .int .i64 a3, .int .i64 a4] 37) = wa := ⟨_, rfl⟩
  obtain ⟨wb, hwb⟩ : ∃ wb, wa.alloc (.cells #[.slice none 0 0, .slice none 0 0] 42) = wb := ⟨_, rfl⟩
  rw [hwa] at f3
  have sa : wa.heap.size = w.heap.size + 1 := by rw [← hwa]; simp
  have ba : Below w.heap.size w wa := by rw [← hwa]; exact (Below.refl _ _).alloc (Nat.le_refl _) _
  have bb : Below wa.heap.size wa wb := by rw [← hwb]; exact (Below.refl _ _).alloc (Nat.le_refl _) _
  have o4 : Own2 wb (w.heap.size + 1) (.slice none 0 0) (.slice none 0 0) := by rw [← sa, ← hwb]; exact Own2.new _ _ _ _
  have f3 := f3.after bb
  have bw := ba.trans (bb.mono (by omega))
  have hwab : (w.alloc (.cells #[.int .i64 a0, .int .i64 a1, .int .i64 a2, .int .i64 a3, .int .i64 a4] 37)).alloc (.cells #[.slice none 0 0, .slice none 0 0] 42) = wb := by rw [hwa, hwb]
  clear hwa hwb sa ba bb hno
  obtain ⟨x0, x1, x2, x3, x4, _⟩ := f3.at_
  unfold twV at *
  go_enter Try.func26, Try.ntmps26
  go_wp2_with (first
    | (go_at_call 57; (with_reducible refine (q57 _).mono ?_); rintro e w5 ⟨rfl, hb5⟩
       have o4 := o4.after hb5
       have bw := bw.trans (hb5.mono bw.size)
       have l4 := o4.lt
       obtain ⟨s0, s1, s2, s3⟩ := id o4
       clear hb5 q57 f3))
  refine bodyPost_ret (v := .tuple #[.agg #[.slice none 0 0, .slice none 0 0], .int .i64 2]) (by simp [results, Try.results26, go_sem]; try go_simp) rfl ?_
  exact ⟨rfl, below_new ((bw.setCell (p := ⟨w.heap.size + 1, 0, none⟩) (by simp) _).setCell (p := ⟨w.heap.size + 1, 1, none⟩) (by simp) _) _⟩
theorem below_set2 {B : Nat} {w W : World} {g h : Nat} (hb : Below B w W) (hg : B ≤ g) (hh : B ≤ h) (u0 u1 u2 u3 : Value) : Below B w ((((W.setCell ⟨g, 0, none⟩ u0).setCell ⟨g, 1, none⟩ u1).setCell ⟨h, 0, none⟩ u2).setCell ⟨h, 1, none⟩ u3) :=
  (((hb.setCell (p := ⟨g, 0, none⟩) hg _).setCell (p := ⟨g, 1, none⟩) hg _).setCell (p := ⟨h, 0, none⟩) hh _).setCell (p := ⟨h, 1, none⟩) hh _
set_option maxHeartbeats 2000000 in
set_option maxRecDepth 100000 in
theorem double_no {N z a0 a1 a2 a3 a4 : Int} (hz : In64 z) (hno : ¬ (PlanTw N a0 a1 a2 a3 a4 ∧ 0 ≤ z ∧ z ≤ N)) (w : World) :
    Calls Try.prog 25 #[.int .i64 N, .int .i64 z, twV a0 a1 a2 a3 a4] w fun e w' => e = .returned (.tuple #[fracV 0 0, fracV 0 0, .int .i64 2]) ∧ Below w.heap.size w w' := by
  have f3 := FiveAt.new w 37 a0 a1 a2 a3 a4
  obtain ⟨wa, hwa⟩ : ∃ wa, w.alloc (.cells #[.int .i64 a0, .int .i64 a1, .int .i64 a2, .int .i64 a3, .int .i64 a4] 37) = wa := ⟨_, rfl⟩
  obtain ⟨wb, hwb⟩ : ∃ wb, wa.alloc (.cells #[.int .i64 0, .int .i64 0] 27) = wb := ⟨_, rfl⟩
  obtain ⟨wc, hwc⟩ : ∃ wc, wb.alloc (.cells #[.int .i64 0, .int .i64 0] 27) = wc := ⟨_, rfl⟩
  rw [hwa] at f3
  have sa : wa.heap.size = w.heap.size + 1 := by rw [← hwa]; simp
  have sb : wb.heap.size = w.heap.size + 1 + 1 := by rw [← hwb]; simp [sa]
  have ba : Below w.heap.size w wa := by rw [← hwa]; exact (Below.refl _ _).alloc (Nat.le_refl _) _
  have bb : Below wa.heap.size wa wb := by rw [← hwb]; exact (Below.refl _ _).alloc (Nat.le_refl _) _
  have bc : Below wb.heap.size wb wc := by rw [← hwc]; exact (Below.refl _ _).alloc (Nat.le_refl _) _
  have o6 : Own2 wc (w.heap.size + 1) (.int .i64 0) (.int .i64 0) := by
    have : Own2 wb (w.heap.size + 1) (.int .i64 0) (.int .i64 0) := by rw [← sa, ← hwb]; exact Own2.new _ _ _ _
    exact this.after bc
  have o7 : Own2 wc (w.heap.size + 1 + 1) (.int .i64 0) (.int .i64 0) := by rw [← sb, ← hwc]; exact Own2.new _ _ _ _
  have f3 := (f3.after bb).after bc
  have bw := (ba.trans (bb.mono (by omega))).trans (bc.mono (by omega))
  have hwab : ((w.alloc (.cells #[.int .i64 a0, .int .i64 a1, .int .i64 a2, .int .i64 a3, .int .i64 a4] 37)).alloc (.cells #[.int .i64 0, .int .i64 0] 27)).alloc (.cells #[.int .i64 0, .int .i64 0] 27) = wc := by rw [hwa, hwb, hwc]
  clear hwa hwb hwc sa sb ba bb bc
  obtain ⟨x0, x1, x2, x3, x4, _⟩ := f3.at_
  by_cases hp : PlanTw N a0 a1 a2 a3 a4
  · obtain ⟨p1, p2, p3⟩ := id hp
    obtain ⟨N', rfl⟩ : ∃ k : Nat, N = (k : Int) := ⟨N.toNat, by omega⟩
    unfold TwOk at p3
    obtain ⟨n1, rfl⟩ : ∃ k : Nat, a0 = (k : Int) := ⟨a0.toNat, by omega⟩
    obtain ⟨c1, rfl⟩ : ∃ k : Nat, a1 = (k : Int) := ⟨a1.toNat, by omega⟩
    obtain ⟨r1, rfl⟩ : ∃ k : Nat, a2 = (k : Int) := ⟨a2.toNat, by omega⟩
    obtain ⟨n2, rfl⟩ : ∃ k : Nat, a3 = (k : Int) := ⟨a3.toNat, by omega⟩
    obtain ⟨c2, rfl⟩ : ∃ k : Nat, a4 = (k : Int) := ⟨a4.toNat, by omega⟩
    have q57 := fun w => readDouble_any (N := N') (n1 := n1) (c1 := c1) (r1 := r1) (n2 := n2) (c2 := c2) (by omega) (by omega) hp.2.2 w
    have q54 := fun W b (h : Pieces W b N') => has_any (z := z) h hz
    simp only [show decide ((0 : Int) ≤ z ∧ z ≤ (N' : Int)) = false from decide_eq_false (fun h => hno ⟨hp, h⟩)] at q54
    clear hp hno p1 p2 p3
    unfold twV fracV at *
    go_enter Try.func25, Try.ntmps25
    go_wp2_with (first
      | (go_at_call 57; (with_reducible refine (q57 _).mono ?_); rintro e w5 ⟨b, rfl, hb5, hP5⟩
         have o6 := o6.after hb5
         have o7 := o7.after hb5
         have bw := bw.trans (hb5.mono bw.size)
         obtain ⟨w6, hw6⟩ : ∃ w6, w5.alloc (.cells #[.int .i64 n1, .int .i64 c1, .int .i64 r1, .int .i64 n2, .int .i64 c2] 102) = w6 := ⟨_, rfl⟩
         have b6 : Below w5.heap.size w5 w6 := by rw [← hw6]; exact (Below.refl _ _).alloc (Nat.le_refl _) _
         have o6 := o6.after b6
         have o7 := o7.after b6
         have hP6 := hP5.below b6 hP5.lt
         have bw := bw.trans (b6.mono bw.size)
         obtain ⟨s0, s1, s2, s3⟩ := id o6
         obtain ⟨t0, t1, t2, t3⟩ := id o7
         clear hb5 b6 q57 f3 hP5)
      | (go_at_call 54; refine (q54 _ _ hP6).mono ?_; rintro e w9 ⟨rfl, rfl⟩))
    refine bodyPost_ret (v := .tuple #[.agg #[.int .i64 0, .int .i64 0], .agg #[.int .i64 0, .int .i64 0], .int .i64 2]) (by simp [results, Try.results25, go_sem]; try go_simp) rfl ?_
    exact ⟨rfl, below_set2 bw (by omega) (by omega) _ _ _ _⟩
  · have q57 := fun w => readDouble_no hp w
    clear hp hno
    unfold twV fracV at *
    go_enter Try.func25, Try.ntmps25
    go_wp2_with (first
      | (go_at_call 57; (with_reducible refine (q57 _).mono ?_); rintro e w5 ⟨rfl, hb5⟩
         have o6 := o6.after hb5
         have o7 := o7.after hb5
         have bw := bw.trans (hb5.mono bw.size)
         have l6 := o6.lt
         have l7 := o7.lt
         obtain ⟨s0, s1, s2, s3⟩ := id o6
         obtain ⟨t0, t1, t2, t3⟩ := id o7
         clear hb5 q57 f3))
    refine bodyPost_ret (v := .tuple #[.agg #[.int .i64 0, .int .i64 0], .agg #[.int .i64 0, .int .i64 0], .int .i64 2]) (by simp [results, Try.results25, go_sem]; try go_simp) rfl ?_
    exact ⟨rfl, below_new (below_set2 bw (by omega) (by omega) _ _ _ _) _⟩
end Go.Proofs.Ytbmfipjnfbnjgaa
set_option linter.unusedSimpArgs false
set_option linter.unusedVariables false
namespace Go.Proofs.Ytbmfipjnfbnjgaa
open Go Go.Proofs Go.RowKit Go.Sample Go.Seq
set_option maxHeartbeats 1000000 in
set_option maxRecDepth 100000 in
theorem refTwice_any {N n1 c1 r1 n2 c2 : Int} (hN : 1 ≤ N ∧ N ≤ 36) (w : World) :
    Calls Try.prog 27 #[.int .i64 N, twV n1 c1 r1 n2 c2] w fun e w' => e = .returned (.bool (decide (TwOk N n1 c1 r1 n2 c2))) ∧ Below w.heap.size w w' := by
  obtain ⟨D, hD⟩ : ∃ D, Keep (decide (TwOk N n1 c1 r1 n2 c2) = D) := ⟨_, ⟨rfl⟩⟩
  rw [hD.out]
  have hbx : Below w.heap.size w (w.alloc (.cells #[.int .i64 n1, .int .i64 c1, .int .i64 r1, .int .i64 n2, .int .i64 c2] 37)) := (Below.refl _ _).alloc (Nat.le_refl _) _
  unfold twV
  by_cases a0 : ¬ (1 ≤ n1)
  · have hF : D = false := by rw [← hD.out]; exact decide_eq_false (fun h => by unfold TwOk at h; omega)
    go_enter Try.func27, Try.ntmps27
    go_wp2
    go_quiet (fail)
    go_wp2
    go_ret
    exact ⟨by first | rfl | (rw [hF]; rfl), below_drewN hbx _⟩
  replace a0 : 1 ≤ n1 := Classical.not_not.1 a0
  by_cases a1 : ¬ (n1 ≤ N)
  · have hF : D = false := by rw [← hD.out]; exact decide_eq_false (fun h => by unfold TwOk at h; omega)
    go_enter Try.func27, Try.ntmps27
    go_wp2
    go_quiet (fail)
    go_wp2
    go_ret
    exact ⟨by first | rfl | (rw [hF]; rfl), below_drewN hbx _⟩
  replace a1 : n1 ≤ N := Classical.not_not.1 a1
  by_cases a2 : ¬ (1 ≤ n2)
  · have hF : D = false := by rw [← hD.out]; exact decide_eq_false (fun h => by unfold TwOk at h; omega)
    go_enter Try.func27, Try.ntmps27
    go_wp2
    go_quiet (fail)
    go_wp2
    go_ret
    exact ⟨by first | rfl | (rw [hF]; rfl), below_drewN hbx _⟩
  replace a2 : 1 ≤ n2 := Classical.not_not.1 a2
  have k1 : IntKind.i64.wrap (N - n1) = N - n1 := IntWalk.i64_in _ (by omega)
  by_cases a3 : ¬ (n2 ≤ N - n1)
  · have hF : D = false := by rw [← hD.out]; exact decide_eq_false (fun h => by unfold TwOk at h; omega)
    go_enter Try.func27, Try.ntmps27
    go_wp2
    go_quiet (fail)
    go_wp2
    go_ret
    exact ⟨by first | rfl | (rw [hF]; rfl), below_drewN hbx _⟩
  replace a3 : n2 ≤ N - n1 := Classical.not_not.1 a3
  by_cases a4 : ¬ (0 ≤ c1)
  · have hF : D = false := by rw [← hD.out]; exact decide_eq_false (fun h => by unfold TwOk at h; omega)
    go_enter Try.func27, Try.ntmps27
    go_wp2
    go_quiet (fail)
    go_wp2
    go_ret
    exact ⟨by first | rfl | (rw [hF]; rfl), below_drewN hbx _⟩
  replace a4 : 0 ≤ c1 := Classical.not_not.1 a4
  by_cases a5 : ¬ (c1 ≤ n1)
  · have hF : D = false := by rw [← hD.out]; exact decide_eq_false (fun h => by unfold TwOk at h; omega)
    go_enter Try.func27, Try.ntmps27
    go_wp2
    go_quiet (fail)
    go_wp2
    go_ret
    exact ⟨by first | rfl | (rw [hF]; rfl), below_drewN hbx _⟩
  replace a5 : c1 ≤ n1 := Classical.not_not.1 a5
  have k2 : IntKind.i64.wrap (c1 + 1) = c1 + 1 := IntWalk.i64_in _ (by omega)
  by_cases a6 : ¬ (c1 + 1 < r1)
  · have hF : D = false := by rw [← hD.out]; exact decide_eq_false (fun h => by unfold TwOk at h; omega)
    go_enter Try.func27, Try.ntmps27
    go_wp2
    go_quiet (fail)
    go_wp2
    go_ret
    exact ⟨by first | rfl | (rw [hF]; rfl), below_drewN hbx _⟩
  replace a6 : c1 + 1 < r1 := Classical.not_not.1 a6
  have k3 : IntKind.i64.wrap (n1 + 1) = n1 + 1 := IntWalk.i64_in _ (by omega)
  by_cases a7 : ¬ (r1 ≤ n1 + 1)
  · have hF : D = false := by rw [← hD.out]; exact decide_eq_false (fun h => by unfold TwOk at h; omega)
    go_enter Try.func27, Try.ntmps27
    go_wp2
    go_quiet (fail)
    go_wp2
    go_ret
    exact ⟨by first | rfl | (rw [hF]; rfl), below_drewN hbx _⟩
  replace a7 : r1 ≤ n1 + 1 := Classical.not_not.1 a7
  have k4 : IntKind.i64.wrap (r1 - 1) = r1 - 1 := IntWalk.i64_in _ (by omega)
  by_cases a8 : ¬ (r1 - 1 ≤ c2)
  · have hF : D = false := by rw [← hD.out]; exact decide_eq_false (fun h => by unfold TwOk at h; omega)
    go_enter Try.func27, Try.ntmps27
    go_wp2
    go_quiet (fail)
    go_wp2
    go_ret
    exact ⟨by first | rfl | (rw [hF]; rfl), below_drewN hbx _⟩
  replace a8 : r1 - 1 ≤ c2 := Classical.not_not.1 a8
  have k5 : IntKind.i64.wrap (n1 + n2) = n1 + n2 := IntWalk.i64_in _ (by omega)
  by_cases a9 : ¬ (c2 < n1 + n2)
  · have hF : D = false := by rw [← hD.out]; exact decide_eq_false (fun h => by unfold TwOk at h; omega)
    go_enter Try.func27, Try.ntmps27
    go_wp2
    go_quiet (fail)
    go_wp2
    go_ret
    have hg : decide (c2 < n1 + n2) = false := decide_eq_false (by omega)
    exact ⟨by rw [hF]; exact congrArg (fun z => Ending.returned (Value.bool z)) hg, below_drewN hbx _⟩
  replace a9 : c2 < n1 + n2 := Classical.not_not.1 a9
  have hF : D = true := by rw [← hD.out]; exact decide_eq_true (by unfold TwOk; omega)
  go_enter Try.func27, Try.ntmps27
  go_wp2
  go_quiet (fail)
  go_wp2
  go_ret
  exact ⟨by first | rfl | (rw [hF]; rfl), below_drewN hbx _⟩
end Go.Proofs.Ytbmfipjnfbnjgaa
set_option linter.unusedSimpArgs false
set_option linter.unusedVariables false
namespace Go.Sample
theorem sumTo_up {f : Nat → Nat} {a b : Nat} (h : a ≤ b) : sumTo f a ≤ sumTo f b := by
  induction b with
  | zero => rw [show a = 0 by omega]; exact Nat.le_refl _
  | succ b ih =>
    by_cases e : a = b + 1
    · rw [e]; exact Nat.le_refl _
    · exact Nat.le_trans (ih (by omega)) (Nat.le_add_right _ _)
theorem ch_mul_le (a b i j : Nat) : ch a i * ch b j ≤ ch (a + b) (i + j) := by
  have := tm_le a b (i + j) i
  unfold tm at this
  rwa [if_pos (by omega), show i + j - i = j by omega] at this
end Go.Sample
namespace Go.Proofs.Ytbmfipjnfbnjgaa
open Go Go.Proofs Go.RowKit Go.Sample Go.Seq
set_option maxHeartbeats 2000000 in
set_option maxRecDepth 100000 in
theorem refDouble_any {N d n1 c1 r1 n2 c2 : Nat} (h36 : N ≤ 36) (hd : d ≤ N) (h1 : 1 ≤ n1) (h2 : 1 ≤ n2) (hL : n1 + n2 ≤ N) (hc1 : c1 ≤ n1) (hcr : c1 + 1 < r1) (hr1 : r1 ≤ n1 + 1) (hc2 : c2 < n1 + n2) (k4 : r1 ≤ c2 + 1) (w : World) :
    Calls Try.prog 30 #[.int .i64 N, .int .i64 d, twV n1 c1 r1 n2 c2] w fun e w' => e = .returned (.tuple #[.int .i64 (accAll N d (mrgA n1 c1 c2 (n1 + n2)) (mrgR n1 r1 c2 (n1 + n2)) (n1 + n2) : Nat), .int .i64 (exAll N d (mrgA n1 c1 c2 (n1 + n2)) (mrgR n1 r1 c2 (n1 + n2)) (n1 + n2) : Nat)]) ∧ Below w.heap.size w w' := by
  have m1 := mrg_acc (c1 := c1) (r1 := r1) (c2 := c2) h36 hd h2 hL
  have m2 := mrg_le (c1 := c1) (r1 := r1) (c2 := c2) h36 hd h2 hL
  have p2 := ch_le h36 d
  rw [← dbl_ways h36 h1 h2 hL k4] at m1 ⊢
  rw [← dbl_pieces h36 hd h1 h2 hL] at m2 ⊢
  have m3 : (n1 + n2) * ch N d ≤ 36 * 9075135300 := Nat.mul_le_mul (by omega) p2
  obtain ⟨S, hS⟩ : ∃ S, Keep (sumTo (wayK N d n1 c1 r1 n2 c2) = S) := ⟨_, ⟨rfl⟩⟩
  obtain ⟨T, hT⟩ : ∃ T, Keep (sumTo (pieK N d n1 c1 r1 n2) = T) := ⟨_, ⟨rfl⟩⟩
  have hSle : Keep (∀ k, k ≤ n1 + 1 → S k ≤ 9075135300) := ⟨fun k hk => by rw [← hS.out]; exact Nat.le_trans (sumTo_up hk) (by omega)⟩
  have hTle : Keep (∀ k, k ≤ n1 + 1 → T k ≤ 36 * 9075135300) := ⟨fun k hk => by rw [← hT.out]; exact Nat.le_trans (sumTo_up hk) (by omega)⟩
  have hSs : Keep (∀ k, S (k + 1) = S k + wayK N d n1 c1 r1 n2 c2 k) := ⟨fun k => by rw [← hS.out]; rfl⟩
  have hTs : Keep (∀ k, T (k + 1) = T k + pieK N d n1 c1 r1 n2 k) := ⟨fun k => by rw [← hT.out]; rfl⟩
  have hS0 : S 0 = 0 := by rw [← hS.out]; rfl
  have hT0 : T 0 = 0 := by rw [← hT.out]; rfl
  rw [hS.out, hT.out]
  clear m1 m2 m3 p2 hS hT
  have q1 := fun (k : Nat) (h : k ≤ 40) (w : World) => binom_any (n := n1) (z := (k : Int)) (by omega) ⟨by omega, by omega⟩ w
  have q2 := fun (k : Nat) (h : k ≤ 40) (w : World) => binom_any (n := N - n1) (z := (d : Int) - (k : Int)) (by omega) ⟨by omega, by omega⟩ w
  have q3 := fun (j : Nat) (h : j ≤ 40) (w : World) => binom_any (n := n2) (z := (j : Int)) (by omega) ⟨by omega, by omega⟩ w
  have q4 := fun (k j : Nat) (h : k ≤ 40) (h : j ≤ 40) (w : World) => binom_any (n := N - n1 - n2) (z := (d : Int) - (k : Int) - (j : Int)) (by omega) ⟨by omega, by omega⟩ w
  simp only [chZ_nat] at q1 q3
  have hw0 : IntKind.i64.wrap ((N : Int) - (n1 : Int)) = ((N - n1 : Nat) : Int) := by rw [IntWalk.i64_in _ (by omega)]; omega
  have hw1 : IntKind.i64.wrap (((N - n1 : Nat) : Int) - (n2 : Int)) = ((N - n1 - n2 : Nat) : Int) := by rw [IntWalk.i64_in _ (by omega)]; omega
  have hfd : ∀ k, fstW N d n1 k = ch n1 k * chZ (N - n1) ((d : Int) - (k : Int)) := fun _ => rfl
  have htr : ∀ k j, tri N d n1 n2 k j = ch n1 k * ch n2 j * chZ (N - n1 - n2) ((d : Int) - (k : Int) - (j : Int)) := fun _ _ => rfl
  have hxy : ∀ k j, ch n1 k * ch n2 j ≤ 9075135300 := fun k j => Nat.le_trans (ch_mul_le n1 n2 k j) (ch_le (by omega) _)
  obtain ⟨a1, ha1⟩ : ∃ m, Keep (N - n1 = m) := ⟨_, ⟨rfl⟩⟩
  obtain ⟨a2, ha2⟩ : ∃ m, Keep (N - n1 - n2 = m) := ⟨_, ⟨rfl⟩⟩
  simp only [ha2.out] at q4 hw1 htr
  simp only [ha1.out] at q2 hw0 hw1 hfd
  have hfdk := Keep.mk hfd
  have htrk := Keep.mk htr
  have hxyk := Keep.mk hxy
  have q1k := Keep.mk q1
  have q2k := Keep.mk q2
  have q3k := Keep.mk q3
  have q4k := Keep.mk q4
  clear hfd htr hxy q1 q2 q3 q4
  have hbx : Below w.heap.size w (w.alloc (.cells #[.int .i64 n1, .int .i64 c1, .int .i64 r1, .int .i64 n2, .int .i64 c2] 37)) := (Below.refl _ _).alloc (Nat.le_refl _) _
  unfold twV
  go_enter Try.func30, Try.ntmps30
  go_wp2
  go_quiet (fail)
  obtain ⟨wq, hwq⟩ : ∃ wq, (w.alloc (.cells #[.int .i64 n1, .int .i64 c1, .int .i64 r1, .int .i64 n2, .int .i64 c2] 37)).drewN nq = wq := ⟨_, rfl⟩
  have hbq : Below w.heap.size w wq := by rw [← hwq]; exact below_drewN hbx _
  try rw [hwq]
  clear hwq hbx
  go_wp2
  go_loop [13, 14, 15] (fun s t i => ∃ k : Nat, k ≤ n1 + 1 ∧ i = .int .i64 k ∧ s = .int .i64 (S k : Nat) ∧ t = .int .i64 (T k : Nat)) (fun _ _ i => n1 + 1 - (intOf i).toNat)
  case atStart => exact ⟨0, by omega, rfl, by rw [hS0]; rfl, by rw [hT0]; rfl⟩
  case round =>
    obtain ⟨k, hk, rfl, rfl, rfl⟩ := hrel
    by_cases hlt : k < n1 + 1
    · have hle : (k : Int) ≤ (n1 : Int) := by omega
      have r1' := q1k.out k (by omega)
      have r2' := q2k.out k (by omega)
      have sle := hSle.out (k + 1) (by omega)
      have tle := hTle.out (k + 1) (by omega)
      have s1 := hSs.out k
      have t1 := hTs.out k
      have hf := hfdk.out k
      obtain ⟨f, hff⟩ : ∃ f, Keep (fstW N d n1 k = f) := ⟨_, ⟨rfl⟩⟩
      obtain ⟨x, hx⟩ : ∃ x, Keep (ch n1 k = x) := ⟨_, ⟨rfl⟩⟩
      obtain ⟨y, hy⟩ : ∃ y, Keep (chZ a1 ((d : Int) - (k : Int)) = y) := ⟨_, ⟨rfl⟩⟩
      rw [hff.out, hx.out, hy.out] at hf
      rw [hx.out] at r1'
      rw [hy.out] at r2'
      obtain ⟨s, hs⟩ : ∃ s, Keep (S k = s) := ⟨_, ⟨rfl⟩⟩
      obtain ⟨t, ht⟩ : ∃ t, Keep (T k = t) := ⟨_, ⟨rfl⟩⟩
      obtain ⟨s', hs'⟩ : ∃ s', Keep (S (k + 1) = s') := ⟨_, ⟨rfl⟩⟩
      obtain ⟨t', ht'⟩ : ∃ t', Keep (T (k + 1) = t') := ⟨_, ⟨rfl⟩⟩
      rw [hs'.out] at sle s1
      rw [ht'.out] at tle t1
      rw [hs.out] at s1 ⊢
      rw [ht.out] at t1 ⊢
      unfold wayK at s1
      unfold pieK at t1
      rw [hff.out] at s1 t1
      obtain ⟨g, hg⟩ : ∃ g, n1 * f = g := ⟨_, rfl⟩
      have hfg : f ≤ g := by rw [← hg]; exact Nat.le_mul_of_pos_left _ (by omega)
      rw [hg] at t1
      have w0 : IntKind.i64.wrap ((d : Int) - (k : Int)) = (d : Int) - (k : Int) := IntWalk.i64_in _ (by omega)
      have w1 : IntKind.i64.wrap ((x : Int) * (y : Int)) = (f : Int) := by rw [← Int.natCast_mul, ← hf, IntWalk.i64_in _ (by omega)]
      have w2 : IntKind.i64.wrap ((n1 : Int) * (f : Int)) = (g : Int) := by rw [← Int.natCast_mul, hg, IntWalk.i64_in _ (by omega)]
      have w3 : IntKind.i64.wrap ((t : Int) + (g : Int)) = ((t + g : Nat) : Int) := by rw [IntWalk.i64_in _ (by omega)]; push_cast; rfl
      obtain ⟨tg, htg⟩ : ∃ tg, t + g = tg := ⟨_, rfl⟩
      rw [← Nat.add_assoc, htg] at t1
      rw [htg] at w3
      have w9 : IntKind.i64.wrap ((k : Int) + 1) = (k : Int) + 1 := IntWalk.i64_in _ (by omega)
      clear hf
      by_cases hkc : k ≤ c1
      · have hkc' : (k : Int) ≤ (c1 : Int) := by omega
        rw [if_pos hkc, if_neg (by omega)] at s1
        rw [if_neg (by omega)] at t1
        have w4 : IntKind.i64.wrap ((s : Int) + (f : Int)) = (s' : Int) := by rw [IntWalk.i64_in _ (by omega)]; omega
        have ett : Keep (t' = tg) := ⟨by omega⟩
        clear s1 t1 hg hfg htg
        go_wp2_with (first
          | (go_at_call 21; (with_reducible refine (r1' _).mono ?_); rintro e w5 ⟨rfl, rfl⟩)
          | (go_at_call 21; (with_reducible refine (r2' _).mono ?_); rintro e w6 ⟨rfl, rfl⟩))
        exact ⟨⟨k + 1, by omega, by go_num, by rw [hs'.out], by rw [ht'.out, ett.out]⟩, by simp [intOf]; omega⟩
      · have hkc' : ¬ (k : Int) ≤ (c1 : Int) := by omega
        by_cases hkr : r1 ≤ k
        · have hkr' : (r1 : Int) ≤ (k : Int) := by omega
          rw [if_neg hkc, if_neg (by omega)] at s1
          rw [if_neg (by omega)] at t1
          have ess : Keep (s' = s) := ⟨by omega⟩
          have ett : Keep (t' = tg) := ⟨by omega⟩
          clear s1 t1 hg hfg htg
          go_wp2_with (first
            | (go_at_call 21; (with_reducible refine (r1' _).mono ?_); rintro e w5 ⟨rfl, rfl⟩)
            | (go_at_call 21; (with_reducible refine (r2' _).mono ?_); rintro e w6 ⟨rfl, rfl⟩))
          exact ⟨⟨k + 1, by omega, by go_num, by rw [hs'.out, ess.out], by rw [ht'.out, ett.out]⟩, by simp [intOf]; omega⟩
        · have hkr' : ¬ (r1 : Int) ≤ (k : Int) := by omega
          rw [if_neg hkc, if_pos (by omega)] at s1
          rw [if_pos (by omega)] at t1
          obtain ⟨g2, hg2⟩ : ∃ g, n2 * f = g := ⟨_, rfl⟩
          rw [hg2] at t1
          have w4 : IntKind.i64.wrap ((n2 : Int) * (f : Int)) = (g2 : Int) := by rw [← Int.natCast_mul, hg2, IntWalk.i64_in _ (by omega)]
          have w5 : IntKind.i64.wrap ((tg : Int) + (g2 : Int)) = (t' : Int) := by rw [IntWalk.i64_in _ (by omega)]; omega
          obtain ⟨J, hJ⟩ : ∃ J, Keep (jN n2 c2 k = J) := ⟨_, ⟨rfl⟩⟩
          have hJ2 : J ≤ n2 + 1 := by rw [← hJ.out]; unfold jN; omega
          have hJ3 : k + J ≤ c2 + 1 := by rw [← hJ.out]; unfold jN; omega
          have hJ4 : J = n2 + 1 ∨ k + J = c2 + 1 := by rw [← hJ.out]; unfold jN; omega
          rw [hJ.out] at s1
          obtain ⟨U, hU⟩ : ∃ U : Nat → Nat, Keep ((fun j => s + sumTo (fun j => tri N d n1 n2 k j) j) = U) := ⟨_, ⟨rfl⟩⟩
          have hU0 : U 0 = s := by rw [← hU.out]; rfl
          have hUJ : Keep (U J = s') := ⟨by rw [← hU.out]; show s + _ = s'; omega⟩
          have hUs : Keep (∀ j, U (j + 1) = U j + tri N d n1 n2 k j) := ⟨fun j => by rw [← hU.out]; exact (Nat.add_assoc _ _ _).symm⟩
          have hUle : Keep (∀ j, j ≤ J → U j ≤ 9075135300) := ⟨fun j hj => by
            have : U j ≤ U J := by rw [← hU.out]; exact Nat.add_le_add_left (sumTo_up hj) _
            have := hUJ.out; omega⟩
          clear s1 t1 hg hfg htg hg2
          go_wp2_with (first
            | (go_at_call 21; (with_reducible refine (r1' _).mono ?_); rintro e w5 ⟨rfl, rfl⟩)
            | (go_at_call 21; (with_reducible refine (r2' _).mono ?_); rintro e w6 ⟨rfl, rfl⟩))
          go_loop [13, 17] (fun s i => ∃ j : Nat, j ≤ J ∧ i = .int .i64 j ∧ s = .int .i64 (U j : Nat)) (fun _ i => J - (intOf i).toNat)
          case atStart => exact ⟨0, by omega, rfl, by rw [hU0]⟩
          case round =>
            obtain ⟨j, hj, rfl, rfl⟩ := hrel
            by_cases hjJ : j < J
            · have b1 : (j : Int) ≤ (n2 : Int) := by omega
              have b2 : (k : Int) + (j : Int) ≤ (c2 : Int) := by omega
              have b3 : IntKind.i64.wrap ((k : Int) + (j : Int)) = (k : Int) + (j : Int) := IntWalk.i64_in _ (by omega)
              have b4 : IntKind.i64.wrap ((d : Int) - (k : Int) - (j : Int)) = (d : Int) - (k : Int) - (j : Int) := IntWalk.i64_in _ (by omega)
              have b5 : IntKind.i64.wrap ((j : Int) + 1) = (j : Int) + 1 := IntWalk.i64_in _ (by omega)
              have r3 := q3k.out j (by omega)
              have r4 := q4k.out k j (by omega) (by omega)
              have u1 := hUs.out j
              have u2 := hUle.out (j + 1) (by omega)
              have hxy := hxyk.out k j
              rw [htrk.out] at u1
              obtain ⟨z, hz⟩ : ∃ z, Keep (ch n2 j = z) := ⟨_, ⟨rfl⟩⟩
              obtain ⟨v, hv⟩ : ∃ v, Keep (chZ a2 ((d : Int) - (k : Int) - (j : Int)) = v) := ⟨_, ⟨rfl⟩⟩
              rw [hx.out, hz.out] at hxy u1
              rw [hv.out] at u1 r4
              rw [hz.out] at r3
              obtain ⟨xz, hxz⟩ : ∃ xz, x * z = xz := ⟨_, rfl⟩
              rw [hxz] at hxy u1
              obtain ⟨xzv, hxzv⟩ : ∃ xzv, xz * v = xzv := ⟨_, rfl⟩
              rw [hxzv] at u1
              obtain ⟨u, hu⟩ : ∃ u, Keep (U j = u) := ⟨_, ⟨rfl⟩⟩
              obtain ⟨u', hu'⟩ : ∃ u, Keep (U (j + 1) = u) := ⟨_, ⟨rfl⟩⟩
              rw [hu.out] at u1 ⊢
              rw [hu'.out] at u1 u2
              have e1 : IntKind.i64.wrap ((x : Int) * (z : Int)) = (xz : Int) := by rw [← Int.natCast_mul, hxz, IntWalk.i64_in _ (by omega)]
              have e2 : IntKind.i64.wrap ((xz : Int) * (v : Int)) = (xzv : Int) := by rw [← Int.natCast_mul, hxzv, IntWalk.i64_in _ (by omega)]
              have e3 : IntKind.i64.wrap ((u : Int) + (xzv : Int)) = (u' : Int) := by rw [IntWalk.i64_in _ (by omega)]; omega
              clear u1 u2 hxy hxz hxzv
              go_wp2_with (first
                | (go_at_call 21; (with_reducible refine (r1' _).mono ?_); rintro e w5 ⟨rfl, rfl⟩)
                | (go_at_call 21; (with_reducible refine (r3 _).mono ?_); rintro e w6 ⟨rfl, rfl⟩)
                | (go_at_call 21; (with_reducible refine (r4 _).mono ?_); rintro e w7 ⟨rfl, rfl⟩))
              exact ⟨⟨j + 1, by omega, by go_num, by rw [hu'.out]⟩, by simp [intOf]; omega⟩
            · obtain rfl : j = J := by omega
              rw [hUJ.out]
              by_cases hjn : j ≤ n2
              · have b1 : (j : Int) ≤ (n2 : Int) := by omega
                have b2 : ¬ (k : Int) + (j : Int) ≤ (c2 : Int) := by omega
                have b3 : IntKind.i64.wrap ((k : Int) + (j : Int)) = (k : Int) + (j : Int) := IntWalk.i64_in _ (by omega)
                go_wp2
                exact ⟨⟨k + 1, by omega, by go_num, by rw [hs'.out], by rw [ht'.out]⟩, by simp [intOf]; omega⟩
              · have b1 : ¬ (j : Int) ≤ (n2 : Int) := by omega
                go_wp2
                exact ⟨⟨k + 1, by omega, by go_num, by rw [hs'.out], by rw [ht'.out]⟩, by simp [intOf]; omega⟩
    · obtain rfl : k = n1 + 1 := by omega
      have hle : ¬ ((n1 + 1 : Nat) : Int) ≤ (n1 : Int) := by omega
      go_wp2
      refine bodyPost_ret (v := .tuple #[.int .i64 (S (n1 + 1) : Nat), .int .i64 (T (n1 + 1) : Nat)]) (by simp [results, Try.results30, go_sem]; try go_simp) rfl ?_
      exact ⟨rfl, hbq⟩
end Go.Proofs.Ytbmfipjnfbnjgaa
set_option linter.unusedSimpArgs false
set_option linter.unusedVariables false
namespace Go.Proofs.Ytbmfipjnfbnjgaa
open Go Go.Proofs Go.RowKit Go.Sample Go.Seq
def dec (a r : Int) (k : Nat) : Int := if (k : Int) ≤ a then 1 else if r ≤ (k : Int) then -1 else 0
set_option maxHeartbeats 1000000 in
set_option maxRecDepth 100000 in
theorem decide_any {c : Crs} {w : World} {i k : Nat} (hc : CrsIn w c) (h1 : 1 ≤ i) (hi : i ≤ c.L) (hL : c.L ≤ 1000) :
    Calls Try.prog 60 #[c.val, .int .i64 i, .int .i64 k] w fun e w' => e = .returned (.int .i64 (dec (c.A (i - 1)) (c.R (i - 1)) k)) ∧ Below w.heap.size w w' := by
  obtain ⟨m, hm⟩ : ∃ m, i = m + 1 := ⟨i - 1, by omega⟩
  have hbx : Below w.heap.size w (w.alloc (.cells #[c.sa, c.sr] 42)) := (Below.refl _ _).alloc (Nat.le_refl _) _
  obtain ⟨⟨d0, d1, _, _⟩, hin⟩ := CrsBox.new hc 42
  have c0 := hin.las m (by omega)
  have c1 := hin.lrs m (by omega)
  have wm : IntKind.i64.wrap ((i : Int) - 1) = (m : Int) := by rw [IntWalk.i64_in _ (by omega)]; omega
  have hmL : (m : Int) < (c.L : Int) := by omega
  have hmL' : m < c.L := by omega
  rw [show i - 1 = m by omega]
  generalize c.A m = a at *
  generalize c.R m = r at *
  unfold Crs.val Crs.sa Crs.sr at *
  clear hm hc hin
  unfold dec
  by_cases ha : (k : Int) ≤ a
  · rw [if_pos ha]
    go_enter Try.func60, Try.ntmps60
    go_wp2
    go_ret
    exact ⟨rfl, hbx⟩
  · rw [if_neg ha]
    by_cases hr : r ≤ (k : Int)
    · rw [if_pos hr]
      go_enter Try.func60, Try.ntmps60
      go_wp2
      go_ret
      exact ⟨rfl, hbx⟩
    · rw [if_neg hr]
      go_enter Try.func60, Try.ntmps60
      go_wp2
      go_ret
      exact ⟨rfl, hbx⟩
/-- A row of Bools. -/
def BoolRow (W : World) (g n : Nat) : Prop := ∃ cs : Array Value, W.heap[g]? = some (.cells cs 4 (0, 0)) ∧ cs.size = n ∧ ∀ j, j < n → ∃ b, cs[j]? = some (.bool b)
theorem BoolRow.same {W W' : World} {g n : Nat} (h : BoolRow W g n) (e : W'.heap[g]? = W.heap[g]?) : BoolRow W' g n := by
  obtain ⟨cs, h1, h2⟩ := h; exact ⟨cs, e.trans h1, h2⟩
theorem BoolRow.lt {W : World} {g n : Nat} (h : BoolRow W g n) : g < W.heap.size := by
  obtain ⟨cs, h1, _⟩ := h; exact (Array.getElem?_eq_some_iff.1 h1).1
theorem BoolRow.after {W W' : World} {g n : Nat} (h : BoolRow W g n) (hb : Below W.heap.size W W') : BoolRow W' g n := h.same (hb.block g h.lt)
theorem BoolRow.cell {W : World} {g n j : Nat} (h : BoolRow W g n) (hj : j < n) : ∃ b, W.cell? ⟨g, j, none⟩ = some (.bool b) := by
  obtain ⟨cs, h1, h2, h3⟩ := h
  obtain ⟨b, hb⟩ := h3 j hj
  exact ⟨b, by simp only [World.cell?, h1]; exact hb⟩
theorem BoolRow.frozen {W : World} {g n : Nat} (h : BoolRow W g n) (j : Nat) : W.frozen? ⟨g, j, none⟩ = false := by
  obtain ⟨cs, h1, _⟩ := h; simp [World.frozen?, h1]
theorem BoolRow.set {W : World} {g n j : Nat} (h : BoolRow W g n) (b : Bool) : BoolRow (W.setCell ⟨g, j, none⟩ (.bool b)) g n := by
  obtain ⟨cs, h1, h2, h3⟩ := h
  refine ⟨_, heap_set h1 _, by simp [h2], fun i hi => ?_⟩
  by_cases e : i = j
  · subst e; exact ⟨b, by simp [h2, hi]⟩
  · rw [Array.getElem?_setIfInBounds_ne (by omega)]; exact h3 i hi
theorem BoolRow.other {W : World} {g g' n j : Nat} (h : BoolRow W g n) (hne : g ≠ g') (u : Value) : BoolRow (W.setCell ⟨g', j, none⟩ u) g n := h.same (Below.heap_setCell W ⟨g', j, none⟩ u g hne)
theorem info4 : (Try.prog.info? 4).map (fun i => (i.zero, i.size, i.bytes)) = some (some (.bool false), 1, 1) := by kernel_rfl
theorem und108 : Try.prog.underlying 108 = some (.slice 4) := by kernel_rfl
def boolZ (N : Nat) : Array Value := madeCells #[.bool false] (N + 1)
theorem boolZ_row (w : World) (N : Nat) : BoolRow (w.alloc (.cells (boolZ N) 4)) w.heap.size (N + 1) :=
  ⟨_, World.alloc_heap_new w _, size_madeCells _ _, fun j hj => ⟨false, by unfold boolZ madeCells; simp [hj, Nat.mod_one]⟩⟩
theorem made108 {N : Nat} (h : N ≤ 36) (w : World) : (Sem.run Try.prog (Instr.makeSlice 108 (.int .i64 ((N : Int) + 1)) (.int .i64 ((N : Int) + 1)))) w = .ok (.slice (some ⟨w.heap.size, 0, none⟩) (N + 1) (N + 1)) (w.alloc (.cells (boolZ N) 4)) := by
  have hi := info4
  cases hI : Try.prog.info? 4 with
  | none => rw [hI] at hi; cases hi
  | some i =>
    rw [hI] at hi
    simp only [Option.map_some, Option.some.injEq, Prod.mk.injEq] at hi
    obtain ⟨z1, z2, z3⟩ := hi
    have r := run_make (P := Try.prog) w 108 4 i _ und108 hI z1 .i64 .i64 ((N : Int) + 1) ((N : Int) + 1) (by omega) (by omega) (by rw [z3]; omega) (by omega)
    rw [show ((N : Int) + 1).toNat = N + 1 by omega, z2, show (N + 1) * 1 = N + 1 by omega] at r
    exact r
structure MgR (w : World) (c : Crs) (n1 c1 r1 n2 c2 : Nat) (W : World) : Prop where
  f : NumsAt W w.heap.size 5 37 (twF n1 c1 r1 n2 c2)
  b : CrsBox W (w.heap.size + 1) c
  bw : Below w.heap.size w W
section
variable {w W W' : World} {c : Crs} {n1 c1 r1 n2 c2 : Nat}
theorem MgR.after (h : MgR w c n1 c1 r1 n2 c2 W) (hb : Below W.heap.size W W') : MgR w c n1 c1 r1 n2 c2 W' := ⟨h.f.below hb h.f.lt, h.b.after hb, h.bw.trans (hb.mono h.bw.size)⟩
theorem MgR.set (h : MgR w c n1 c1 r1 n2 c2 W) {g j : Nat} (u : Value) (hg : w.heap.size + 2 ≤ g) (h1 : c.ga < w.heap.size) (h2 : c.gr < w.heap.size) : MgR w c n1 c1 r1 n2 c2 (W.setCell ⟨g, j, none⟩ u) := by
  have e := fun b (hb : b ≠ g) => Below.heap_setCell W ⟨g, j, none⟩ u b hb
  refine ⟨h.f.same (e _ (by omega)), ⟨h.b.own.other (by omega), ⟨fun k hk => (World.cell?_of_block (a := ⟨c.ga, c.oa + k, none⟩) (e _ (by show c.ga ≠ g; omega))).trans (h.b.inn.las k hk), fun k hk => (World.cell?_of_block (a := ⟨c.gr, c.ro + k, none⟩) (e _ (by show c.gr ≠ g; omega))).trans (h.b.inn.lrs k hk)⟩⟩, h.bw.setCell (p := ⟨g, j, none⟩) (by show w.heap.size ≤ g; omega) _⟩
end
theorem want_eq {n1 c1 r1 n2 c2 i k : Nat} (h1 : 1 ≤ n1) (h2 : 1 ≤ n2) (hi : 1 ≤ i) (hiL : i ≤ n1 + n2) (hk : k ≤ i) :
    (i = n1 ∧ k ≤ c1 ∧ dec (mrgA n1 c1 c2 (n1 + n2) (i - 1)) (mrgR n1 r1 c2 (n1 + n2) (i - 1)) k = 1) ∨
    (i = n1 ∧ ¬ k ≤ c1 ∧ r1 ≤ k ∧ dec (mrgA n1 c1 c2 (n1 + n2) (i - 1)) (mrgR n1 r1 c2 (n1 + n2) (i - 1)) k = -1) ∨
    (i = n1 ∧ ¬ k ≤ c1 ∧ ¬ r1 ≤ k ∧ dec (mrgA n1 c1 c2 (n1 + n2) (i - 1)) (mrgR n1 r1 c2 (n1 + n2) (i - 1)) k = 0) ∨
    (i ≠ n1 ∧ i = n1 + n2 ∧ k ≤ c2 ∧ dec (mrgA n1 c1 c2 (n1 + n2) (i - 1)) (mrgR n1 r1 c2 (n1 + n2) (i - 1)) k = 1) ∨
    (i ≠ n1 ∧ i = n1 + n2 ∧ ¬ k ≤ c2 ∧ dec (mrgA n1 c1 c2 (n1 + n2) (i - 1)) (mrgR n1 r1 c2 (n1 + n2) (i - 1)) k = -1) ∨
    (i ≠ n1 ∧ i ≠ n1 + n2 ∧ dec (mrgA n1 c1 c2 (n1 + n2) (i - 1)) (mrgR n1 r1 c2 (n1 + n2) (i - 1)) k = 0) := by
  by_cases e1 : i = n1
  · have hA : mrgA n1 c1 c2 (n1 + n2) (i - 1) = c1 := by unfold mrgA; rw [if_neg (by omega), if_pos (by omega)]
    have hR : mrgR n1 r1 c2 (n1 + n2) (i - 1) = r1 := by unfold mrgR; rw [if_neg (by omega), if_pos (by omega)]
    rw [hA, hR]; unfold dec
    by_cases k1 : k ≤ c1
    · exact .inl ⟨e1, k1, by rw [if_pos (by omega)]⟩
    · by_cases k2 : r1 ≤ k
      · exact .inr (.inl ⟨e1, k1, k2, by rw [if_neg (by omega), if_pos (by omega)]⟩)
      · exact .inr (.inr (.inl ⟨e1, k1, k2, by rw [if_neg (by omega), if_neg (by omega)]⟩))
  · by_cases e2 : i = n1 + n2
    · have hA : mrgA n1 c1 c2 (n1 + n2) (i - 1) = c2 := by unfold mrgA; rw [if_pos (by omega)]
      have hR : mrgR n1 r1 c2 (n1 + n2) (i - 1) = (c2 : Int) + 1 := by unfold mrgR; rw [if_pos (by omega)]
      rw [hA, hR]; unfold dec
      by_cases k1 : k ≤ c2
      · exact .inr (.inr (.inr (.inl ⟨e1, e2, k1, by rw [if_pos (by omega)]⟩)))
      · exact .inr (.inr (.inr (.inr (.inl ⟨e1, e2, k1, by rw [if_neg (by omega), if_pos (by omega)]⟩))))
    · have hA : mrgA n1 c1 c2 (n1 + n2) (i - 1) = -1 := by unfold mrgA; rw [if_neg (by omega), if_neg (by omega)]
      have hR : mrgR n1 r1 c2 (n1 + n2) (i - 1) = ((n1 + n2 : Nat) : Int) + 1 := by unfold mrgR; rw [if_neg (by omega), if_neg (by omega)]
      rw [hA, hR]; unfold dec
      exact .inr (.inr (.inr (.inr (.inr ⟨e1, e2, by rw [if_neg (by omega), if_neg (by omega)]⟩))))
set_option maxHeartbeats 4000000 in
set_option maxRecDepth 100000 in
theorem refMerges_any {n1 c1 r1 n2 c2 : Nat} {c : Crs} {w : World} (h1 : 1 ≤ n1) (h2 : 1 ≤ n2) (hL36 : n1 + n2 ≤ 36) (hc : CrsIn w c) (hcL : c.L = n1 + n2) (hcA : c.A = mrgA n1 c1 c2 (n1 + n2)) (hcR : c.R = mrgR n1 r1 c2 (n1 + n2)) (hb1 : c1 ≤ 36) (hb2 : r1 ≤ 37) (hb3 : c2 ≤ 36) :
    Calls Try.prog 29 #[twV n1 c1 r1 n2 c2, c.val] w fun e w' => e = .returned (.bool true) ∧ Below w.heap.size w w' := by
  have hga : c.ga < w.heap.size := cell_lt (hc.las 0 (by omega))
  have hgr : c.gr < w.heap.size := cell_lt (hc.lrs 0 (by omega))
  obtain ⟨wa, hwa⟩ : ∃ wa, w.alloc (.cells #[.int .i64 n1, .int .i64 c1, .int .i64 r1, .int .i64 n2, .int .i64 c2] 37) = wa := ⟨_, rfl⟩
  obtain ⟨wb, hwb⟩ : ∃ wb, wa.alloc (.cells #[c.sa, c.sr] 42) = wb := ⟨_, rfl⟩
  obtain ⟨wc, hwc⟩ : ∃ wc, wb.alloc (.cells #[.bool true] 4) = wc := ⟨_, rfl⟩
  have sa : wa.heap.size = w.heap.size + 1 := by rw [← hwa]; simp
  have sb : wb.heap.size = w.heap.size + 1 + 1 := by rw [← hwb]; simp [sa]
  have ba : Below w.heap.size w wa := by rw [← hwa]; exact (Below.refl _ _).alloc (Nat.le_refl _) _
  have bb : Below wa.heap.size wa wb := by rw [← hwb]; exact (Below.refl _ _).alloc (Nat.le_refl _) _
  have bc : Below wb.heap.size wb wc := by rw [← hwc]; exact (Below.refl _ _).alloc (Nat.le_refl _) _
  have fa : NumsAt wa w.heap.size 5 37 (twF n1 c1 r1 n2 c2) := by rw [← hwa]; exact five_new w 37 n1 c1 r1 n2 c2
  have hMb : MgR w c n1 c1 r1 n2 c2 wb := ⟨fa.below bb fa.lt, by rw [← sa, ← hwb]; exact CrsBox.new (hc.after ba) 42, ba.trans (bb.mono (by omega))⟩
  have hMc := hMb.after bc
  have hO : BoolRow wc (w.heap.size + 2) 1 := by
    rw [show w.heap.size + 2 = wb.heap.size by omega, ← hwc]
    exact ⟨_, World.alloc_heap_new wb _, rfl, fun j hj => ⟨true, by rw [show j = 0 by omega]; rfl⟩⟩
  have hwabc : ((w.alloc (.cells #[.int .i64 n1, .int .i64 c1, .int .i64 r1, .int .i64 n2, .int .i64 c2] 37)).alloc (.cells #[c.sa, c.sr] 42)).alloc (.cells #[.bool true] 4) = wc := by rw [hwa, hwb, hwc]
  have hwab : ((w.alloc (.cells #[.int .i64 n1, .int .i64 c1, .int .i64 r1, .int .i64 n2, .int .i64 c2] 37)).alloc (.cells #[c.sa, c.sr] 42)) = wb := by rw [hwa, hwb]
  have eL : IntKind.i64.wrap ((n1 : Int) + (n2 : Int)) = ((n1 + n2 : Nat) : Int) := by rw [IntWalk.i64_in _ (by omega)]; push_cast; rfl
  obtain ⟨x0, x1, x2, x3, x4, _⟩ := five_at hMb.f
  have hwbc := hwc
  have q60 := fun (W : World) (i k : Nat) (h : CrsIn W c) (a : 1 ≤ i) (b : i ≤ n1 + n2) => decide_any (k := k) h a (by rw [hcL]; exact b) (by omega)
  rw [hcA, hcR] at q60
  have q60k := Keep.mk q60
  have hwt := Keep.mk (fun (i k : Nat) => want_eq (n1 := n1) (c1 := c1) (r1 := r1) (n2 := n2) (c2 := c2) (i := i) (k := k) h1 h2)
  obtain ⟨L, hLk⟩ : ∃ L, Keep (n1 + n2 = L) := ⟨_, ⟨rfl⟩⟩
  rw [hLk.out] at q60k hwt eL hL36
  have hm108 := Keep.mk (fun (N : Nat) (h : N ≤ 36) (w : World) => made108 h w)
  have hMc' := Keep.mk hMc
  have hO' := Keep.mk hO
  have hcLk := Keep.mk hcL
  clear q60 hwa hwc ba bb bc fa hMb hMc hO hcA hcR hwab hwbc sa hcL sb
  unfold Crs.val Crs.sa Crs.sr at *
  unfold twV
  go_enter Try.func29, Try.ntmps29
  go_wp2
  try rw [hwabc]
  clear hwabc hwb
  go_loopw [6, 7] (fun o i wr => ∃ m g : Nat, 1 ≤ m ∧ m ≤ L + 1 ∧ i = .int .i64 m ∧ o = .slice (some ⟨g, 0, none⟩) m m ∧ Keep (BoolRow wr g m) ∧ w.heap.size + 2 ≤ g ∧ Keep (MgR w c n1 c1 r1 n2 c2 wr)) (fun _ i _ => L + 1 - (intOf i).toNat)
  case atStart => exact ⟨1, w.heap.size + 2, by omega, by omega, rfl, rfl, hO', Nat.le_refl _, hMc'⟩
  case round =>
    obtain ⟨m, g, hm1, hm, rfl, rfl, hO, hg, hM⟩ := hrel
    by_cases hlt : m < L + 1
    · have hle : (m : Int) ≤ (L : Int) := by omega
      have wm : IntKind.i64.wrap ((m : Int) + 1) = (m : Int) + 1 := IntWalk.i64_in _ (by omega)
      have hmk := fun w => hm108.out m (by omega) w
      obtain ⟨w2, hw2⟩ : ∃ w2, wr.alloc (.cells (boolZ m) 4) = w2 := ⟨_, rfl⟩
      have hb2 : Below wr.heap.size wr w2 := by rw [← hw2]; exact (Below.refl _ _).alloc (Nat.le_refl _) _
      have hN2 : Keep (BoolRow w2 wr.heap.size (m + 1)) := ⟨by rw [← hw2]; exact boolZ_row wr m⟩
      have hO2 : Keep (BoolRow w2 g m) := ⟨hO.out.after hb2⟩
      have hM2 : Keep (MgR w c n1 c1 r1 n2 c2 w2) := ⟨hM.out.after hb2⟩
      have hgl := hO.out.lt
      obtain ⟨G, hG⟩ : ∃ G, wr.heap.size = G := ⟨_, rfl⟩
      have hgG : g < G := by omega
      rw [hG] at hN2
      clear hb2 hgl
      go_wp2
      try rw [hw2]
      try rw [hG]
      clear hw2 hmk
      go_loopw [9] (fun k wr2 => ∃ j : Nat, j ≤ m + 1 ∧ k = .int .i64 j ∧ Keep (BoolRow wr2 g m) ∧ Keep (BoolRow wr2 G (m + 1)) ∧ Keep (MgR w c n1 c1 r1 n2 c2 wr2)) (fun k _ => m + 1 - (intOf k).toNat)
      case atStart => exact ⟨0, by omega, rfl, hO2, hN2, hM2⟩
      case round =>
        obtain ⟨k, hk, rfl, hOw, hNw, hMw⟩ := hrel
        by_cases hkm : k < m + 1
        · have hkl : (k : Int) ≤ (m : Int) := by omega
          have wk : IntKind.i64.wrap ((k : Int) + 1) = (k : Int) + 1 := IntWalk.i64_in _ (by omega)
          have hin := hMw.out.b.inn
          obtain ⟨⟨b0, b1, _, _⟩, _⟩ := hMw.out.b
          obtain ⟨x0, x1, x2, x3, x4, _⟩ := five_at hMw.out.f
          unfold Crs.sa at b0
          unfold Crs.sr at b1
          have q60 := q60k.out wr m k hin hm1 (by omega)
          have hwant := hwt.out m k hm1 (by omega) (by omega)
          have hreach : (k < m ∧ (k : Int) < (m : Int) ∧ wr.cell? ⟨g, k, none⟩ = some (.bool true)) ∨ (k < m ∧ (k : Int) < (m : Int) ∧ wr.cell? ⟨g, k, none⟩ = some (.bool false)) ∨ (¬ k < m ∧ ¬ (k : Int) < (m : Int)) := by
            by_cases a : k < m
            · obtain ⟨x, hx⟩ := hOw.out.cell a
              cases x with
              | true => exact .inl ⟨a, by omega, hx⟩
              | false => exact .inr (.inl ⟨a, by omega, hx⟩)
            · exact .inr (.inr ⟨a, by omega⟩)
          have hback : k = 0 ∨ ∃ p x, IntKind.i64.wrap ((k : Int) - 1) = ((p : Nat) : Int) ∧ 0 < k ∧ p < m ∧ (p : Int) < (m : Int) ∧ wr.cell? ⟨g, p, none⟩ = some (.bool x) := by
            by_cases z : k = 0
            · exact .inl z
            · obtain ⟨x, hx⟩ := hOw.out.cell (j := k - 1) (by omega)
              exact .inr ⟨k - 1, x, by rw [IntWalk.i64_in _ (by omega)]; omega, by omega, by omega, by omega, hx⟩
          clear q60k
          rcases hreach with ⟨a, a', hx⟩ | hreach
          · clear hback
            rcases hwant with ⟨v1, v2, hd⟩ | ⟨v1, v2, v3, hd⟩ | ⟨v1, v2, v3, hd⟩ | ⟨v1, v2, v3, hd⟩ | ⟨v1, v2, v3, hd⟩ | ⟨v1, v2, hd⟩
            · rw [hd] at q60
              have e1 : ((m : Int) == (n1 : Int)) = true := by rw [beq_iff_eq]; omega
              have e1' : (m == n1) = true := by rw [beq_iff_eq]; exact v1
              have e2 : (k : Int) ≤ (c1 : Int) := by omega
              clear v1 hd
              go_wp2_with (first
                | (go_at_call 60; (with_reducible refine q60.mono ?_); rintro e w5 ⟨rfl, hb5⟩
                   have hN5 : Keep (BoolRow w5 G (m + 1)) := ⟨hNw.out.after hb5⟩
                   have hO5 : Keep (BoolRow w5 g m) := ⟨hOw.out.after hb5⟩
                   have hM5 : Keep (MgR w c n1 c1 r1 n2 c2 w5) := ⟨hMw.out.after hb5⟩
                   have fz := hN5.out.frozen k
                   obtain ⟨bz, cz⟩ := hN5.out.cell (j := k) (by omega)
                   clear hb5))
              exact ⟨⟨k + 1, by omega, by go_num, ⟨hO5.out.other (by omega) _⟩, ⟨hN5.out.set _⟩, ⟨hM5.out.set _ (by omega) hga hgr⟩⟩, by simp [intOf]; omega⟩
            · rw [hd] at q60
              have e1 : ((m : Int) == (n1 : Int)) = true := by rw [beq_iff_eq]; omega
              have e1' : (m == n1) = true := by rw [beq_iff_eq]; exact v1
              have e2 : ¬ (k : Int) ≤ (c1 : Int) := by omega
              have e3 : (r1 : Int) ≤ (k : Int) := by omega
              have e4 : ((m : Int) == (L : Int)) = false := by rw [beq_eq_false_iff_ne]; have := hLk.out; omega
              have e4' : (m == L) = false := by rw [beq_eq_false_iff_ne]; have := hLk.out; omega
              clear v1 hd
              go_wp2_with (first
                | (go_at_call 60; (with_reducible refine q60.mono ?_); rintro e w5 ⟨rfl, hb5⟩
                   have hN5 : Keep (BoolRow w5 G (m + 1)) := ⟨hNw.out.after hb5⟩
                   have hO5 : Keep (BoolRow w5 g m) := ⟨hOw.out.after hb5⟩
                   have hM5 : Keep (MgR w c n1 c1 r1 n2 c2 w5) := ⟨hMw.out.after hb5⟩
                   have fz := hN5.out.frozen k
                   obtain ⟨bz, cz⟩ := hN5.out.cell (j := k) (by omega)
                   clear hb5))
              exact ⟨⟨k + 1, by omega, by go_num, ⟨hO5.out.other (by omega) _⟩, ⟨hN5.out.set _⟩, ⟨hM5.out.set _ (by omega) hga hgr⟩⟩, by simp [intOf]; omega⟩
            · rw [hd] at q60
              have e1 : ((m : Int) == (n1 : Int)) = true := by rw [beq_iff_eq]; omega
              have e1' : (m == n1) = true := by rw [beq_iff_eq]; exact v1
              have e2 : ¬ (k : Int) ≤ (c1 : Int) := by omega
              have e3 : ¬ (r1 : Int) ≤ (k : Int) := by omega
              have e4 : ((m : Int) == (L : Int)) = false := by rw [beq_eq_false_iff_ne]; have := hLk.out; omega
              have e4' : (m == L) = false := by rw [beq_eq_false_iff_ne]; have := hLk.out; omega
              clear v1 hd
              go_wp2_with (first
                | (go_at_call 60; (with_reducible refine q60.mono ?_); rintro e w5 ⟨rfl, hb5⟩
                   have hN5 : Keep (BoolRow w5 G (m + 1)) := ⟨hNw.out.after hb5⟩
                   have hO5 : Keep (BoolRow w5 g m) := ⟨hOw.out.after hb5⟩
                   have hM5 : Keep (MgR w c n1 c1 r1 n2 c2 w5) := ⟨hMw.out.after hb5⟩
                   have fz := hN5.out.frozen k
                   obtain ⟨bz, cz⟩ := hN5.out.cell (j := k) (by omega)
                   clear hb5))
              exact ⟨⟨k + 1, by omega, by go_num, ⟨hO5.out.other (by omega) _⟩, ⟨hN5.out.set _⟩, ⟨hM5.out.set _ (by omega) hga hgr⟩⟩, by simp [intOf]; omega⟩
            · rw [hd] at q60
              have e1 : ((m : Int) == (n1 : Int)) = false := by rw [beq_eq_false_iff_ne]; omega
              have e1' : (m == n1) = false := by rw [beq_eq_false_iff_ne]; exact v1
              have e2 : (k : Int) ≤ (c2 : Int) := by omega
              have e4 : ((m : Int) == (L : Int)) = true := by rw [beq_iff_eq]; omega
              have e4' : (m == L) = true := by rw [beq_iff_eq]; exact v2
              clear v1 v2 hd
              go_wp2_with (first
                | (go_at_call 60; (with_reducible refine q60.mono ?_); rintro e w5 ⟨rfl, hb5⟩
                   have hN5 : Keep (BoolRow w5 G (m + 1)) := ⟨hNw.out.after hb5⟩
                   have hO5 : Keep (BoolRow w5 g m) := ⟨hOw.out.after hb5⟩
                   have hM5 : Keep (MgR w c n1 c1 r1 n2 c2 w5) := ⟨hMw.out.after hb5⟩
                   have fz := hN5.out.frozen k
                   obtain ⟨bz, cz⟩ := hN5.out.cell (j := k) (by omega)
                   clear hb5))
              exact ⟨⟨k + 1, by omega, by go_num, ⟨hO5.out.other (by omega) _⟩, ⟨hN5.out.set _⟩, ⟨hM5.out.set _ (by omega) hga hgr⟩⟩, by simp [intOf]; omega⟩
            · rw [hd] at q60
              have e1 : ((m : Int) == (n1 : Int)) = false := by rw [beq_eq_false_iff_ne]; omega
              have e1' : (m == n1) = false := by rw [beq_eq_false_iff_ne]; exact v1
              have e2 : ¬ (k : Int) ≤ (c2 : Int) := by omega
              have e4 : ((m : Int) == (L : Int)) = true := by rw [beq_iff_eq]; omega
              have e4' : (m == L) = true := by rw [beq_iff_eq]; exact v2
              clear v1 v2 hd
              go_wp2_with (first
                | (go_at_call 60; (with_reducible refine q60.mono ?_); rintro e w5 ⟨rfl, hb5⟩
                   have hN5 : Keep (BoolRow w5 G (m + 1)) := ⟨hNw.out.after hb5⟩
                   have hO5 : Keep (BoolRow w5 g m) := ⟨hOw.out.after hb5⟩
                   have hM5 : Keep (MgR w c n1 c1 r1 n2 c2 w5) := ⟨hMw.out.after hb5⟩
                   have fz := hN5.out.frozen k
                   obtain ⟨bz, cz⟩ := hN5.out.cell (j := k) (by omega)
                   clear hb5))
              exact ⟨⟨k + 1, by omega, by go_num, ⟨hO5.out.other (by omega) _⟩, ⟨hN5.out.set _⟩, ⟨hM5.out.set _ (by omega) hga hgr⟩⟩, by simp [intOf]; omega⟩
            · rw [hd] at q60
              have e1 : ((m : Int) == (n1 : Int)) = false := by rw [beq_eq_false_iff_ne]; omega
              have e1' : (m == n1) = false := by rw [beq_eq_false_iff_ne]; exact v1
              have e4 : ((m : Int) == (L : Int)) = false := by rw [beq_eq_false_iff_ne]; omega
              have e4' : (m == L) = false := by rw [beq_eq_false_iff_ne]; exact v2
              clear v1 v2 hd
              go_wp2_with (first
                | (go_at_call 60; (with_reducible refine q60.mono ?_); rintro e w5 ⟨rfl, hb5⟩
                   have hN5 : Keep (BoolRow w5 G (m + 1)) := ⟨hNw.out.after hb5⟩
                   have hO5 : Keep (BoolRow w5 g m) := ⟨hOw.out.after hb5⟩
                   have hM5 : Keep (MgR w c n1 c1 r1 n2 c2 w5) := ⟨hMw.out.after hb5⟩
                   have fz := hN5.out.frozen k
                   obtain ⟨bz, cz⟩ := hN5.out.cell (j := k) (by omega)
                   clear hb5))
              exact ⟨⟨k + 1, by omega, by go_num, ⟨hO5.out.other (by omega) _⟩, ⟨hN5.out.set _⟩, ⟨hM5.out.set _ (by omega) hga hgr⟩⟩, by simp [intOf]; omega⟩
          rcases hback with hk0 | ⟨p, x, wp, hk0, hp, hp', hy⟩
          · obtain rfl : k = 0 := hk0
            rcases hreach with ⟨a, a', hx⟩ | ⟨a, a'⟩
            · clear hwant q60
              go_wp2
              exact ⟨⟨1, by omega, by go_num, hOw, hNw, hMw⟩, by simp [intOf]⟩
            · omega
          cases x with
          | true =>
            rcases hreach with ⟨a, a', hx⟩ | ⟨a, a'⟩
            · skip
              rcases hwant with ⟨v1, v2, hd⟩ | ⟨v1, v2, v3, hd⟩ | ⟨v1, v2, v3, hd⟩ | ⟨v1, v2, v3, hd⟩ | ⟨v1, v2, v3, hd⟩ | ⟨v1, v2, hd⟩
              · rw [hd] at q60
                have e1 : ((m : Int) == (n1 : Int)) = true := by rw [beq_iff_eq]; omega
                have e1' : (m == n1) = true := by rw [beq_iff_eq]; exact v1
                have e2 : (k : Int) ≤ (c1 : Int) := by omega
                clear v1 hd
                go_wp2_with (first
                  | (go_at_call 60; (with_reducible refine q60.mono ?_); rintro e w5 ⟨rfl, hb5⟩
                     have hN5 : Keep (BoolRow w5 G (m + 1)) := ⟨hNw.out.after hb5⟩
                     have hO5 : Keep (BoolRow w5 g m) := ⟨hOw.out.after hb5⟩
                     have hM5 : Keep (MgR w c n1 c1 r1 n2 c2 w5) := ⟨hMw.out.after hb5⟩
                     have fz := hN5.out.frozen k
                     obtain ⟨bz, cz⟩ := hN5.out.cell (j := k) (by omega)
                     clear hb5))
                exact ⟨⟨k + 1, by omega, by go_num, ⟨hO5.out.other (by omega) _⟩, ⟨hN5.out.set _⟩, ⟨hM5.out.set _ (by omega) hga hgr⟩⟩, by simp [intOf]; omega⟩
              · rw [hd] at q60
                have e1 : ((m : Int) == (n1 : Int)) = true := by rw [beq_iff_eq]; omega
                have e1' : (m == n1) = true := by rw [beq_iff_eq]; exact v1
                have e2 : ¬ (k : Int) ≤ (c1 : Int) := by omega
                have e3 : (r1 : Int) ≤ (k : Int) := by omega
                have e4 : ((m : Int) == (L : Int)) = false := by rw [beq_eq_false_iff_ne]; have := hLk.out; omega
                have e4' : (m == L) = false := by rw [beq_eq_false_iff_ne]; have := hLk.out; omega
                clear v1 hd
                go_wp2_with (first
                  | (go_at_call 60; (with_reducible refine q60.mono ?_); rintro e w5 ⟨rfl, hb5⟩
                     have hN5 : Keep (BoolRow w5 G (m + 1)) := ⟨hNw.out.after hb5⟩
                     have hO5 : Keep (BoolRow w5 g m) := ⟨hOw.out.after hb5⟩
                     have hM5 : Keep (MgR w c n1 c1 r1 n2 c2 w5) := ⟨hMw.out.after hb5⟩
                     have fz := hN5.out.frozen k
                     obtain ⟨bz, cz⟩ := hN5.out.cell (j := k) (by omega)
                     clear hb5))
                exact ⟨⟨k + 1, by omega, by go_num, ⟨hO5.out.other (by omega) _⟩, ⟨hN5.out.set _⟩, ⟨hM5.out.set _ (by omega) hga hgr⟩⟩, by simp [intOf]; omega⟩
              · rw [hd] at q60
                have e1 : ((m : Int) == (n1 : Int)) = true := by rw [beq_iff_eq]; omega
                have e1' : (m == n1) = true := by rw [beq_iff_eq]; exact v1
                have e2 : ¬ (k : Int) ≤ (c1 : Int) := by omega
                have e3 : ¬ (r1 : Int) ≤ (k : Int) := by omega
                have e4 : ((m : Int) == (L : Int)) = false := by rw [beq_eq_false_iff_ne]; have := hLk.out; omega
                have e4' : (m == L) = false := by rw [beq_eq_false_iff_ne]; have := hLk.out; omega
                clear v1 hd
                go_wp2_with (first
                  | (go_at_call 60; (with_reducible refine q60.mono ?_); rintro e w5 ⟨rfl, hb5⟩
                     have hN5 : Keep (BoolRow w5 G (m + 1)) := ⟨hNw.out.after hb5⟩
                     have hO5 : Keep (BoolRow w5 g m) := ⟨hOw.out.after hb5⟩
                     have hM5 : Keep (MgR w c n1 c1 r1 n2 c2 w5) := ⟨hMw.out.after hb5⟩
                     have fz := hN5.out.frozen k
                     obtain ⟨bz, cz⟩ := hN5.out.cell (j := k) (by omega)
                     clear hb5))
                exact ⟨⟨k + 1, by omega, by go_num, ⟨hO5.out.other (by omega) _⟩, ⟨hN5.out.set _⟩, ⟨hM5.out.set _ (by omega) hga hgr⟩⟩, by simp [intOf]; omega⟩
              · rw [hd] at q60
                have e1 : ((m : Int) == (n1 : Int)) = false := by rw [beq_eq_false_iff_ne]; omega
                have e1' : (m == n1) = false := by rw [beq_eq_false_iff_ne]; exact v1
                have e2 : (k : Int) ≤ (c2 : Int) := by omega
                have e4 : ((m : Int) == (L : Int)) = true := by rw [beq_iff_eq]; omega
                have e4' : (m == L) = true := by rw [beq_iff_eq]; exact v2
                clear v1 v2 hd
                go_wp2_with (first
                  | (go_at_call 60; (with_reducible refine q60.mono ?_); rintro e w5 ⟨rfl, hb5⟩
                     have hN5 : Keep (BoolRow w5 G (m + 1)) := ⟨hNw.out.after hb5⟩
                     have hO5 : Keep (BoolRow w5 g m) := ⟨hOw.out.after hb5⟩
                     have hM5 : Keep (MgR w c n1 c1 r1 n2 c2 w5) := ⟨hMw.out.after hb5⟩
                     have fz := hN5.out.frozen k
                     obtain ⟨bz, cz⟩ := hN5.out.cell (j := k) (by omega)
                     clear hb5))
                exact ⟨⟨k + 1, by omega, by go_num, ⟨hO5.out.other (by omega) _⟩, ⟨hN5.out.set _⟩, ⟨hM5.out.set _ (by omega) hga hgr⟩⟩, by simp [intOf]; omega⟩
              · rw [hd] at q60
                have e1 : ((m : Int) == (n1 : Int)) = false := by rw [beq_eq_false_iff_ne]; omega
                have e1' : (m == n1) = false := by rw [beq_eq_false_iff_ne]; exact v1
                have e2 : ¬ (k : Int) ≤ (c2 : Int) := by omega
                have e4 : ((m : Int) == (L : Int)) = true := by rw [beq_iff_eq]; omega
                have e4' : (m == L) = true := by rw [beq_iff_eq]; exact v2
                clear v1 v2 hd
                go_wp2_with (first
                  | (go_at_call 60; (with_reducible refine q60.mono ?_); rintro e w5 ⟨rfl, hb5⟩
                     have hN5 : Keep (BoolRow w5 G (m + 1)) := ⟨hNw.out.after hb5⟩
                     have hO5 : Keep (BoolRow w5 g m) := ⟨hOw.out.after hb5⟩
                     have hM5 : Keep (MgR w c n1 c1 r1 n2 c2 w5) := ⟨hMw.out.after hb5⟩
                     have fz := hN5.out.frozen k
                     obtain ⟨bz, cz⟩ := hN5.out.cell (j := k) (by omega)
                     clear hb5))
                exact ⟨⟨k + 1, by omega, by go_num, ⟨hO5.out.other (by omega) _⟩, ⟨hN5.out.set _⟩, ⟨hM5.out.set _ (by omega) hga hgr⟩⟩, by simp [intOf]; omega⟩
              · rw [hd] at q60
                have e1 : ((m : Int) == (n1 : Int)) = false := by rw [beq_eq_false_iff_ne]; omega
                have e1' : (m == n1) = false := by rw [beq_eq_false_iff_ne]; exact v1
                have e4 : ((m : Int) == (L : Int)) = false := by rw [beq_eq_false_iff_ne]; omega
                have e4' : (m == L) = false := by rw [beq_eq_false_iff_ne]; exact v2
                clear v1 v2 hd
                go_wp2_with (first
                  | (go_at_call 60; (with_reducible refine q60.mono ?_); rintro e w5 ⟨rfl, hb5⟩
                     have hN5 : Keep (BoolRow w5 G (m + 1)) := ⟨hNw.out.after hb5⟩
                     have hO5 : Keep (BoolRow w5 g m) := ⟨hOw.out.after hb5⟩
                     have hM5 : Keep (MgR w c n1 c1 r1 n2 c2 w5) := ⟨hMw.out.after hb5⟩
                     have fz := hN5.out.frozen k
                     obtain ⟨bz, cz⟩ := hN5.out.cell (j := k) (by omega)
                     clear hb5))
                exact ⟨⟨k + 1, by omega, by go_num, ⟨hO5.out.other (by omega) _⟩, ⟨hN5.out.set _⟩, ⟨hM5.out.set _ (by omega) hga hgr⟩⟩, by simp [intOf]; omega⟩
            · skip
              rcases hwant with ⟨v1, v2, hd⟩ | ⟨v1, v2, v3, hd⟩ | ⟨v1, v2, v3, hd⟩ | ⟨v1, v2, v3, hd⟩ | ⟨v1, v2, v3, hd⟩ | ⟨v1, v2, hd⟩
              · rw [hd] at q60
                have e1 : ((m : Int) == (n1 : Int)) = true := by rw [beq_iff_eq]; omega
                have e1' : (m == n1) = true := by rw [beq_iff_eq]; exact v1
                have e2 : (k : Int) ≤ (c1 : Int) := by omega
                clear v1 hd
                go_wp2_with (first
                  | (go_at_call 60; (with_reducible refine q60.mono ?_); rintro e w5 ⟨rfl, hb5⟩
                     have hN5 : Keep (BoolRow w5 G (m + 1)) := ⟨hNw.out.after hb5⟩
                     have hO5 : Keep (BoolRow w5 g m) := ⟨hOw.out.after hb5⟩
                     have hM5 : Keep (MgR w c n1 c1 r1 n2 c2 w5) := ⟨hMw.out.after hb5⟩
                     have fz := hN5.out.frozen k
                     obtain ⟨bz, cz⟩ := hN5.out.cell (j := k) (by omega)
                     clear hb5))
                exact ⟨⟨k + 1, by omega, by go_num, ⟨hO5.out.other (by omega) _⟩, ⟨hN5.out.set _⟩, ⟨hM5.out.set _ (by omega) hga hgr⟩⟩, by simp [intOf]; omega⟩
              · rw [hd] at q60
                have e1 : ((m : Int) == (n1 : Int)) = true := by rw [beq_iff_eq]; omega
                have e1' : (m == n1) = true := by rw [beq_iff_eq]; exact v1
                have e2 : ¬ (k : Int) ≤ (c1 : Int) := by omega
                have e3 : (r1 : Int) ≤ (k : Int) := by omega
                have e4 : ((m : Int) == (L : Int)) = false := by rw [beq_eq_false_iff_ne]; have := hLk.out; omega
                have e4' : (m == L) = false := by rw [beq_eq_false_iff_ne]; have := hLk.out; omega
                clear v1 hd
                go_wp2_with (first
                  | (go_at_call 60; (with_reducible refine q60.mono ?_); rintro e w5 ⟨rfl, hb5⟩
                     have hN5 : Keep (BoolRow w5 G (m + 1)) := ⟨hNw.out.after hb5⟩
                     have hO5 : Keep (BoolRow w5 g m) := ⟨hOw.out.after hb5⟩
                     have hM5 : Keep (MgR w c n1 c1 r1 n2 c2 w5) := ⟨hMw.out.after hb5⟩
                     have fz := hN5.out.frozen k
                     obtain ⟨bz, cz⟩ := hN5.out.cell (j := k) (by omega)
                     clear hb5))
                exact ⟨⟨k + 1, by omega, by go_num, ⟨hO5.out.other (by omega) _⟩, ⟨hN5.out.set _⟩, ⟨hM5.out.set _ (by omega) hga hgr⟩⟩, by simp [intOf]; omega⟩
              · rw [hd] at q60
                have e1 : ((m : Int) == (n1 : Int)) = true := by rw [beq_iff_eq]; omega
                have e1' : (m == n1) = true := by rw [beq_iff_eq]; exact v1
                have e2 : ¬ (k : Int) ≤ (c1 : Int) := by omega
                have e3 : ¬ (r1 : Int) ≤ (k : Int) := by omega
                have e4 : ((m : Int) == (L : Int)) = false := by rw [beq_eq_false_iff_ne]; have := hLk.out; omega
                have e4' : (m == L) = false := by rw [beq_eq_false_iff_ne]; have := hLk.out; omega
                clear v1 hd
                go_wp2_with (first
                  | (go_at_call 60; (with_reducible refine q60.mono ?_); rintro e w5 ⟨rfl, hb5⟩
                     have hN5 : Keep (BoolRow w5 G (m + 1)) := ⟨hNw.out.after hb5⟩
                     have hO5 : Keep (BoolRow w5 g m) := ⟨hOw.out.after hb5⟩
                     have hM5 : Keep (MgR w c n1 c1 r1 n2 c2 w5) := ⟨hMw.out.after hb5⟩
                     have fz := hN5.out.frozen k
                     obtain ⟨bz, cz⟩ := hN5.out.cell (j := k) (by omega)
                     clear hb5))
                exact ⟨⟨k + 1, by omega, by go_num, ⟨hO5.out.other (by omega) _⟩, ⟨hN5.out.set _⟩, ⟨hM5.out.set _ (by omega) hga hgr⟩⟩, by simp [intOf]; omega⟩
              · rw [hd] at q60
                have e1 : ((m : Int) == (n1 : Int)) = false := by rw [beq_eq_false_iff_ne]; omega
                have e1' : (m == n1) = false := by rw [beq_eq_false_iff_ne]; exact v1
                have e2 : (k : Int) ≤ (c2 : Int) := by omega
                have e4 : ((m : Int) == (L : Int)) = true := by rw [beq_iff_eq]; omega
                have e4' : (m == L) = true := by rw [beq_iff_eq]; exact v2
                clear v1 v2 hd
                go_wp2_with (first
                  | (go_at_call 60; (with_reducible refine q60.mono ?_); rintro e w5 ⟨rfl, hb5⟩
                     have hN5 : Keep (BoolRow w5 G (m + 1)) := ⟨hNw.out.after hb5⟩
                     have hO5 : Keep (BoolRow w5 g m) := ⟨hOw.out.after hb5⟩
                     have hM5 : Keep (MgR w c n1 c1 r1 n2 c2 w5) := ⟨hMw.out.after hb5⟩
                     have fz := hN5.out.frozen k
                     obtain ⟨bz, cz⟩ := hN5.out.cell (j := k) (by omega)
                     clear hb5))
                exact ⟨⟨k + 1, by omega, by go_num, ⟨hO5.out.other (by omega) _⟩, ⟨hN5.out.set _⟩, ⟨hM5.out.set _ (by omega) hga hgr⟩⟩, by simp [intOf]; omega⟩
              · rw [hd] at q60
                have e1 : ((m : Int) == (n1 : Int)) = false := by rw [beq_eq_false_iff_ne]; omega
                have e1' : (m == n1) = false := by rw [beq_eq_false_iff_ne]; exact v1
                have e2 : ¬ (k : Int) ≤ (c2 : Int) := by omega
                have e4 : ((m : Int) == (L : Int)) = true := by rw [beq_iff_eq]; omega
                have e4' : (m == L) = true := by rw [beq_iff_eq]; exact v2
                clear v1 v2 hd
                go_wp2_with (first
                  | (go_at_call 60; (with_reducible refine q60.mono ?_); rintro e w5 ⟨rfl, hb5⟩
                     have hN5 : Keep (BoolRow w5 G (m + 1)) := ⟨hNw.out.after hb5⟩
                     have hO5 : Keep (BoolRow w5 g m) := ⟨hOw.out.after hb5⟩
                     have hM5 : Keep (MgR w c n1 c1 r1 n2 c2 w5) := ⟨hMw.out.after hb5⟩
                     have fz := hN5.out.frozen k
                     obtain ⟨bz, cz⟩ := hN5.out.cell (j := k) (by omega)
                     clear hb5))
                exact ⟨⟨k + 1, by omega, by go_num, ⟨hO5.out.other (by omega) _⟩, ⟨hN5.out.set _⟩, ⟨hM5.out.set _ (by omega) hga hgr⟩⟩, by simp [intOf]; omega⟩
              · rw [hd] at q60
                have e1 : ((m : Int) == (n1 : Int)) = false := by rw [beq_eq_false_iff_ne]; omega
                have e1' : (m == n1) = false := by rw [beq_eq_false_iff_ne]; exact v1
                have e4 : ((m : Int) == (L : Int)) = false := by rw [beq_eq_false_iff_ne]; omega
                have e4' : (m == L) = false := by rw [beq_eq_false_iff_ne]; exact v2
                clear v1 v2 hd
                go_wp2_with (first
                  | (go_at_call 60; (with_reducible refine q60.mono ?_); rintro e w5 ⟨rfl, hb5⟩
                     have hN5 : Keep (BoolRow w5 G (m + 1)) := ⟨hNw.out.after hb5⟩
                     have hO5 : Keep (BoolRow w5 g m) := ⟨hOw.out.after hb5⟩
                     have hM5 : Keep (MgR w c n1 c1 r1 n2 c2 w5) := ⟨hMw.out.after hb5⟩
                     have fz := hN5.out.frozen k
                     obtain ⟨bz, cz⟩ := hN5.out.cell (j := k) (by omega)
                     clear hb5))
                exact ⟨⟨k + 1, by omega, by go_num, ⟨hO5.out.other (by omega) _⟩, ⟨hN5.out.set _⟩, ⟨hM5.out.set _ (by omega) hga hgr⟩⟩, by simp [intOf]; omega⟩
          | false =>
            rcases hreach with ⟨a, a', hx⟩ | ⟨a, a'⟩
            · skip
              clear hwant q60
              go_wp2
              exact ⟨⟨k + 1, by omega, by go_num, hOw, hNw, hMw⟩, by simp [intOf]; omega⟩
            · skip
              clear hwant q60
              go_wp2
              exact ⟨⟨k + 1, by omega, by go_num, hOw, hNw, hMw⟩, by simp [intOf]; omega⟩
        · obtain rfl : k = m + 1 := by omega
          have hle2 : ¬ ((m + 1 : Nat) : Int) ≤ (m : Int) := by omega
          go_wp2
          exact ⟨⟨m + 1, G, by omega, by omega, by go_num, by first | rfl | (congr 1), hNw, by omega, hMw⟩, by simp [intOf]; omega⟩
    · obtain rfl : m = L + 1 := by omega
      have hle : ¬ ((L + 1 : Nat) : Int) ≤ (L : Int) := by omega
      go_wp2
      go_ret
      exact ⟨rfl, hM.out.bw⟩
end Go.Proofs.Ytbmfipjnfbnjgaa
set_option linter.unusedSimpArgs false
set_option linter.unusedVariables false
namespace Go.Proofs.Ytbmfipjnfbnjgaa
open Go Go.Proofs Go.RowKit Go.Sample
/-- Two lists of numbers that are a course for a lot of N pieces. -/
def FitAt (n : Nat) (a r : Int) : Prop := -1 ≤ a ∧ a ≤ (n : Int) + 1 ∧ -1 ≤ r ∧ r ≤ (n : Int) + 1 ∧ a < r
instance (n : Nat) (a r : Int) : Decidable (FitAt n a r) := by unfold FitAt; infer_instance
def FitOk (N : Int) (za zr : List Int) : Prop := zr.length = za.length ∧ 1 ≤ za.length ∧ (za.length : Int) ≤ N ∧ (∀ k, k < za.length → FitAt za.length (za.getD k 0) (zr.getD k 0)) ∧ zr.getD (za.length - 1) 0 = za.getD (za.length - 1) 0 + 1
instance (N : Int) (za zr : List Int) : Decidable (FitOk N za zr) := by unfold FitOk; infer_instance
set_option maxHeartbeats 2000000 in
set_option maxRecDepth 100000 in
theorem refFits_any {N : Int} {va vr : Value} {za zr : List Int} {w : World} (hN : 1 ≤ N ∧ N ≤ 36) (ha : IntsO w va za) (hr : IntsO w vr zr) (hla : za.length ≤ 100000) (hlr : zr.length ≤ 100000) :
    Calls Try.prog 28 #[.int .i64 N, .agg #[va, vr]] w fun e w' => e = .returned (.bool (decide (FitOk N za zr))) ∧ Below w.heap.size w w' := by
  obtain ⟨D, hD⟩ : ∃ D, Keep (decide (FitOk N za zr) = D) := ⟨_, ⟨rfl⟩⟩
  rw [hD.out]
  have hb1 : Below w.heap.size w (w.alloc (.cells #[va, vr] 42)) := (Below.refl _ _).alloc (Nat.le_refl _) _
  have ha1 := intsO_below ha hb1
  have hr1 := intsO_below hr hb1
  obtain ⟨x0, x1, x2, x3⟩ := Own2.new w va vr 42
  obtain ⟨w1, hw1⟩ : ∃ w1, w.alloc (.cells #[va, vr] 42) = w1 := ⟨_, rfl⟩
  rw [hw1] at hb1 ha1 hr1 x0 x1 x2 x3
  obtain ⟨A, cap, rfl, hca⟩ := ha1
  obtain ⟨A', cap', rfl, hcb⟩ := hr1
  clear ha hr
  obtain ⟨n, hn⟩ : ∃ n, Keep (za.length = n) := ⟨_, ⟨rfl⟩⟩
  rw [hn.out] at hla hca x0 hw1 ⊢
  by_cases hlen : ¬ zr.length = n
  · have hd : Keep (D = false) := ⟨by rw [← hD.out]; exact decide_eq_false (fun e => hlen (by rw [e.1, hn.out]))⟩
    have hne : ((zr.length : Int) == (n : Int)) = false := by rw [beq_eq_false_iff_ne]; intro h; exact hlen (by omega)
    clear hca hcb
    go_enter Try.func28, Try.ntmps28
    go_wp2
    go_ret
    exact ⟨by rw [hd.out]; rfl, hb1⟩
  have hlen : zr.length = n := by omega
  rw [hlen] at hlr hcb x1 hw1 ⊢
  by_cases h1 : n < 1
  · have hd : Keep (D = false) := ⟨by rw [← hD.out]; exact decide_eq_false (fun e => by have := e.2.1; rw [hn.out] at this; omega)⟩
    have h1' : (n : Int) < 1 := by omega
    clear hca hcb
    go_enter Try.func28, Try.ntmps28
    go_wp2
    go_ret
    exact ⟨by rw [hd.out]; rfl, hb1⟩
  by_cases h2 : N < (n : Int)
  · have hd : Keep (D = false) := ⟨by rw [← hD.out]; exact decide_eq_false (fun e => by have := e.2.2.1; rw [hn.out] at this; omega)⟩
    have h1' : ¬ (n : Int) < 1 := by omega
    clear hca hcb
    go_enter Try.func28, Try.ntmps28
    go_wp2
    go_ret
    exact ⟨by rw [hd.out]; rfl, hb1⟩
  have h1' : ¬ (n : Int) < 1 := by omega
  have hcak := Keep.mk hca
  have hcbk := Keep.mk hcb
  have wn : IntKind.i64.wrap ((n : Int) + 1) = (n : Int) + 1 := IntWalk.i64_in _ (by omega)
  clear hca hcb
  go_enter Try.func28, Try.ntmps28
  go_wp2
  go_loopw [6] (fun i wr => (∃ k : Nat, k ≤ n ∧ i = .int .i64 k ∧ Keep (∀ j, j < k → FitAt n (za.getD j 0) (zr.getD j 0))) ∧ ∃ q, wr = w1.drewN q) (fun i _ => n - (intOf i).toNat)
  case atStart => exact ⟨⟨0, by omega, rfl, ⟨fun j hj => by omega⟩⟩, 0, rfl⟩
  case round =>
    obtain ⟨⟨k, hk, rfl, hall⟩, q, rfl⟩ := hrel
    by_cases hlt : k < n
    · obtain ⟨g, o, rfl, c1⟩ := hcak.out k (by omega)
      obtain ⟨g', o', rfl, c2⟩ := hcbk.out k (by omega)
      have hlt' : (k : Int) < (n : Int) := by omega
      have hstep : Keep (FitAt n (za.getD k 0) (zr.getD k 0) → ∀ j, j < k + 1 → FitAt n (za.getD j 0) (zr.getD j 0)) := ⟨fun h j hj => by
        by_cases e : j = k
        · rw [e]; exact h
        · exact hall.out j (by omega)⟩
      have hno : Keep (¬ FitAt n (za.getD k 0) (zr.getD k 0) → D = false) := ⟨fun h => by rw [← hD.out]; exact decide_eq_false (fun e => h (by have := e.2.2.2.1 k (by rw [hn.out]; exact hlt); rwa [hn.out] at this))⟩
      have wk : IntKind.i64.wrap ((k : Int) + 1) = (k : Int) + 1 := IntWalk.i64_in _ (by omega)
      generalize za.getD k 0 = a at c1 hstep hno
      generalize zr.getD k 0 = r at c2 hstep hno
      by_cases f1 : a < -1
      · have hd : Keep (D = false) := ⟨hno.out (fun h => by unfold FitAt at h; omega)⟩
        go_wp2
        go_quiet (fail)
        go_wp2
        go_ret
        exact ⟨by rw [hd.out]; rfl, below_drewN hb1 _⟩
      by_cases f2 : (n : Int) + 1 < a
      · have hd : Keep (D = false) := ⟨hno.out (fun h => by unfold FitAt at h; omega)⟩
        go_wp2
        go_quiet (fail)
        go_wp2
        go_ret
        exact ⟨by rw [hd.out]; rfl, below_drewN hb1 _⟩
      by_cases f3 : r < -1
      · have hd : Keep (D = false) := ⟨hno.out (fun h => by unfold FitAt at h; omega)⟩
        go_wp2
        go_quiet (fail)
        go_wp2
        go_ret
        exact ⟨by rw [hd.out]; rfl, below_drewN hb1 _⟩
      by_cases f4 : (n : Int) + 1 < r
      · have hd : Keep (D = false) := ⟨hno.out (fun h => by unfold FitAt at h; omega)⟩
        go_wp2
        go_quiet (fail)
        go_wp2
        go_ret
        exact ⟨by rw [hd.out]; rfl, below_drewN hb1 _⟩
      by_cases f5 : r ≤ a
      · have hd : Keep (D = false) := ⟨hno.out (fun h => by unfold FitAt at h; omega)⟩
        go_wp2
        go_quiet (fail)
        go_wp2
        go_ret
        exact ⟨by rw [hd.out]; rfl, below_drewN hb1 _⟩
      have hok := hstep.out (by unfold FitAt; omega)
      have hokk := Keep.mk hok
      clear hok
      go_wp2
      go_quiet (fail)
      go_wp2
      exact ⟨⟨⟨k + 1, by omega, by go_num, hokk⟩, q + nq, by first | rfl | exact drewN_add _ _ _⟩, by simp [intOf]; omega⟩
    · obtain rfl : k = n := by omega
      have hlt' : ¬ (k : Int) < (k : Int) := by omega
      obtain ⟨m, hm⟩ : ∃ m, Keep (k = m + 1) := ⟨k - 1, ⟨by omega⟩⟩
      have hmk : m < k := by have := hm.out; omega
      have hf := hall.out m hmk
      obtain ⟨g, o, rfl, c1⟩ := hcak.out m hmk
      obtain ⟨g', o', rfl, c2⟩ := hcbk.out m hmk
      have wm : IntKind.i64.wrap ((k : Int) - 1) = (m : Int) := by rw [IntWalk.i64_in _ (by omega)]; have := hm.out; omega
      have hd : Keep (D = decide (zr.getD m 0 = za.getD m 0 + 1)) := ⟨by
        rw [← hD.out]
        refine decide_eq_decide.2 ⟨fun e => ?_, fun e => ⟨by rw [hlen, hn.out], by rw [hn.out]; omega, by rw [hn.out]; omega, fun j hj => ?_, ?_⟩⟩
        · have := e.2.2.2.2
          rwa [hn.out, show k - 1 = m by have := hm.out; omega] at this
        · rw [hn.out] at hj ⊢; exact hall.out j hj
        · rwa [hn.out, show k - 1 = m by have := hm.out; omega]⟩
      generalize za.getD m 0 = a at c1 hd hf
      generalize zr.getD m 0 = r at c2 hd hf
      have wa : IntKind.i64.wrap (a + 1) = a + 1 := IntWalk.i64_in _ (by unfold FitAt at hf; omega)
      have hmk' : (m : Int) < (k : Int) := by omega
      clear hf
      by_cases e : r = a + 1
      · have e1 : (r == a + 1) = true := by simpa using e
        have hd2 : Keep (D = true) := ⟨by rw [hd.out]; exact decide_eq_true e⟩
        clear e
        go_wp2
        go_quiet (fail)
        go_wp2
        go_ret
        exact ⟨by rw [hd2.out]; rfl, by first | exact below_drewN hb1 _ | exact below_drewN (below_drewN hb1 _) _⟩
      · have e1 : (r == a + 1) = false := by simpa using e
        have hd2 : Keep (D = false) := ⟨by rw [hd.out]; exact decide_eq_false e⟩
        clear e
        go_wp2
        go_quiet (fail)
        go_wp2
        go_ret
        exact ⟨by rw [hd2.out]; rfl, by first | exact below_drewN hb1 _ | exact below_drewN (below_drewN hb1 _) _⟩
end Go.Proofs.Ytbmfipjnfbnjgaa
set_option linter.unusedSimpArgs false
set_option linter.unusedVariables false
namespace Go.Proofs.Ytbmfipjnfbnjgaa
open Go Go.Proofs Go.RowKit Go.Sample Go.Seq
theorem getD_range (f : Nat → Int) {n k : Nat} (h : k < n) : ((List.range n).map f).getD k 0 = f k := by simp [List.getD_eq_getElem?_getD, h]
theorem fit_crs {c : Crs} {N : Nat} (h : CrsOk c N) : FitOk N ((List.range c.L).map c.A) ((List.range c.L).map c.R) := by
  obtain ⟨l1, l2, hall, hlast⟩ := h
  refine ⟨by simp, by simpa using l1, by simpa using l2, fun k hk => ?_, ?_⟩
  · have hk' : k < c.L := by simpa using hk
    rw [getD_range _ hk', getD_range _ hk']
    obtain ⟨u1, u2, u3⟩ := hall k hk'
    unfold FitAt
    simp only [List.length_map, List.length_range]
    omega
  · simp only [List.length_map, List.length_range]
    rw [getD_range _ (by omega), getD_range _ (by omega)]
    exact hlast
def twA (a0 a1 a2 a3 a4 : Int) : Array Value := #[.int .i64 a0, .int .i64 a1, .int .i64 a2, .int .i64 a3, .int .i64 a4]
/-- Two fractions that are kept. -/
structure DbR (w : World) (g h : Nat) (a b c d : Value) (W : World) : Prop where
  o : Own2 W g a b
  q : Own2 W h c d
  bw : Below w.heap.size w W
theorem DbR.after {w W W' : World} {g h : Nat} {a b c d : Value} (k : DbR w g h a b c d W) (hb : Below W.heap.size W W') : DbR w g h a b c d W' := ⟨k.o.after hb, k.q.after hb, k.bw.trans (hb.mono k.bw.size)⟩
set_option maxHeartbeats 2000000 in
set_option maxRecDepth 100000 in
theorem doubles_lot1 {N z a0 a1 a2 a3 a4 : Int} (hz : In64 z) (h1 : ¬ 1 ≤ N) (w : World) : Calls Try.prog 4 #[.int .i64 N, .int .i64 z, twV a0 a1 a2 a3 a4] w fun e w' => e = .returned (.bool true) ∧ Below w.heap.size w w' := by
  have hpn : ¬ PlanTw N a0 a1 a2 a3 a4 := fun h => by unfold PlanTw at h; first | exact h1 h.1 | exact h36 h.2.1 | exact hno h.2.2
  have q25 := fun w => double_no (z := z) hz (fun h => hpn h.1) w
  have q26 := fun w => merge_no hpn w
  have e0 : ∀ w, (Op.equalIn 10000 27 (.agg #[.int .i64 0, .int .i64 0]) (.agg #[.int .i64 0, .int .i64 0])).run Try.prog w = .ok true w := fun w => eq27 0 0 0 0 w
  have F0 := FiveAt.new w 37 a0 a1 a2 a3 a4
  obtain ⟨wq, hwq⟩ : ∃ wq, w.alloc (.cells #[.int .i64 a0, .int .i64 a1, .int .i64 a2, .int .i64 a3, .int .i64 a4] 37) = wq := ⟨_, rfl⟩
  have bw0 : Below w.heap.size w wq := by rw [← hwq]; exact (Below.refl _ _).alloc (Nat.le_refl _) _
  rw [hwq] at F0
  obtain ⟨x0, x1, x2, x3, x4, _⟩ := F0.at_
  clear hpn
  unfold twV fracV at *
  go_enter Try.func4, Try.ntmps4
  go_wp2_with (first
    | (go_at_call 25; (with_reducible refine (q25 _).mono ?_); rintro e w1 ⟨rfl, hb1⟩
       have F1 := F0.after hb1
       have bw1 := bw0.trans (hb1.mono bw0.size)
       have l1 := F1.lt
       obtain ⟨x0, x1, x2, x3, x4, _⟩ := F1.at_
       clear hb1 q25 F0)
    | (go_at_call 26; (with_reducible refine (q26 _).mono ?_); rintro e w2 ⟨rfl, hb2⟩
       have ba : Below w1.heap.size w1 (w1.alloc (.cells #[.int .i64 0, .int .i64 0] 27)) := (Below.refl _ _).alloc (Nat.le_refl _) _
       have bb : Below (w1.alloc (.cells #[.int .i64 0, .int .i64 0] 27)).heap.size (w1.alloc (.cells #[.int .i64 0, .int .i64 0] 27)) ((w1.alloc (.cells #[.int .i64 0, .int .i64 0] 27)).alloc (.cells #[.int .i64 0, .int .i64 0] 27)) := (Below.refl _ _).alloc (Nat.le_refl _) _
       have o7 := ((Own2.new w1 (.int .i64 0) (.int .i64 0) 27).after bb).after hb2
       have o8 := (Own2.new (w1.alloc (.cells #[.int .i64 0, .int .i64 0] 27)) (.int .i64 0) (.int .i64 0) 27).after hb2
       rw [World.size_alloc] at o8
       have F2 := ((F1.after ba).after bb).after hb2
       have bw2 := (bw1.trans (ba.mono bw1.size))
       have bw2 := bw2.trans (bb.mono bw2.size)
       have bw2 := bw2.trans (hb2.mono bw2.size)
       have l7 := o7.lt
       have l8 := o8.lt
       have l2 := F2.lt
       obtain ⟨x0, x1, x2, x3, x4, _⟩ := F2.at_
       obtain ⟨s0, s1, _, _⟩ := id o7
       obtain ⟨t0, t1, _, _⟩ := id o8
       clear hb2 q26 F1 ba bb)
    | (go_at_call 20; refine (awake_any _).mono ?_; rintro e w9 ⟨rfl, hb9⟩))
  all_goals go_ret
  all_goals exact ⟨rfl, bstep (bstep bw2 ((Below.refl _ w2).alloc (Nat.le_refl _) _)) hb9⟩
set_option maxHeartbeats 2000000 in
set_option maxRecDepth 100000 in
theorem doubles_lot2 {N z a0 a1 a2 a3 a4 : Int} (hz : In64 z) (h1 : 1 ≤ N) (h36 : ¬ N ≤ 36) (w : World) : Calls Try.prog 4 #[.int .i64 N, .int .i64 z, twV a0 a1 a2 a3 a4] w fun e w' => e = .returned (.bool true) ∧ Below w.heap.size w w' := by
  have hpn : ¬ PlanTw N a0 a1 a2 a3 a4 := fun h => by unfold PlanTw at h; first | exact h1 h.1 | exact h36 h.2.1 | exact hno h.2.2
  have q25 := fun w => double_no (z := z) hz (fun h => hpn h.1) w
  have q26 := fun w => merge_no hpn w
  have e0 : ∀ w, (Op.equalIn 10000 27 (.agg #[.int .i64 0, .int .i64 0]) (.agg #[.int .i64 0, .int .i64 0])).run Try.prog w = .ok true w := fun w => eq27 0 0 0 0 w
  have F0 := FiveAt.new w 37 a0 a1 a2 a3 a4
  obtain ⟨wq, hwq⟩ : ∃ wq, w.alloc (.cells #[.int .i64 a0, .int .i64 a1, .int .i64 a2, .int .i64 a3, .int .i64 a4] 37) = wq := ⟨_, rfl⟩
  have bw0 : Below w.heap.size w wq := by rw [← hwq]; exact (Below.refl _ _).alloc (Nat.le_refl _) _
  rw [hwq] at F0
  obtain ⟨x0, x1, x2, x3, x4, _⟩ := F0.at_
  clear hpn
  unfold twV fracV at *
  go_enter Try.func4, Try.ntmps4
  go_wp2_with (first
    | (go_at_call 25; (with_reducible refine (q25 _).mono ?_); rintro e w1 ⟨rfl, hb1⟩
       have F1 := F0.after hb1
       have bw1 := bw0.trans (hb1.mono bw0.size)
       have l1 := F1.lt
       obtain ⟨x0, x1, x2, x3, x4, _⟩ := F1.at_
       clear hb1 q25 F0)
    | (go_at_call 26; (with_reducible refine (q26 _).mono ?_); rintro e w2 ⟨rfl, hb2⟩
       have ba : Below w1.heap.size w1 (w1.alloc (.cells #[.int .i64 0, .int .i64 0] 27)) := (Below.refl _ _).alloc (Nat.le_refl _) _
       have bb : Below (w1.alloc (.cells #[.int .i64 0, .int .i64 0] 27)).heap.size (w1.alloc (.cells #[.int .i64 0, .int .i64 0] 27)) ((w1.alloc (.cells #[.int .i64 0, .int .i64 0] 27)).alloc (.cells #[.int .i64 0, .int .i64 0] 27)) := (Below.refl _ _).alloc (Nat.le_refl _) _
       have o7 := ((Own2.new w1 (.int .i64 0) (.int .i64 0) 27).after bb).after hb2
       have o8 := (Own2.new (w1.alloc (.cells #[.int .i64 0, .int .i64 0] 27)) (.int .i64 0) (.int .i64 0) 27).after hb2
       rw [World.size_alloc] at o8
       have F2 := ((F1.after ba).after bb).after hb2
       have bw2 := (bw1.trans (ba.mono bw1.size))
       have bw2 := bw2.trans (bb.mono bw2.size)
       have bw2 := bw2.trans (hb2.mono bw2.size)
       have l7 := o7.lt
       have l8 := o8.lt
       have l2 := F2.lt
       obtain ⟨x0, x1, x2, x3, x4, _⟩ := F2.at_
       obtain ⟨s0, s1, _, _⟩ := id o7
       obtain ⟨t0, t1, _, _⟩ := id o8
       clear hb2 q26 F1 ba bb)
    | (go_at_call 20; refine (awake_any _).mono ?_; rintro e w9 ⟨rfl, hb9⟩))
  all_goals go_ret
  all_goals exact ⟨rfl, bstep (bstep bw2 ((Below.refl _ w2).alloc (Nat.le_refl _) _)) hb9⟩
set_option maxHeartbeats 2000000 in
set_option maxRecDepth 100000 in
theorem doubles_plan {N z a0 a1 a2 a3 a4 : Int} (hz : In64 z) (h1 : 1 ≤ N) (h36 : N ≤ 36) (hno : ¬ TwOk N a0 a1 a2 a3 a4) (w : World) : Calls Try.prog 4 #[.int .i64 N, .int .i64 z, twV a0 a1 a2 a3 a4] w fun e w' => e = .returned (.bool true) ∧ Below w.heap.size w w' := by
  have hpn : ¬ PlanTw N a0 a1 a2 a3 a4 := fun h => by unfold PlanTw at h; first | exact h1 h.1 | exact h36 h.2.1 | exact hno h.2.2
  have q25 := fun w => double_no (z := z) hz (fun h => hpn h.1) w
  have q26 := fun w => merge_no hpn w
  have q27 := fun w => refTwice_any (n1 := a0) (c1 := a1) (r1 := a2) (n2 := a3) (c2 := a4) ⟨h1, h36⟩ w
  rw [decide_eq_false hno] at q27
  have e0 : ∀ w, (Op.equalIn 10000 27 (.agg #[.int .i64 0, .int .i64 0]) (.agg #[.int .i64 0, .int .i64 0])).run Try.prog w = .ok true w := fun w => eq27 0 0 0 0 w
  have F0 := FiveAt.new w 37 a0 a1 a2 a3 a4
  obtain ⟨wq, hwq⟩ : ∃ wq, w.alloc (.cells #[.int .i64 a0, .int .i64 a1, .int .i64 a2, .int .i64 a3, .int .i64 a4] 37) = wq := ⟨_, rfl⟩
  have bw0 : Below w.heap.size w wq := by rw [← hwq]; exact (Below.refl _ _).alloc (Nat.le_refl _) _
  rw [hwq] at F0
  obtain ⟨x0, x1, x2, x3, x4, _⟩ := F0.at_
  clear hpn
  unfold twV fracV at *
  go_enter Try.func4, Try.ntmps4
  go_wp2_with (first
    | (go_at_call 25; (with_reducible refine (q25 _).mono ?_); rintro e w1 ⟨rfl, hb1⟩
       have F1 := F0.after hb1
       have bw1 := bw0.trans (hb1.mono bw0.size)
       have l1 := F1.lt
       obtain ⟨x0, x1, x2, x3, x4, _⟩ := F1.at_
       clear hb1 q25 F0)
    | (go_at_call 26; (with_reducible refine (q26 _).mono ?_); rintro e w2 ⟨rfl, hb2⟩
       have ba : Below w1.heap.size w1 (w1.alloc (.cells #[.int .i64 0, .int .i64 0] 27)) := (Below.refl _ _).alloc (Nat.le_refl _) _
       have bb : Below (w1.alloc (.cells #[.int .i64 0, .int .i64 0] 27)).heap.size (w1.alloc (.cells #[.int .i64 0, .int .i64 0] 27)) ((w1.alloc (.cells #[.int .i64 0, .int .i64 0] 27)).alloc (.cells #[.int .i64 0, .int .i64 0] 27)) := (Below.refl _ _).alloc (Nat.le_refl _) _
       have o7 := ((Own2.new w1 (.int .i64 0) (.int .i64 0) 27).after bb).after hb2
       have o8 := (Own2.new (w1.alloc (.cells #[.int .i64 0, .int .i64 0] 27)) (.int .i64 0) (.int .i64 0) 27).after hb2
       rw [World.size_alloc] at o8
       have F2 := ((F1.after ba).after bb).after hb2
       have bw2 := (bw1.trans (ba.mono bw1.size))
       have bw2 := bw2.trans (bb.mono bw2.size)
       have bw2 := bw2.trans (hb2.mono bw2.size)
       have l7 := o7.lt
       have l8 := o8.lt
       have l2 := F2.lt
       obtain ⟨x0, x1, x2, x3, x4, _⟩ := F2.at_
       obtain ⟨s0, s1, _, _⟩ := id o7
       obtain ⟨t0, t1, _, _⟩ := id o8
       clear hb2 q26 F1 ba bb)
    | (go_at_call 27; (with_reducible refine (q27 _).mono ?_); rintro e w3 ⟨rfl, hb3⟩
       have bc : Below w2.heap.size w2 (w2.alloc (.cells #[.slice none 0 0, .slice none 0 0] 42)) := (Below.refl _ _).alloc (Nat.le_refl _) _
       have o10 := (Own2.new w2 (.slice none 0 0) (.slice none 0 0) 42).after hb3
       have o7 := (o7.after bc).after hb3
       have o8 := (o8.after bc).after hb3
       have bw3 := bw2.trans (bc.mono bw2.size)
       have bw3 := bw3.trans (hb3.mono bw3.size)
       obtain ⟨s0, s1, _, _⟩ := id o7
       obtain ⟨t0, t1, _, _⟩ := id o8
       obtain ⟨u0, u1, _, _⟩ := id o10
       clear hb3 bc q27 F2)
    | (go_at_call 20; refine (awake_any _).mono ?_; rintro e w9 ⟨rfl, hb9⟩))
  all_goals go_ret
  all_goals exact ⟨rfl, bstep bw3 hb9⟩
set_option maxHeartbeats 2000000 in
set_option maxRecDepth 100000 in
theorem doubles_half {N n1 c1 r1 n2 c2 : Nat} {z : Int} (hz : In64 z) (h1 : 1 ≤ N) (h36 : N ≤ 36) (hno : ¬ (0 ≤ z ∧ z ≤ (N : Int))) (hok : TwOk N n1 c1 r1 n2 c2) (w : World) : Calls Try.prog 4 #[.int .i64 N, .int .i64 z, twV n1 c1 r1 n2 c2] w fun e w' => e = .returned (.bool true) ∧ Below w.heap.size w w' := by
  have q25 := fun w => double_no (N := (N : Int)) (z := z) (a0 := n1) (a1 := c1) (a2 := r1) (a3 := n2) (a4 := c2) hz (fun h => hno h.2) w
  obtain ⟨k1, k2, k3, k4, k5, k6, k7, k8, k9, k10⟩ := id hok
  have g1 : 1 ≤ n1 := by omega
  have g2 : 1 ≤ n2 := by omega
  have gL : n1 + n2 ≤ N := by omega
  have q26 := fun w => merge_any h1 h36 hok w
  have q27 := fun w => refTwice_any (N := (N : Int)) (n1 := n1) (c1 := c1) (r1 := r1) (n2 := n2) (c2 := c2) ⟨by omega, by omega⟩ w
  rw [decide_eq_true hok] at q27
  have q28 := Keep.mk (fun (W : World) (x : Crs) (hc : CrsIn W x) (hk : CrsOk x N) => refFits_any (N := (N : Int)) ⟨by omega, by omega⟩ (ints_crs hc).1 (ints_crs hc).2 (by simp; have := hk.l2; omega) (by simp; have := hk.l2; omega))
  have q29 := Keep.mk (fun (W : World) (x : Crs) (hc : CrsIn W x) (eL : x.L = n1 + n2) (eA : x.A = mrgA n1 c1 c2 (n1 + n2)) (eR : x.R = mrgR n1 r1 c2 (n1 + n2)) => refMerges_any g1 g2 (by omega) hc eL eA eR (by omega) (by omega) (by omega))
  have hcok := Keep.mk (fun (ga oa ca gr ro cr : Nat) => (mrg_ok g1 g2 gL (by omega) (by omega) (by omega) : CrsOk (⟨ga, oa, ca, gr, ro, cr, n1 + n2, mrgA n1 c1 c2 (n1 + n2), mrgR n1 r1 c2 (n1 + n2)⟩ : Crs) N))
  have q19 := fun w => lot_any (N := (N : Int)) (z := z) w
  have wL : IntKind.i64.wrap ((n1 : Int) + (n2 : Int)) = ((n1 + n2 : Nat) : Int) := by rw [IntWalk.i64_in _ (by omega)]; push_cast; rfl
  have wL' : IntKind.i64.wrap ((n1 : Int) + (n2 : Int)) = (n1 : Int) + (n2 : Int) := IntWalk.i64_in _ (by omega)
  have h1i : 1 ≤ (N : Int) := by omega
  have h36i : (N : Int) ≤ 36 := by omega
  rw [decide_eq_false (fun h => hno ⟨h.2.2.1, h.2.2.2⟩)] at q19
  have e0 : ∀ w, (Op.equalIn 10000 27 (.agg #[.int .i64 0, .int .i64 0]) (.agg #[.int .i64 0, .int .i64 0])).run Try.prog w = .ok true w := fun w => eq27 0 0 0 0 w
  have F0 := FiveAt.new w 37 (n1 : Int) (c1 : Int) (r1 : Int) (n2 : Int) (c2 : Int)
  obtain ⟨wq, hwq⟩ : ∃ wq, w.alloc (.cells #[.int .i64 (n1 : Int), .int .i64 (c1 : Int), .int .i64 (r1 : Int), .int .i64 (n2 : Int), .int .i64 (c2 : Int)] 37) = wq := ⟨_, rfl⟩
  have bw0 : Below w.heap.size w wq := by rw [← hwq]; exact (Below.refl _ _).alloc (Nat.le_refl _) _
  rw [hwq] at F0
  obtain ⟨x0, x1, x2, x3, x4, _⟩ := F0.at_
  clear hno k1 k2 k3 k4 k5 k6 k7 k8 k9 k10 g1 g2 gL
  unfold twV fracV at *
  go_enter Try.func4, Try.ntmps4
  go_wp2_with (first
    | (go_at_call 25; (with_reducible refine (q25 _).mono ?_); rintro e w1 ⟨rfl, hb1⟩
       have F1 := F0.after hb1
       have bw1 := bw0.trans (hb1.mono bw0.size)
       have l1 := F1.lt
       obtain ⟨x0, x1, x2, x3, x4, _⟩ := F1.at_
       clear hb1 q25 F0)
    | (go_at_call 26; (with_reducible refine (q26 _).mono ?_); rintro e w2 ⟨⟨ga, oa, ca, gr, ro, cr, L', xA, xR⟩, rfl, hx, xL1, xA1, xR1, hb2⟩
       have xL2 : L' = n1 + n2 := xL1
       have xA2 : xA = mrgA n1 c1 c2 (n1 + n2) := xA1
       have xR2 : xR = mrgR n1 r1 c2 (n1 + n2) := xR1
       subst xL2 xA2 xR2
       have ba : Below w1.heap.size w1 (w1.alloc (.cells #[.int .i64 0, .int .i64 0] 27)) := (Below.refl _ _).alloc (Nat.le_refl _) _
       have bb : Below (w1.alloc (.cells #[.int .i64 0, .int .i64 0] 27)).heap.size (w1.alloc (.cells #[.int .i64 0, .int .i64 0] 27)) ((w1.alloc (.cells #[.int .i64 0, .int .i64 0] 27)).alloc (.cells #[.int .i64 0, .int .i64 0] 27)) := (Below.refl _ _).alloc (Nat.le_refl _) _
       have o7 := ((Own2.new w1 (.int .i64 0) (.int .i64 0) 27).after bb).after hb2
       have o8 := (Own2.new (w1.alloc (.cells #[.int .i64 0, .int .i64 0] 27)) (.int .i64 0) (.int .i64 0) 27).after hb2
       rw [World.size_alloc] at o8
       have F2 := ((F1.after ba).after bb).after hb2
       have bw2 := (bw1.trans (ba.mono bw1.size))
       have bw2 := bw2.trans (bb.mono bw2.size)
       have bw2 := bw2.trans (hb2.mono bw2.size)
       have hD : DbR w w1.heap.size (w1.heap.size + 1) (.int .i64 0) (.int .i64 0) (.int .i64 0) (.int .i64 0) w2 := ⟨o7, o8, bw2⟩
       clear ba bb o7 o8 bw2 F1
       simp only [Crs.val, Crs.sa, Crs.sr]
       obtain ⟨w4, hw4⟩ : ∃ w4, w2.alloc (.cells #[.slice (some ⟨ga, oa, none⟩) (n1 + n2) ca, .slice (some ⟨gr, ro, none⟩) (n1 + n2) cr] 42) = w4 := ⟨_, rfl⟩
       have b4 : Below w2.heap.size w2 w4 := by rw [← hw4]; exact (Below.refl _ _).alloc (Nat.le_refl _) _
       have hX4 : XR w2.heap.size (⟨ga, oa, ca, gr, ro, cr, n1 + n2, mrgA n1 c1 c2 (n1 + n2), mrgR n1 r1 c2 (n1 + n2)⟩ : Crs) w4 := ⟨by rw [← hw4]; exact Own2.new _ _ _ _, hx.after b4⟩
       have F2 := F2.after b4
       have hD := hD.after b4
       have hfit := fit_crs (hcok.out ga oa ca gr ro cr)
       obtain ⟨x0, x1, x2, x3, x4, _⟩ := F2.at_
       clear hb2 b4 q26 hx xL1 xA1 xR1)
    | (go_at_call 27; (with_reducible refine (q27 _).mono ?_); rintro e w5 ⟨rfl, hb5⟩
       have F2 := F2.after hb5
       have hX4 := hX4.after hb5
       have hD := hD.after hb5
       obtain ⟨x0, x1, x2, x3, x4, _⟩ := F2.at_
       obtain ⟨v0, v1, _, _⟩ := hX4.o
       simp only [Crs.sa, Crs.sr] at v0 v1
       have q28' := q28.out w5 _ hX4.c (hcok.out ga oa ca gr ro cr)
       rw [decide_eq_true hfit] at q28'
       simp only [Crs.sa, Crs.sr] at q28'
       clear hb5 q27)
    | (go_at_call 28; (with_reducible refine q28'.mono ?_); rintro e w6 ⟨rfl, hb6⟩
       have F2 := F2.after hb6
       have hX4 := hX4.after hb6
       have hD := hD.after hb6
       obtain ⟨x0, x1, x2, x3, x4, _⟩ := F2.at_
       obtain ⟨v0, v1, _, _⟩ := hX4.o
       simp only [Crs.sa, Crs.sr] at v0 v1
       have q29' := q29.out w6 _ hX4.c rfl rfl rfl
       simp only [Crs.val, Crs.sa, Crs.sr, twV] at q29'
       clear hb6 q28')
    | (go_at_call 29; (with_reducible refine q29'.mono ?_); rintro e w7 ⟨rfl, hb7⟩
       have F2 := F2.after hb7
       have hD := hD.after hb7
       obtain ⟨s0, s1, _, _⟩ := hD.o
       obtain ⟨t0, t1, _, _⟩ := hD.q
       obtain ⟨x0, x1, x2, x3, x4, _⟩ := F2.at_
       clear hb7 q29')
    | (go_at_call 19; refine (q19 _).mono ?_; rintro e w8 ⟨rfl, rfl⟩)
    | (go_at_call 20; refine (awake_any _).mono ?_; rintro e w9 ⟨rfl, hb9⟩))
  all_goals go_ret
  all_goals exact ⟨rfl, bstep hD.bw hb9⟩
set_option maxHeartbeats 2000000 in
set_option maxRecDepth 100000 in
theorem doubles_yes {N d n1 c1 r1 n2 c2 : Nat} (h1 : 1 ≤ N) (h36 : N ≤ 36) (hdN : d ≤ N) (hok : TwOk N n1 c1 r1 n2 c2) (w : World) : Calls Try.prog 4 #[.int .i64 N, .int .i64 d, twV n1 c1 r1 n2 c2] w fun e w' => e = .returned (.bool true) ∧ Below w.heap.size w w' := by
  have hmx : Try.prog.follows .mixedOrders = true := by kernel_rfl
  have q25 := fun w => double_any h1 h36 hdN hok w
  obtain ⟨k1, k2, k3, k4, k5, k6, k7, k8, k9, k10⟩ := id hok
  have g1 : 1 ≤ n1 := by omega
  have g2 : 1 ≤ n2 := by omega
  have gL : n1 + n2 ≤ N := by omega
  have q26 := fun w => merge_any h1 h36 hok w
  have q27 := fun w => refTwice_any (N := (N : Int)) (n1 := n1) (c1 := c1) (r1 := r1) (n2 := n2) (c2 := c2) ⟨by omega, by omega⟩ w
  rw [decide_eq_true hok] at q27
  have q28 := Keep.mk (fun (W : World) (x : Crs) (hc : CrsIn W x) (hk : CrsOk x N) => refFits_any (N := (N : Int)) ⟨by omega, by omega⟩ (ints_crs hc).1 (ints_crs hc).2 (by simp; have := hk.l2; omega) (by simp; have := hk.l2; omega))
  have q29 := Keep.mk (fun (W : World) (x : Crs) (hc : CrsIn W x) (eL : x.L = n1 + n2) (eA : x.A = mrgA n1 c1 c2 (n1 + n2)) (eR : x.R = mrgR n1 r1 c2 (n1 + n2)) => refMerges_any g1 g2 (by omega) hc eL eA eR (by omega) (by omega) (by omega))
  have hcok := Keep.mk (fun (ga oa ca gr ro cr : Nat) => (mrg_ok g1 g2 gL (by omega) (by omega) (by omega) : CrsOk (⟨ga, oa, ca, gr, ro, cr, n1 + n2, mrgA n1 c1 c2 (n1 + n2), mrgR n1 r1 c2 (n1 + n2)⟩ : Crs) N))
  have q19 := fun w => lot_any (N := (N : Int)) (z := (d : Int)) w
  have wL : IntKind.i64.wrap ((n1 : Int) + (n2 : Int)) = ((n1 + n2 : Nat) : Int) := by rw [IntWalk.i64_in _ (by omega)]; push_cast; rfl
  have wL' : IntKind.i64.wrap ((n1 : Int) + (n2 : Int)) = (n1 : Int) + (n2 : Int) := IntWalk.i64_in _ (by omega)
  have h1i : 1 ≤ (N : Int) := by omega
  have h36i : (N : Int) ≤ 36 := by omega
  have hdl : decide ((1 : Int) ≤ (N : Int) ∧ (N : Int) ≤ 36 ∧ 0 ≤ (d : Int) ∧ (d : Int) ≤ (N : Int)) = true := decide_eq_true (by omega)
  simp only [hdl] at q19
  have q30 := fun w => refDouble_any h36 hdN g1 g2 gL (by omega : c1 ≤ n1) (by omega : c1 + 1 < r1) (by omega : r1 ≤ n1 + 1) (by omega : c2 < n1 + n2) (by omega : r1 ≤ c2 + 1) w
  have q21 := fun w => binom_any (n := N) (z := (d : Int)) h36 ⟨by omega, by omega⟩ w
  simp only [chZ_nat] at q21
  have m1 := mrg_acc (c1 := c1) (r1 := r1) (c2 := c2) h36 hdN g2 gL
  have m2 := mrg_le (c1 := c1) (r1 := r1) (c2 := c2) h36 hdN g2 gL
  have p1 := ch_pos hdN
  have p2 := ch_le h36 d
  have m3 : (n1 + n2) * ch N d ≤ 36 * 9075135300 := Nat.mul_le_mul (by omega) p2
  obtain ⟨A, hA⟩ : ∃ A, Keep (accAll N d (mrgA n1 c1 c2 (n1 + n2)) (mrgR n1 r1 c2 (n1 + n2)) (n1 + n2) = A) := ⟨_, ⟨rfl⟩⟩
  obtain ⟨M, hM⟩ : ∃ M, Keep (exAll N d (mrgA n1 c1 c2 (n1 + n2)) (mrgR n1 r1 c2 (n1 + n2)) (n1 + n2) = M) := ⟨_, ⟨rfl⟩⟩
  obtain ⟨X, hX⟩ : ∃ X, Keep (ch N d = X) := ⟨_, ⟨rfl⟩⟩
  simp only [hA.out, hM.out, hX.out] at q25 q30 q21
  rw [hA.out, hX.out] at m1
  rw [hM.out] at m2
  rw [hX.out] at p1 p2
  have r1' := fun w => reduced_any A X (by omega) p1 (by omega) w
  have r2' := fun w => reduced_any M X (by omega) p1 (by omega) w
  have e1 : ∀ w, (Op.equalIn 10000 27 (.agg #[.int .i64 (rN A X : Nat), .int .i64 (rD A X : Nat)]) (.agg #[.int .i64 (rN A X : Nat), .int .i64 (rD A X : Nat)])).run Try.prog w = .ok true w := fun w => by rw [eq27]; simp
  have e2 : ∀ w, (Op.equalIn 10000 27 (.agg #[.int .i64 (rN M X : Nat), .int .i64 (rD M X : Nat)]) (.agg #[.int .i64 (rN M X : Nat), .int .i64 (rD M X : Nat)])).run Try.prog w = .ok true w := fun w => by rw [eq27]; simp
  have F0 := FiveAt.new w 37 (n1 : Int) (c1 : Int) (r1 : Int) (n2 : Int) (c2 : Int)
  obtain ⟨wq, hwq⟩ : ∃ wq, w.alloc (.cells #[.int .i64 (n1 : Int), .int .i64 (c1 : Int), .int .i64 (r1 : Int), .int .i64 (n2 : Int), .int .i64 (c2 : Int)] 37) = wq := ⟨_, rfl⟩
  have bw0 : Below w.heap.size w wq := by rw [← hwq]; exact (Below.refl _ _).alloc (Nat.le_refl _) _
  rw [hwq] at F0
  obtain ⟨x0, x1, x2, x3, x4, _⟩ := F0.at_
  clear hdl k1 k2 k3 k4 k5 k6 k7 k8 k9 k10 g1 g2 gL m1 m2 m3 p1 p2
  unfold twV redV fracV at *
  go_enter Try.func4, Try.ntmps4
  go_wp2_with (first
    | (go_at_call 25; (with_reducible refine (q25 _).mono ?_); rintro e w1 ⟨rfl, hb1⟩
       have F1 := F0.after hb1
       have bw1 := bw0.trans (hb1.mono bw0.size)
       obtain ⟨wz, hwz⟩ : ∃ wz, w1.alloc (.cells #[.int .i64 (rN A X : Nat), .int .i64 (rD A X : Nat)] 27) = wz := ⟨_, rfl⟩
       obtain ⟨wy, hwy⟩ : ∃ wy, wz.alloc (.cells #[.int .i64 (rN M X : Nat), .int .i64 (rD M X : Nat)] 27) = wy := ⟨_, rfl⟩
       have sz : wz.heap.size = w1.heap.size + 1 := by rw [← hwz]; simp
       have bz : Below w1.heap.size w1 wz := by rw [← hwz]; exact (Below.refl _ _).alloc (Nat.le_refl _) _
       have by_ : Below wz.heap.size wz wy := by rw [← hwy]; exact (Below.refl _ _).alloc (Nat.le_refl _) _
       have o7 : Own2 wy w1.heap.size (.int .i64 (rN A X : Nat)) (.int .i64 (rD A X : Nat)) := by
         have : Own2 wz w1.heap.size (.int .i64 (rN A X : Nat)) (.int .i64 (rD A X : Nat)) := by rw [← hwz]; exact Own2.new _ _ _ _
         exact this.after by_
       have o8 : Own2 wy (w1.heap.size + 1) (.int .i64 (rN M X : Nat)) (.int .i64 (rD M X : Nat)) := by rw [← sz, ← hwy]; exact Own2.new _ _ _ _
       have F1 := (F1.after bz).after by_
       have bw1 := bw1.trans (bz.mono bw1.size)
       have bw1 := bw1.trans (by_.mono bw1.size)
       have hD : DbR w w1.heap.size (w1.heap.size + 1) (.int .i64 (rN A X : Nat)) (.int .i64 (rD A X : Nat)) (.int .i64 (rN M X : Nat)) (.int .i64 (rD M X : Nat)) wy := ⟨o7, o8, bw1⟩
       obtain ⟨x0, x1, x2, x3, x4, _⟩ := F1.at_
       clear hb1 q25 F0 bz by_ o7 o8 bw1)
    | (go_at_call 26; (with_reducible refine (q26 _).mono ?_); rintro e w2 ⟨⟨ga, oa, ca, gr, ro, cr, L', xA, xR⟩, rfl, hx, xL1, xA1, xR1, hb2⟩
       have xL2 : L' = n1 + n2 := xL1
       have xA2 : xA = mrgA n1 c1 c2 (n1 + n2) := xA1
       have xR2 : xR = mrgR n1 r1 c2 (n1 + n2) := xR1
       subst xL2 xA2 xR2
       have F2 := F1.after hb2
       have hD := hD.after hb2
       clear F1
       simp only [Crs.val, Crs.sa, Crs.sr]
       obtain ⟨w4, hw4⟩ : ∃ w4, w2.alloc (.cells #[.slice (some ⟨ga, oa, none⟩) (n1 + n2) ca, .slice (some ⟨gr, ro, none⟩) (n1 + n2) cr] 42) = w4 := ⟨_, rfl⟩
       have b4 : Below w2.heap.size w2 w4 := by rw [← hw4]; exact (Below.refl _ _).alloc (Nat.le_refl _) _
       have hX4 : XR w2.heap.size (⟨ga, oa, ca, gr, ro, cr, n1 + n2, mrgA n1 c1 c2 (n1 + n2), mrgR n1 r1 c2 (n1 + n2)⟩ : Crs) w4 := ⟨by rw [← hw4]; exact Own2.new _ _ _ _, hx.after b4⟩
       have F2 := F2.after b4
       have hD := hD.after b4
       have hfit := fit_crs (hcok.out ga oa ca gr ro cr)
       obtain ⟨x0, x1, x2, x3, x4, _⟩ := F2.at_
       clear hb2 b4 q26 hx xL1 xA1 xR1)
    | (go_at_call 27; (with_reducible refine (q27 _).mono ?_); rintro e w5 ⟨rfl, hb5⟩
       have F2 := F2.after hb5
       have hX4 := hX4.after hb5
       have hD := hD.after hb5
       obtain ⟨x0, x1, x2, x3, x4, _⟩ := F2.at_
       obtain ⟨v0, v1, _, _⟩ := hX4.o
       simp only [Crs.sa, Crs.sr] at v0 v1
       have q28' := q28.out w5 _ hX4.c (hcok.out ga oa ca gr ro cr)
       rw [decide_eq_true hfit] at q28'
       simp only [Crs.sa, Crs.sr] at q28'
       clear hb5 q27)
    | (go_at_call 28; (with_reducible refine q28'.mono ?_); rintro e w6 ⟨rfl, hb6⟩
       have F2 := F2.after hb6
       have hX4 := hX4.after hb6
       have hD := hD.after hb6
       obtain ⟨x0, x1, x2, x3, x4, _⟩ := F2.at_
       obtain ⟨v0, v1, _, _⟩ := hX4.o
       simp only [Crs.sa, Crs.sr] at v0 v1
       have q29' := q29.out w6 _ hX4.c rfl rfl rfl
       simp only [Crs.val, Crs.sa, Crs.sr, twV] at q29'
       clear hb6 q28')
    | (go_at_call 29; (with_reducible refine q29'.mono ?_); rintro e w7 ⟨rfl, hb7⟩
       have F2 := F2.after hb7
       have hD := hD.after hb7
       obtain ⟨s0, s1, _, _⟩ := hD.o
       obtain ⟨t0, t1, _, _⟩ := hD.q
       obtain ⟨x0, x1, x2, x3, x4, _⟩ := F2.at_
       clear hb7 q29')
    | (go_at_call 19; refine (q19 _).mono ?_; rintro e w8 ⟨rfl, rfl⟩)
    | (go_at_call 30; (with_reducible refine (q30 _).mono ?_); rintro e w8 ⟨rfl, hb8⟩
       have hD := hD.after hb8
       clear hb8 q30)
    | (go_at_call 21; (with_reducible refine (q21 _).mono ?_); rintro e w9 ⟨rfl, rfl⟩))
  try rw [hwz, hwy]
  obtain ⟨G, hG⟩ : ∃ G, w1.heap.size = G := ⟨_, rfl⟩
  rw [hG] at hD ⊢
  clear hG q19 q21 q28 q29 hcok
  refine (wpIn_wide (n := 0)).1 ?_
  refine Many.region_many (fun _ W => DbR w G (G + 1) (.int .i64 (rN A X : Nat)) (.int .i64 (rD A X : Nat)) (.int .i64 (rN M X : Nat)) (.int .i64 (rD M X : Nat)) W) hmx (by kernel_rfl) (fun s s' W' h hc => hc) (fun s hs => hD.after ((Below.refl _ _).drew)) ?_
  refine Many.lex_want (by rfl) (Many.tr_read (v := .agg #[.int .i64 (rN A X : Nat), .int .i64 (rD A X : Nat)]) (DbR w G (G + 1) (.int .i64 (rN A X : Nat)) (.int .i64 (rD A X : Nat)) (.int .i64 (rN M X : Nat)) (.int .i64 (rD M X : Nat))) (fun s W h => h) (fun s W h => h) (fun W ⟨⟨u0, u1, u2, u3⟩, ⟨y0, y1, y2, y3⟩, _⟩ => by (go_simp; try rfl))) ?_
  simp only [Act.put, List.setIfInBounds_toArray, List.set_cons_succ, List.set_cons_zero, Nat.reduceAdd]
  refine Many.lex_want (by rfl) (Many.tr_read (v := .int .i64 A) (DbR w G (G + 1) (.int .i64 (rN A X : Nat)) (.int .i64 (rD A X : Nat)) (.int .i64 (rN M X : Nat)) (.int .i64 (rD M X : Nat))) (fun s W h => h) (fun s W h => h) (fun W ⟨⟨u0, u1, u2, u3⟩, ⟨y0, y1, y2, y3⟩, _⟩ => by (go_simp; try rfl))) ?_
  simp only [Act.put, List.setIfInBounds_toArray, List.set_cons_succ, List.set_cons_zero, Nat.reduceAdd]
  refine Many.lex_want (by rfl) (Many.tr_read (v := .int .i64 X) (DbR w G (G + 1) (.int .i64 (rN A X : Nat)) (.int .i64 (rD A X : Nat)) (.int .i64 (rN M X : Nat)) (.int .i64 (rD M X : Nat))) (fun s W h => h) (fun s W h => h) (fun W ⟨⟨u0, u1, u2, u3⟩, ⟨y0, y1, y2, y3⟩, _⟩ => by (go_simp; try rfl))) ?_
  simp only [Act.put, List.setIfInBounds_toArray, List.set_cons_succ, List.set_cons_zero, Nat.reduceAdd]
  refine Many.lex_want (by rfl) (Many.tr_call (v := .agg #[.int .i64 (rN A X : Nat), .int .i64 (rD A X : Nat)]) (f := 23) (args := #[.int .i64 A, .int .i64 X]) (DbR w G (G + 1) (.int .i64 (rN A X : Nat)) (.int .i64 (rD A X : Nat)) (.int .i64 (rN M X : Nat)) (.int .i64 (rD M X : Nat))) (fun s W h => h) (fun s W h => (r1' W).mono fun e w' q => ⟨q.1, h.after q.2⟩) (fun W h => by (go_simp; try rfl))) ?_
  simp only [Act.put, List.setIfInBounds_toArray, List.set_cons_succ, List.set_cons_zero, Nat.reduceAdd]
  refine Many.lex_want (by rfl) (Many.tr_read (v := .bool true) (DbR w G (G + 1) (.int .i64 (rN A X : Nat)) (.int .i64 (rD A X : Nat)) (.int .i64 (rN M X : Nat)) (.int .i64 (rD M X : Nat))) (fun s W h => h) (fun s W h => h) (fun W ⟨⟨u0, u1, u2, u3⟩, ⟨y0, y1, y2, y3⟩, _⟩ => by (go_simp; try rfl))) ?_
  simp only [Act.put, List.setIfInBounds_toArray, List.set_cons_succ, List.set_cons_zero, Nat.reduceAdd]
  refine Many.lex_want (by rfl) (Many.tr_read (v := .bool true) (DbR w G (G + 1) (.int .i64 (rN A X : Nat)) (.int .i64 (rD A X : Nat)) (.int .i64 (rN M X : Nat)) (.int .i64 (rD M X : Nat))) (fun s W h => h) (fun s W h => h) (fun W ⟨⟨u0, u1, u2, u3⟩, ⟨y0, y1, y2, y3⟩, _⟩ => by (go_simp; try rfl))) ?_
  simp only [Act.put, List.setIfInBounds_toArray, List.set_cons_succ, List.set_cons_zero, Nat.reduceAdd]
  refine Many.lex_want (by rfl) (Many.tr_read (v := .agg #[.int .i64 (rN M X : Nat), .int .i64 (rD M X : Nat)]) (DbR w G (G + 1) (.int .i64 (rN A X : Nat)) (.int .i64 (rD A X : Nat)) (.int .i64 (rN M X : Nat)) (.int .i64 (rD M X : Nat))) (fun s W h => h) (fun s W h => h) (fun W ⟨⟨u0, u1, u2, u3⟩, ⟨y0, y1, y2, y3⟩, _⟩ => by (go_simp; try rfl))) ?_
  simp only [Act.put, List.setIfInBounds_toArray, List.set_cons_succ, List.set_cons_zero, Nat.reduceAdd]
  refine Many.lex_want (by rfl) (Many.tr_read (v := .int .i64 M) (DbR w G (G + 1) (.int .i64 (rN A X : Nat)) (.int .i64 (rD A X : Nat)) (.int .i64 (rN M X : Nat)) (.int .i64 (rD M X : Nat))) (fun s W h => h) (fun s W h => h) (fun W ⟨⟨u0, u1, u2, u3⟩, ⟨y0, y1, y2, y3⟩, _⟩ => by (go_simp; try rfl))) ?_
  simp only [Act.put, List.setIfInBounds_toArray, List.set_cons_succ, List.set_cons_zero, Nat.reduceAdd]
  refine Many.lex_want (by rfl) (Many.tr_read (v := .int .i64 X) (DbR w G (G + 1) (.int .i64 (rN A X : Nat)) (.int .i64 (rD A X : Nat)) (.int .i64 (rN M X : Nat)) (.int .i64 (rD M X : Nat))) (fun s W h => h) (fun s W h => h) (fun W ⟨⟨u0, u1, u2, u3⟩, ⟨y0, y1, y2, y3⟩, _⟩ => by (go_simp; try rfl))) ?_
  simp only [Act.put, List.setIfInBounds_toArray, List.set_cons_succ, List.set_cons_zero, Nat.reduceAdd]
  refine Many.lex_want (by rfl) (Many.tr_call (v := .agg #[.int .i64 (rN M X : Nat), .int .i64 (rD M X : Nat)]) (f := 23) (args := #[.int .i64 M, .int .i64 X]) (DbR w G (G + 1) (.int .i64 (rN A X : Nat)) (.int .i64 (rD A X : Nat)) (.int .i64 (rN M X : Nat)) (.int .i64 (rD M X : Nat))) (fun s W h => h) (fun s W h => (r2' W).mono fun e w' q => ⟨q.1, h.after q.2⟩) (fun W h => by (go_simp; try rfl))) ?_
  simp only [Act.put, List.setIfInBounds_toArray, List.set_cons_succ, List.set_cons_zero, Nat.reduceAdd]
  refine Many.lex_want (by rfl) (Many.tr_read (v := .bool true) (DbR w G (G + 1) (.int .i64 (rN A X : Nat)) (.int .i64 (rD A X : Nat)) (.int .i64 (rN M X : Nat)) (.int .i64 (rD M X : Nat))) (fun s W h => h) (fun s W h => h) (fun W ⟨⟨u0, u1, u2, u3⟩, ⟨y0, y1, y2, y3⟩, _⟩ => by (go_simp; try rfl))) ?_
  simp only [Act.put, List.setIfInBounds_toArray, List.set_cons_succ, List.set_cons_zero, Nat.reduceAdd]
  refine Many.lex_want (by rfl) (Many.tr_read (v := .bool true) (DbR w G (G + 1) (.int .i64 (rN A X : Nat)) (.int .i64 (rD A X : Nat)) (.int .i64 (rN M X : Nat)) (.int .i64 (rD M X : Nat))) (fun s W h => h) (fun s W h => h) (fun W ⟨⟨u0, u1, u2, u3⟩, ⟨y0, y1, y2, y3⟩, _⟩ => by (go_simp; try rfl))) ?_
  simp only [Act.put, List.setIfInBounds_toArray, List.set_cons_succ, List.set_cons_zero, Nat.reduceAdd]
  refine Many.lex_want (by rfl) (Many.tr_read (v := .bool true) (DbR w G (G + 1) (.int .i64 (rN A X : Nat)) (.int .i64 (rD A X : Nat)) (.int .i64 (rN M X : Nat)) (.int .i64 (rD M X : Nat))) (fun s W h => h) (fun s W h => h) (fun W ⟨⟨u0, u1, u2, u3⟩, ⟨y0, y1, y2, y3⟩, _⟩ => by (go_simp; try rfl))) ?_
  simp only [Act.put, List.setIfInBounds_toArray, List.set_cons_succ, List.set_cons_zero, Nat.reduceAdd]
  refine Many.lex_want (by rfl) (Many.tr_read (v := .int .i64 0) (DbR w G (G + 1) (.int .i64 (rN A X : Nat)) (.int .i64 (rD A X : Nat)) (.int .i64 (rN M X : Nat)) (.int .i64 (rD M X : Nat))) (fun s W h => h) (fun s W h => h) (fun W ⟨⟨u0, u1, u2, u3⟩, ⟨y0, y1, y2, y3⟩, _⟩ => by (go_simp; try rfl))) ?_
  simp only [Act.put, List.setIfInBounds_toArray, List.set_cons_succ, List.set_cons_zero, Nat.reduceAdd]
  refine Many.lex_want (by rfl) (Many.tr_read (v := .bool true) (DbR w G (G + 1) (.int .i64 (rN A X : Nat)) (.int .i64 (rD A X : Nat)) (.int .i64 (rN M X : Nat)) (.int .i64 (rD M X : Nat))) (fun s W h => h) (fun s W h => h) (fun W ⟨⟨u0, u1, u2, u3⟩, ⟨y0, y1, y2, y3⟩, _⟩ => by (go_simp; try rfl))) ?_
  simp only [Act.put, List.setIfInBounds_toArray, List.set_cons_succ, List.set_cons_zero, Nat.reduceAdd]
  refine Many.lex_want (by rfl) (Many.tr_read (v := .bool true) (DbR w G (G + 1) (.int .i64 (rN A X : Nat)) (.int .i64 (rD A X : Nat)) (.int .i64 (rN M X : Nat)) (.int .i64 (rD M X : Nat))) (fun s W h => h) (fun s W h => h) (fun W ⟨⟨u0, u1, u2, u3⟩, ⟨y0, y1, y2, y3⟩, _⟩ => by (go_simp; try rfl))) ?_
  simp only [Act.put, List.setIfInBounds_toArray, List.set_cons_succ, List.set_cons_zero, Nat.reduceAdd]
  refine Many.lex_want (by rfl) (Many.tr_read (v := .bool true) (DbR w G (G + 1) (.int .i64 (rN A X : Nat)) (.int .i64 (rD A X : Nat)) (.int .i64 (rN M X : Nat)) (.int .i64 (rD M X : Nat))) (fun s W h => h) (fun s W h => h) (fun W ⟨⟨u0, u1, u2, u3⟩, ⟨y0, y1, y2, y3⟩, _⟩ => by (go_simp; try rfl))) ?_
  simp only [Act.put, List.setIfInBounds_toArray, List.set_cons_succ, List.set_cons_zero, Nat.reduceAdd]
  refine Many.lex_want (by rfl) (Many.tr_call (v := .bool true) (f := 20) (args := #[]) (DbR w G (G + 1) (.int .i64 (rN A X : Nat)) (.int .i64 (rD A X : Nat)) (.int .i64 (rN M X : Nat)) (.int .i64 (rD M X : Nat))) (fun s W h => h) (fun s W h => (awake_any W).mono fun e w' q => ⟨q.1, h.after q.2⟩) (fun W h => by (go_simp; try rfl))) ?_
  simp only [Act.put, List.setIfInBounds_toArray, List.set_cons_succ, List.set_cons_zero, Nat.reduceAdd]
  refine Many.lex_want (by rfl) (Many.tr_read (v := .bool true) (DbR w G (G + 1) (.int .i64 (rN A X : Nat)) (.int .i64 (rD A X : Nat)) (.int .i64 (rN M X : Nat)) (.int .i64 (rD M X : Nat))) (fun s W h => h) (fun s W h => h) (fun W ⟨⟨u0, u1, u2, u3⟩, ⟨y0, y1, y2, y3⟩, _⟩ => by (go_simp; try rfl))) ?_
  simp only [Act.put, List.setIfInBounds_toArray, List.set_cons_succ, List.set_cons_zero, Nat.reduceAdd]
  refine Many.lex_want (by rfl) (Many.tr_read (v := .bool true) (DbR w G (G + 1) (.int .i64 (rN A X : Nat)) (.int .i64 (rD A X : Nat)) (.int .i64 (rN M X : Nat)) (.int .i64 (rD M X : Nat))) (fun s W h => h) (fun s W h => h) (fun W ⟨⟨u0, u1, u2, u3⟩, ⟨y0, y1, y2, y3⟩, _⟩ => by (go_simp; try rfl))) ?_
  simp only [Act.put, List.setIfInBounds_toArray, List.set_cons_succ, List.set_cons_zero, Nat.reduceAdd]
  refine Many.lex_nil fun s W4 hs hS4 => ?_
  clear hD hs
  go_wp2
  go_ret
  exact ⟨rfl, hS4.bw⟩
theorem arr5 {cs : Array Value} (h : cs.size = 5) (hi : ∀ i, i < 5 → ∃ x : Int, cs[i]? = some (.int .i64 x)) : ∃ a b c d e : Int, cs = #[.int .i64 a, .int .i64 b, .int .i64 c, .int .i64 d, .int .i64 e] := by
  obtain ⟨a, ha⟩ := hi 0 (by omega)
  obtain ⟨b, hb⟩ := hi 1 (by omega)
  obtain ⟨c, hc⟩ := hi 2 (by omega)
  obtain ⟨d, hd⟩ := hi 3 (by omega)
  obtain ⟨e, he⟩ := hi 4 (by omega)
  refine ⟨a, b, c, d, e, ?_⟩
  apply Array.ext_getElem?
  intro i
  match i with
  | 0 => simpa using ha
  | 1 => simpa using hb
  | 2 => simpa using hc
  | 3 => simpa using hd
  | 4 => simpa using he
  | i + 5 => simp [Array.getElem?_eq_none, h]
set_option maxRecDepth 100000 in
theorem arg5 {W : World} {r : Reach} {b0 : Nat} {v : Value} (hval : Value.okWide Try.prog W r b0 37 v) : ∃ a b c d e : Int, v = .agg #[.int .i64 a, .int .i64 b, .int .i64 c, .int .i64 d, .int .i64 e] := by
  obtain ⟨cs, rfl, h1, h2⟩ := arr_ints (n := 5) (m := 5) (k := 3) (by kernel_rfl) (by kernel_rfl) (by kernel_rfl) (by kernel_rfl) hval
  obtain ⟨a, b, c, d, e, rfl⟩ := arr5 h1 h2
  exact ⟨a, b, c, d, e, rfl⟩
theorem doubles_any {N z a0 a1 a2 a3 a4 : Int} (hz : In64 z) (w : World) : Calls Try.prog 4 #[.int .i64 N, .int .i64 z, .agg #[.int .i64 a0, .int .i64 a1, .int .i64 a2, .int .i64 a3, .int .i64 a4]] w fun e w' => e = .returned (.bool true) ∧ Below w.heap.size w w' := by
  by_cases h1 : 1 ≤ N
  · by_cases h36 : N ≤ 36
    · by_cases hok : TwOk N a0 a1 a2 a3 a4
      · obtain ⟨N', rfl⟩ : ∃ k : Nat, N = (k : Int) := ⟨N.toNat, by omega⟩
        have hok' := hok
        unfold TwOk at hok'
        obtain ⟨n1, rfl⟩ : ∃ k : Nat, a0 = (k : Int) := ⟨a0.toNat, by omega⟩
        obtain ⟨c1, rfl⟩ : ∃ k : Nat, a1 = (k : Int) := ⟨a1.toNat, by omega⟩
        obtain ⟨r1, rfl⟩ : ∃ k : Nat, a2 = (k : Int) := ⟨a2.toNat, by omega⟩
        obtain ⟨n2, rfl⟩ : ∃ k : Nat, a3 = (k : Int) := ⟨a3.toNat, by omega⟩
        obtain ⟨c2, rfl⟩ : ∃ k : Nat, a4 = (k : Int) := ⟨a4.toNat, by omega⟩
        by_cases hz2 : 0 ≤ z ∧ z ≤ (N' : Int)
        · obtain ⟨d, rfl⟩ : ∃ k : Nat, z = (k : Int) := ⟨z.toNat, by omega⟩
          exact doubles_yes (by omega) (by omega) (by omega) hok w
        · exact doubles_half hz (by omega) (by omega) hz2 hok w
      · exact doubles_plan hz h1 h36 hok w
    · exact doubles_lot2 hz h1 h36 w
  · exact doubles_lot1 hz h1 w
end Go.Proofs.Ytbmfipjnfbnjgaa
