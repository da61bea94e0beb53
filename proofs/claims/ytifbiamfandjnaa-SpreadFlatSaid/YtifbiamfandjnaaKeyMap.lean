import Derived.Test.YtifbiamfandjnaaLimMath
import Derived.Test.YtifbiamfandjnaaAddFn
import Derived.Maps.Own
import Derived.Maps.OwnOps
import Derived.Maps.OwnSet
import Derived.Maps.Views
import Derived.DeepKeys4
set_option linter.unusedSimpArgs false
set_option linter.unusedVariables false
namespace Go.Proofs.Ytifbiamfandjnaa
open Go Go.Proofs Go.RowKit
theorem laid25 : laidOutB Try.prog = true := by kernel_rfl
theorem row25 : (25 : TypeId) < Try.prog.types.size := of_decide_eq_true (by kernel_rfl)
theorem wide25 : (match Try.prog.underlying 25 with | some (.array _ _) | some (.struct _) => true | _ => false) = true := by rw [Try.underlying25]
set_option maxRecDepth 100000 in
theorem keylaw25 : WideMaps.KeyLaw Try.prog 25 := deep_law_laid laid25 (m := 2) (by omega) row25 (by kernel_rfl) wide25
theorem law25 : Maps.Keyed Try.prog 25 := Maps.Keyed.of_law keylaw25
theorem zero3 (w : World) : (zeroValue 3).run Try.prog w = .ok (.int .i64 0) w := by kernel_rfl
def keyL (a b : Int) : Lit := .string (keyBytes [.int .i64 a, .int .i64 b])
theorem cells25 : Try.prog.cellsOf 25 = 2 := by kernel_rfl
theorem cells3' : Try.prog.cellsOf 3 = 1 := by kernel_rfl
theorem wf_of {a : Int} (h : In64 a) : (Lit.int .i64 a).wf = true := WalkArith.wf_i64 (by unfold In64 at h; omega)
theorem key25 {a b : Int} (ha : In64 a) (hb : In64 b) : keyOf Try.prog 25 (fracV a b) = some (keyL a b) := by
  have hk : Try.prog.keyType 25 = true := by kernel_rfl
  have hf : (fracV a b).formed Try.prog 25 = true := by unfold fracV; simp [Value.formed, Try.underlying25, cells25]
  obtain ⟨m, hm⟩ : ∃ m, Try.prog.types.size = m + 1 := ⟨Try.prog.types.size - 1, by have h : (25 : Nat) < Try.prog.types.size := row25; omega⟩
  have h3 : ∀ x : Int, In64 x → Try.prog.keyLits (m + 1) 3 [.int .i64 x] = some [.int .i64 x] := fun x hx => by
    unfold Program.keyLits
    rw [Try.underlying3]
    simp [wf_of hx]
  unfold keyOf
  rw [Try.underlying25]
  simp only [hk, hf, Bool.and_self, if_true]
  rw [hm]
  unfold Program.keyLits
  rw [Try.underlying25]
  simp [fracV, Value.cells, cells25, cells3', h3 a ha, h3 b hb, keyL]
theorem red_parts (e : Int) {P : Int} (hP : 0 < P) : e * redD e P = redN e P * P ∧ 0 < redD e P ∧ redD e P ≤ P ∧ -(e.natAbs : Int) ≤ redN e P ∧ redN e P ≤ (e.natAbs : Int) := by
  have hgp : 0 < Int.gcd e P := Int.gcd_pos_of_ne_zero_right _ (by omega)
  unfold redN redD
  have d1 : ((Int.gcd e P : Nat) : Int) ∣ e := Int.gcd_dvd_left _ _
  have d2 : ((Int.gcd e P : Nat) : Int) ∣ P := Int.gcd_dvd_right _ _
  generalize Int.gcd e P = g at *
  obtain ⟨a, ha⟩ := d1
  obtain ⟨b, hb⟩ := d2
  have q1 : e.tdiv (g : Int) = a := by rw [ha]; exact Int.mul_tdiv_cancel_left _ (by omega)
  have q2 : P / (g : Int) = b := by rw [hb]; exact Int.mul_ediv_cancel_left _ (by omega)
  have hb1 : 0 < b := by
    rcases Int.lt_or_le 0 b with h | h
    · exact h
    · have := Int.mul_nonneg (show (0 : Int) ≤ g by omega) (show (0 : Int) ≤ -b by omega)
      rw [Int.mul_neg] at this; omega
  rw [q1, q2]
  refine ⟨?_, hb1, ?_, ?_, ?_⟩
  · rw [ha, hb, Int.mul_assoc, Int.mul_left_comm, Int.mul_comm]
  · have := Int.mul_le_mul_of_nonneg_right (show (1 : Int) ≤ g by omega) (show (0 : Int) ≤ b by omega)
    omega
  · have : a.natAbs ≤ e.natAbs := by rw [ha, Int.natAbs_mul]; exact Nat.le_mul_of_pos_left _ (by simpa using hgp)
    omega
  · have : a.natAbs ≤ e.natAbs := by rw [ha, Int.natAbs_mul]; exact Nat.le_mul_of_pos_left _ (by simpa using hgp)
    omega
theorem red_lt_iff {e l P : Int} (hP : 0 < P) : redN e P * redD l P < redN l P * redD e P ↔ e < l := by
  obtain ⟨a1, a2, _⟩ := red_parts e hP
  obtain ⟨b1, b2, _⟩ := red_parts l hP
  generalize redN e P = n at *
  generalize redD e P = d at *
  generalize redN l P = n' at *
  generalize redD l P = d' at *
  have hd : 0 < d * d' := Int.mul_pos a2 b2
  have k1 : (n * d') * P = e * (d * d') := by rw [Int.mul_right_comm, ← a1, Int.mul_assoc]
  have k2 : (n' * d) * P = l * (d * d') := by rw [Int.mul_right_comm, ← b1, Int.mul_assoc, Int.mul_comm d' d]
  constructor
  · intro h
    have := Int.mul_lt_mul_of_pos_right h hP
    rw [k1, k2] at this
    exact Int.lt_of_mul_lt_mul_right this (Int.le_of_lt hd)
  · intro h
    have := Int.mul_lt_mul_of_pos_right h hd
    rw [← k1, ← k2] at this
    exact Int.lt_of_mul_lt_mul_right this (Int.le_of_lt hP)
theorem red_inj_int {e l P : Int} (hP : 0 < P) (h1 : redN e P = redN l P) (h2 : redD e P = redD l P) : e = l := by
  obtain ⟨a1, a2, _⟩ := red_parts e hP
  obtain ⟨b1, b2, _⟩ := red_parts l hP
  rw [h1, ← b1, h2] at a1
  exact Int.eq_of_mul_eq_mul_right (by omega) a1
def kl (P e : Int) : Lit := keyL (redN e P) (redD e P)
theorem key_red {e P : Int} (hP : 0 < P) (hP2 : P ≤ 1000000) (he : e.natAbs ≤ 1000000) : keyOf Try.prog 25 (fracV (redN e P) (redD e P)) = some (kl P e) := by
  obtain ⟨_, a2, a3, a4, a5⟩ := red_parts e hP
  exact key25 (by unfold In64; omega) (by unfold In64; omega)
theorem kl_inj {e l P : Int} (hP : 0 < P) (hP2 : P ≤ 1000000) (he : e.natAbs ≤ 1000000) (hl : l.natAbs ≤ 1000000) (h : kl P e = kl P l) : e = l := by
  have k1 := key_red hP hP2 he
  have k2 := key_red hP hP2 hl
  rw [h] at k1
  have := keylaw25.inj k1 k2
  unfold fracV at this
  simp only [Value.agg.injEq, Array.mk.injEq, List.cons.injEq, Value.int.injEq, true_and, and_true] at this
  exact red_inj_int hP this.1 this.2
abbrev DU := DataW Unit
/-- The map of the first places, behind k rounds. -/
def fmap (P : Int) (g : Nat → Int) : Nat → DU
  | 0 => .map []
  | k + 1 => if Maps.has (fmap P g k) (kl P (g k)) = true then fmap P g k else (fmap P g k).put (kl P (g k)) (.lit (.int .i64 k))
theorem fmap_isMap (P : Int) (g : Nat → Int) : ∀ k, Maps.IsMap (fmap P g k)
  | 0 => Maps.isMap_empty
  | k + 1 => by
    unfold fmap
    split
    · exact fmap_isMap P g k
    · exact (fmap_isMap P g k).put _ _
theorem kl_key {e P : Int} (hP : 0 < P) (hP2 : P ≤ 1000000) (he : e.natAbs ≤ 1000000) : WideAt.IsKeyLit (kl P e) := law25.key (key_red hP hP2 he)
theorem fmap_spec {P : Int} {g : Nat → Int} {K : Nat} (hP : 0 < P) (hP2 : P ≤ 1000000) (hg : ∀ t, t < K → (g t).natAbs ≤ 1000000) : ∀ k, k ≤ K → (∀ e : Int, e.natAbs ≤ 1000000 → (Maps.has (fmap P g k) (kl P e) = true ↔ ∃ t, t < k ∧ g t = e)) ∧
    ∀ i, i < k → (∀ j, j < i → g j ≠ g i) → ∀ z : DU, (fmap P g k).atKey (kl P (g i)) z = .lit (.int .i64 i)
  | 0, _ => ⟨fun e _ => by simp [fmap, Maps.has_eq], fun i h => by omega⟩
  | k + 1, hK => by
    obtain ⟨h1, h2⟩ := fmap_spec hP hP2 hg k (by omega)
    unfold fmap
    by_cases hh : Maps.has (fmap P g k) (kl P (g k)) = true
    · rw [if_pos hh]
      refine ⟨fun e he => ⟨fun h => ?_, fun h => ?_⟩, fun i hi hf z => ?_⟩
      · obtain ⟨t, ht, e1⟩ := (h1 e he).1 h
        exact ⟨t, by omega, e1⟩
      · obtain ⟨t, ht, e1⟩ := h
        by_cases e2 : t = k
        · rw [e2] at e1; rw [← e1]; exact hh
        · exact (h1 e he).2 ⟨t, by omega, e1⟩
      · by_cases e2 : i = k
        · obtain ⟨t, ht, e1⟩ := (h1 _ (hg k (by omega))).1 hh
          rw [e2] at hf
          exact absurd e1 (hf t ht)
        · exact h2 i (by omega) hf z
    · rw [if_neg hh]
      have hk := kl_key hP hP2 (hg k (by omega))
      refine ⟨fun e he => ?_, fun i hi hf z => ?_⟩
      · by_cases e2 : e = g k
        · rw [e2, Maps.has_put_same (fmap_isMap P g k) hk]
          exact ⟨fun _ => ⟨k, by omega, rfl⟩, fun _ => rfl⟩
        · rw [Maps.has_put_other (fun h => e2 (kl_inj hP hP2 he (hg k (by omega)) h)), h1 e he]
          constructor
          · rintro ⟨t, ht, e1⟩; exact ⟨t, by omega, e1⟩
          · rintro ⟨t, ht, e1⟩
            refine ⟨t, ?_, e1⟩
            by_cases e3 : t = k
            · rw [e3] at e1; exact absurd e1.symm e2
            · omega
      · by_cases e2 : i = k
        · rw [e2, Maps.atKey_put_same (fmap_isMap P g k) hk]
        · have hne : g i ≠ g k := fun e1 => hh ((h1 _ (hg k (by omega))).2 ⟨i, by omega, e1⟩)
          rw [Maps.atKey_put_other (fun h => hne (kl_inj hP hP2 (hg i (by omega)) (hg k (by omega)) h))]
          exact h2 i (by omega) hf z
theorem red_gcd (e : Int) {P : Int} (hP : 0 < P) : Int.gcd (redN e P) (redD e P) = 1 := by
  have hgp : 0 < Int.gcd e P := Int.gcd_pos_of_ne_zero_right _ (by omega)
  have h := Nat.coprime_div_gcd_div_gcd (m := e.natAbs) (n := P.natAbs) hgp
  have e1 : (redN e P).natAbs = e.natAbs / Nat.gcd e.natAbs P.natAbs := by
    unfold redN; rw [Int.natAbs_tdiv]; rfl
  have e2 : (redD e P).natAbs = P.natAbs / Nat.gcd e.natAbs P.natAbs := by
    unfold redD
    obtain ⟨p, rfl⟩ : ∃ p : Nat, P = (p : Int) := ⟨P.toNat, by omega⟩
    rfl
  unfold Int.gcd
  rw [e1, e2]; exact h
theorem red_term {e P : Int} (hP : 0 < P) (hP2 : P ≤ 60000) (he : e.natAbs ≤ 60000) : termB (redN e P) (redD e P) = true := by
  obtain ⟨_, a2, a3, a4, a5⟩ := red_parts e hP
  unfold termB validB
  rw [Bool.and_eq_true, decide_eq_true_iff, decide_eq_true_iff]
  exact ⟨⟨by omega, red_gcd e hP⟩, by omega, by omega, by omega⟩
theorem red_term_neg {e P : Int} (hP : 0 < P) (hP2 : P ≤ 60000) (he : e.natAbs ≤ 60000) : termB (-redN e P) (redD e P) = true := by
  obtain ⟨_, a2, a3, a4, a5⟩ := red_parts e hP
  unfold termB validB
  rw [Bool.and_eq_true, decide_eq_true_iff, decide_eq_true_iff]
  exact ⟨⟨by omega, by rw [Int.neg_gcd]; exact red_gcd e hP⟩, by omega, by omega, by omega⟩
theorem red_diff {lo up P : Int} (hP : 0 < P) (h : lo ≤ up) {D : Nat} (hD : (D : Int) = up - lo) :
    redN (sumN (redN up P) (redD up P) (-redN lo P) (redD lo P)) (sumD (redD up P) (redD lo P)) = redN (D : Int) P ∧ redD (sumN (redN up P) (redD up P) (-redN lo P) (redD lo P)) (sumD (redD up P) (redD lo P)) = redD (D : Int) P := by
  obtain ⟨a1, a2, _⟩ := red_parts up hP
  obtain ⟨b1, b2, _⟩ := red_parts lo hP
  generalize redN up P = n at *
  generalize redD up P = d at *
  generalize redN lo P = n' at *
  generalize redD lo P = d' at *
  have hdd : 0 < sumD d d' := Int.mul_pos a2 b2
  have key : sumN n d (-n') d' * P = (D : Int) * sumD d d' := by
    unfold sumN sumD
    rw [Int.add_mul, Int.neg_mul, Int.neg_mul, Int.mul_right_comm n d' P, ← a1, Int.mul_right_comm n' d P, ← b1, hD, Int.sub_mul, Int.mul_assoc, Int.mul_assoc lo, Int.mul_comm d' d]
    omega
  have hnn : 0 ≤ sumN n d (-n') d' := by
    rcases Int.lt_or_le (sumN n d (-n') d') 0 with hc | hc
    · have k1 := Int.mul_pos (show 0 < -(sumN n d (-n') d') by omega) hP
      have k2 := Int.mul_nonneg (show (0 : Int) ≤ D by omega) (Int.le_of_lt hdd)
      rw [Int.neg_mul] at k1; omega
    · exact hc
  obtain ⟨X, hX⟩ : ∃ X : Nat, sumN n d (-n') d' = (X : Int) := ⟨(sumN n d (-n') d').toNat, by omega⟩
  obtain ⟨Y, hY⟩ : ∃ Y : Nat, sumD d d' = (Y : Int) := ⟨(sumD d d').toNat, by omega⟩
  obtain ⟨Q, hQ⟩ : ∃ Q : Nat, P = (Q : Int) := ⟨P.toNat, by omega⟩
  rw [hX, hY, hQ] at key
  rw [hX, hY, hQ]
  exact red_same (by omega) (by omega) (by
    have : ((X * Q : Nat) : Int) = ((D * Y : Nat) : Int) := by rw [Int.natCast_mul, Int.natCast_mul]; exact key
    omega)
/-- The least and the greatest one so far, 0 at the start. -/
def loF (g : Nat → Int) : Nat → Int
  | 0 => 0
  | k + 1 => if g k < loF g k then g k else loF g k
def hiF (g : Nat → Int) : Nat → Int
  | 0 => 0
  | k + 1 => if hiF g k < g k then g k else hiF g k
theorem lo_spec {g : Nat → Int} (h0 : g 0 = 0) : ∀ k, (∃ i, i < k + 1 ∧ g i = loF g (k + 1) ∧ ∀ j, j < i → g i < g j) ∧ ∀ j, j < k + 1 → loF g (k + 1) ≤ g j
  | 0 => by
    have e : loF g 1 = 0 := by simp [loF, h0]
    rw [e]
    exact ⟨⟨0, by omega, h0, fun j hj => by omega⟩, fun j hj => by rw [show j = 0 by omega, h0]; exact Int.le_refl _⟩
  | k + 1 => by
    obtain ⟨⟨i, hi, e1, e2⟩, h⟩ := lo_spec h0 k
    have e : loF g (k + 1 + 1) = if g (k + 1) < loF g (k + 1) then g (k + 1) else loF g (k + 1) := rfl
    rw [e]
    by_cases hc : g (k + 1) < loF g (k + 1)
    · rw [if_pos hc]
      refine ⟨⟨k + 1, by omega, rfl, fun j hj => by have := h j hj; omega⟩, fun j hj => ?_⟩
      by_cases e3 : j = k + 1
      · rw [e3]; exact Int.le_refl _
      · have := h j (by omega); omega
    · rw [if_neg hc]
      refine ⟨⟨i, by omega, e1, e2⟩, fun j hj => ?_⟩
      by_cases e3 : j = k + 1
      · rw [e3]; omega
      · exact h j (by omega)
theorem hi_spec {g : Nat → Int} (h0 : g 0 = 0) : ∀ k, (∃ i, i < k + 1 ∧ g i = hiF g (k + 1) ∧ ∀ j, j < i → g j < g i) ∧ ∀ j, j < k + 1 → g j ≤ hiF g (k + 1)
  | 0 => by
    have e : hiF g 1 = 0 := by simp [hiF, h0]
    rw [e]
    exact ⟨⟨0, by omega, h0, fun j hj => by omega⟩, fun j hj => by rw [show j = 0 by omega, h0]; exact Int.le_refl _⟩
  | k + 1 => by
    obtain ⟨⟨i, hi, e1, e2⟩, h⟩ := hi_spec h0 k
    have e : hiF g (k + 1 + 1) = if hiF g (k + 1) < g (k + 1) then g (k + 1) else hiF g (k + 1) := rfl
    rw [e]
    by_cases hc : hiF g (k + 1) < g (k + 1)
    · rw [if_pos hc]
      refine ⟨⟨k + 1, by omega, rfl, fun j hj => by have := h j hj; omega⟩, fun j hj => ?_⟩
      by_cases e3 : j = k + 1
      · rw [e3]; exact Int.le_refl _
      · have := h j (by omega); omega
    · rw [if_neg hc]
      refine ⟨⟨i, by omega, e1, e2⟩, fun j hj => ?_⟩
      by_cases e3 : j = k + 1
      · rw [e3]; omega
      · exact h j (by omega)
end Go.Proofs.Ytifbiamfandjnaa
