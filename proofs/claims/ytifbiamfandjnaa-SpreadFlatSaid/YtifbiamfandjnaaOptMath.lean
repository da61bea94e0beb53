import Derived.Test.YtifbiamfandjnaaRefLine3
import Derived.Test.YtifbiamfandjnaaBestFn
set_option linter.unusedSimpArgs false
set_option linter.unusedVariables false
namespace Go.Proofs.Ytifbiamfandjnaa
open Go Go.Proofs Go.RowKit
theorem foldl_ge (l : List Wit) : ∀ a : Wit × Int, a.2 ≤ (l.foldl wStep a).2 := by
  induction l with
  | nil => intro a; exact Int.le_refl _
  | cons x l ih =>
    intro a
    refine Int.le_trans ?_ (ih _)
    unfold wStep
    split <;> omega
theorem worst_ge {xs : List Wit} {x : Wit} (h : x ∈ xs) : (x.2.2.natAbs : Int) ≤ (worstOf xs).2 := by
  obtain ⟨p, q, rfl⟩ := List.append_of_mem h
  unfold worstOf
  rw [List.foldl_append, List.foldl_cons]
  refine Int.le_trans ?_ (foldl_ge q _)
  unfold wStep
  split <;> omega
theorem all_mem {N n t : Nat} {g : Nat → Nat} (ht : t ≤ N) {x : Wit} (h : x ∈ witsAt N n g t) : x ∈ allWits N n g := by
  unfold allWits upTo; rw [List.mem_flatMap]; exact ⟨t, by rw [List.mem_range]; omega, h⟩
theorem mid_eq {zs : List Int} {N t : Nat} (h : t ≤ N) : mid zs N t = belowC zs t := by unfold mid; rw [if_pos h]
theorem filter_split (p q : Int → Bool) (hpq : ∀ x, p x = true → q x = true) : ∀ l : List Int, (l.filter p).length ≤ (l.filter q).length
  | [] => Nat.le_refl _
  | x :: l => by
    have := filter_split p q hpq l
    rw [List.filter_cons, List.filter_cons]
    by_cases h1 : p x = true
    · rw [if_pos h1, if_pos (hpq x h1)]; simp only [List.length_cons]; omega
    · rw [if_neg h1]; split
      · simp only [List.length_cons]; omega
      · exact this
theorem filter_more (p q : Int → Bool) (hpq : ∀ x, p x = true → q x = true) {z : Int} : ∀ {l : List Int}, z ∈ l → p z = false → q z = true → (l.filter p).length + 1 ≤ (l.filter q).length
  | x :: l, hz, hp, hq => by
    rw [List.filter_cons, List.filter_cons]
    rcases List.mem_cons.1 hz with rfl | hz
    · rw [if_neg (by rw [hp]; decide), if_pos hq]
      have := filter_split p q hpq l
      simp only [List.length_cons]; omega
    · have := filter_more p q hpq hz hp hq
      by_cases h1 : p x = true
      · rw [if_pos h1, if_pos (hpq x h1)]; simp only [List.length_cons]; omega
      · rw [if_neg h1]; split
        · simp only [List.length_cons]; omega
        · exact this
theorem below_jump {zs : List Int} {t : Nat} (h : (t : Int) ∈ zs) : belowC zs t + 1 ≤ belowC zs (t + 1) := by
  unfold belowC
  refine filter_more _ _ ?_ h ?_ ?_
  · intro x hx; simp only [decide_eq_true_eq] at hx ⊢; omega
  · simp
  · simp only [decide_eq_true_eq]; omega
theorem line_big {N : Nat} {zs : List Int} (hok : okLine N zs = true) : (N : Int) ≤ 2 * (lineW N zs).2 := by
  unfold okLine at hok
  rw [Bool.and_eq_true, decide_eq_true_iff] at hok
  obtain ⟨⟨k1, k2, k3, k4⟩, hall⟩ := hok
  obtain ⟨z, hz⟩ : ∃ z, z ∈ zs := by
    cases zs with
    | nil => simp at k3
    | cons z l => exact ⟨z, List.mem_cons_self ..⟩
  have hzr := List.all_eq_true.1 hall z hz
  simp only [decide_eq_true_eq] at hzr
  obtain ⟨t, rfl⟩ : ∃ t : Nat, z = (t : Int) := ⟨z.toNat, by omega⟩
  have ht : t < N := by omega
  have hj := below_jump hz
  have hw : witsAt N zs.length (mid zs N) t = [(t, true, exc N zs.length (belowC zs t) t), (t, false, exc N zs.length (belowC zs (t + 1)) t)] := by
    unfold witsAt; rw [if_neg (by omega), mid_eq (by omega), mid_eq (by omega)]
  have g1 := worst_ge (all_mem (N := N) (n := zs.length) (g := mid zs N) (t := t) (by omega) (x := (t, true, exc N zs.length (belowC zs t) t)) (by rw [hw]; simp))
  have g2 := worst_ge (all_mem (N := N) (n := zs.length) (g := mid zs N) (t := t) (by omega) (x := (t, false, exc N zs.length (belowC zs (t + 1)) t)) (by rw [hw]; simp))
  simp only at g1 g2
  have hd : exc N zs.length (belowC zs t) t + (N : Int) ≤ exc N zs.length (belowC zs (t + 1)) t := by
    unfold exc
    have : ((belowC zs t : Nat) : Int) * (N : Int) + (N : Int) ≤ ((belowC zs (t + 1) : Nat) : Int) * (N : Int) := by
      have h1 : (((belowC zs t : Nat) : Int) + 1) * (N : Int) ≤ ((belowC zs (t + 1) : Nat) : Int) * (N : Int) := Int.mul_le_mul_of_nonneg_right (by omega) (by omega)
      rw [Int.add_mul, Int.one_mul] at h1; exact h1
    omega
  unfold lineW
  omega
theorem odds_below (n t : Nat) : t ≤ 2 * n → belowC (odds n) t = t / 2 := by
  unfold belowC odds
  induction n generalizing t with
  | zero => intro h; have : t = 0 := by omega
            subst this; rfl
  | succ n ih =>
    intro h
    rw [List.range_succ, List.map_append, List.filter_append, List.length_append]
    simp only [List.map_cons, List.map_nil, List.filter_cons, List.filter_nil]
    by_cases h1 : t ≤ 2 * n
    · rw [ih t h1, if_neg (by simp only [decide_eq_true_eq]; omega)]; simp
    · have h2 : t = 2 * n + 1 ∨ t = 2 * n + 2 := by omega
      have h3 : ((List.map (fun i : Nat => 2 * (i : Int) + 1) (List.range n)).filter fun z => decide (z < (t : Int))).length = n := by
        rw [List.filter_eq_self.2 (by
          intro a ha
          rw [List.mem_map] at ha
          obtain ⟨i, hi, rfl⟩ := ha
          rw [List.mem_range] at hi
          simp only [decide_eq_true_eq]; omega)]
        simp
      rw [h3]
      rcases h2 with rfl | rfl
      · rw [if_neg (by simp only [decide_eq_true_eq]; omega)]; simp; try omega
      · rw [if_pos (by simp only [decide_eq_true_eq]; omega)]; simp; try omega
theorem line_odds {n : Nat} (h1 : 1 ≤ n) : (lineW (2 * n) (odds n)).2 = n := by
  have hl : (odds n).length = n := by simp [odds]
  unfold lineW
  rw [hl]
  apply Int.le_antisymm
  · refine (worstOf_le (B := (n : Int)) (by omega) ?_).2
    intro x hx
    unfold allWits upTo at hx
    rw [List.mem_flatMap] at hx
    obtain ⟨t, ht, hx⟩ := hx
    rw [List.mem_range] at ht
    unfold witsAt at hx
    rw [mid_eq (by omega), odds_below n t (by omega)] at hx
    have e1 : ∀ c : Nat, exc (2 * n) n c t = (n : Int) * (2 * (c : Int) - (t : Int)) := by
      intro c; unfold exc; rw [Int.mul_sub, Int.mul_comm (t : Int)]; push_cast
      rw [Int.mul_left_comm (c : Int) 2, Int.mul_comm (c : Int), Int.mul_left_comm (n : Int) 2]
    have e2 : ∀ d : Int, d = 0 ∨ d = 1 ∨ d = -1 → (((n : Int) * d).natAbs : Int) ≤ n := by
      rintro d (rfl | rfl | rfl)
      · rw [Int.mul_zero]; simp
      · rw [Int.mul_one]; omega
      · rw [Int.mul_neg, Int.mul_one]; omega
    by_cases htN : t = 2 * n
    · rw [if_pos htN, List.mem_singleton] at hx
      subst hx
      rw [e1]; exact e2 _ (by omega)
    · rw [if_neg htN, mid_eq (by omega), odds_below n (t + 1) (by omega)] at hx
      simp only [List.mem_cons, List.not_mem_nil, or_false] at hx
      rcases hx with rfl | rfl
      · rw [e1]; exact e2 _ (by omega)
      · rw [e1]; exact e2 _ (by omega)
  · have g := worst_ge (all_mem (N := 2 * n) (n := n) (g := mid (odds n) (2 * n)) (t := 1) (by omega) (x := (1, true, exc (2 * n) n (belowC (odds n) 1) 1)) (by
      unfold witsAt; rw [if_neg (by omega), mid_eq (by omega)]; simp))
    rw [odds_below n 1 (by omega)] at g
    simp only [exc] at g
    simp at g
    exact g
theorem red_odds {n : Nat} (h1 : 1 ≤ n) : redN (n : Int) ((n : Int) * ((2 * n : Nat) : Int)) = 1 ∧ redD (n : Int) ((n : Int) * ((2 * n : Nat) : Int)) = 2 * (n : Int) := by
  have hg : Int.gcd (n : Int) ((n : Int) * ((2 * n : Nat) : Int)) = n := by simp
  unfold redN redD
  rw [hg]
  constructor
  · exact Int.tdiv_self (by omega)
  · rw [Int.mul_ediv_cancel_left _ (by omega)]; push_cast; rfl
theorem red_less {w n N : Nat} (hn : 1 ≤ n) (hN : 1 ≤ N) (h : (N : Int) ≤ 2 * (w : Int)) : ¬ (redN (w : Int) ((n : Int) * N) * (2 * (n : Int)) < 1 * redD (w : Int) ((n : Int) * N)) := by
  obtain ⟨P, hP⟩ : ∃ P : Int, (n : Int) * N = P := ⟨_, rfl⟩
  have hP1 : 1 ≤ P := by
    have : 1 * 1 ≤ n * N := Nat.mul_le_mul hn hN
    rw [← hP]; omega
  have hgp : 0 < Int.gcd (w : Int) P := Int.gcd_pos_of_ne_zero_right _ (by omega)
  rw [hP]
  unfold redN redD
  have d1 : ((Int.gcd (w : Int) P : Nat) : Int) ∣ (w : Int) := Int.gcd_dvd_left _ _
  have d2 : ((Int.gcd (w : Int) P : Nat) : Int) ∣ P := Int.gcd_dvd_right _ _
  generalize Int.gcd (w : Int) P = g at *
  obtain ⟨a, ha⟩ := d1
  obtain ⟨b, hb⟩ := d2
  have q1 : (w : Int).tdiv (g : Int) = a := by rw [ha, Int.mul_tdiv_cancel_left _ (by omega)]
  have q2 : P / (g : Int) = b := by rw [hb, Int.mul_ediv_cancel_left _ (by omega)]
  rw [q1, q2, Int.one_mul]
  intro hlt
  have h2 : (g : Int) * (a * (2 * (n : Int))) < (g : Int) * b := Int.mul_lt_mul_of_pos_left hlt (by omega)
  rw [← Int.mul_assoc, ← ha, ← hb, ← hP] at h2
  have h3 : (n : Int) * (N : Int) ≤ (n : Int) * (2 * (w : Int)) := Int.mul_le_mul_of_nonneg_left h (by omega)
  have h4 : (w : Int) * (2 * (n : Int)) = (n : Int) * (2 * (w : Int)) := by
    rw [Int.mul_comm, Int.mul_comm 2 (n : Int), Int.mul_assoc]
  omega
end Go.Proofs.Ytifbiamfandjnaa
