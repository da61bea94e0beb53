import Derived.Test.YtifbiamfandjnaaThereMath
set_option linter.unusedSimpArgs false
set_option linter.unusedVariables false
namespace Go.Proofs.Ytifbiamfandjnaa
open Go Go.Proofs Go.RowKit
theorem valid_of {a d : Nat} (hd : 0 < d) (h : Nat.Coprime a d) : validB (a : Int) (d : Int) = true := by
  have : Int.gcd (a : Int) (d : Int) = 1 := h
  unfold validB
  rw [decide_eq_true_iff]; exact ⟨by omega, this⟩
theorem term_of {a d : Nat} (hd : 0 < d) (h : Nat.Coprime a d) (h1 : a ≤ 1000000000) (h2 : d ≤ 1000000000) : termB (a : Int) (d : Int) = true := by
  unfold termB
  rw [valid_of hd h, Bool.true_and, decide_eq_true_iff]; omega
theorem sum_same {a d X Y B C s t g h : Nat} (hd : 0 < d) (e1 : s * (d * B) = a * t) (e2 : g * B = C * h) (e3 : a * Y = X * d) : (s * h + g * t) * (B * Y) = (C * Y + X) * (t * h) := by
  refine Nat.eq_of_mul_eq_mul_left hd ?_
  have l1 : d * ((s * h + g * t) * (B * Y)) = (s * (d * B)) * (h * Y) + (g * B) * (t * Y * d) := by
    simp only [Nat.mul_add, Nat.add_mul, Nat.mul_comm, Nat.mul_left_comm, Nat.mul_assoc]
  have l2 : d * ((C * Y + X) * (t * h)) = (X * d) * (t * h) + C * h * (t * Y * d) := by
    simp only [Nat.mul_add, Nat.add_mul, Nat.mul_comm, Nat.mul_left_comm, Nat.mul_assoc, Nat.add_comm]
  rw [l1, l2, e1, e2, ← e3]
  simp only [Nat.mul_comm, Nat.mul_left_comm, Nat.mul_assoc]
theorem there_facts {r K C : Nat} (hr : r < 15) (hK : K < 1000000 / (2 + r)) (hC : C < 2 + r) :
    ∃ (a d P E : Nat) (s t g h x y : Int), (K : Int) * (2 + (r : Int)) = (P : Int) ∧ (d : Int) * (2 + (r : Int)) = (E : Int) ∧ P + C ≤ 1000000 ∧ a < d ∧ d ≤ 1000000 ∧ E ≤ 16000000 ∧
      (∀ w : World, Calls Try.prog 34 #[.int .i64 (2 + (r : Int)), .int .i64 K] w fun e w' => e = .returned (.tuple #[.agg #[.int .i64 a, .int .i64 d], .int .i64 0]) ∧ Below w.heap.size w w') ∧
      (∀ w : World, Calls Try.prog 34 #[.int .i64 (2 + (r : Int)), .int .i64 ((P : Int) + (C : Int))] w fun e w' => e = .returned (.tuple #[.agg #[.int .i64 x, .int .i64 y], .int .i64 0]) ∧ Below w.heap.size w w') ∧
      (∀ w : World, Calls Try.prog 35 #[.int .i64 (2 + (r : Int)), .agg #[.int .i64 a, .int .i64 d]] w fun e w' => e = .returned (.tuple #[.int .i64 K, .int .i64 0]) ∧ Below w.heap.size w w') ∧
      (∀ w : World, Calls Try.prog 38 #[.agg #[.int .i64 a, .int .i64 d]] w fun e w' => e = .returned (.bool true) ∧ Below w.heap.size w w') ∧
      (∀ w : World, Calls Try.prog 22 #[.int .i64 a, .int .i64 E] w fun e w' => e = .returned (.agg #[.int .i64 s, .int .i64 t]) ∧ Below w.heap.size w w') ∧
      (∀ w : World, Calls Try.prog 22 #[.int .i64 C, .int .i64 (2 + (r : Int))] w fun e w' => e = .returned (.agg #[.int .i64 g, .int .i64 h]) ∧ Below w.heap.size w w') ∧
      (∀ w : World, Calls Try.prog 45 #[.agg #[.int .i64 s, .int .i64 t], .agg #[.int .i64 g, .int .i64 h]] w fun e w' => e = .returned (.tuple #[.agg #[.int .i64 x, .int .i64 y], .int .i64 0]) ∧ Below w.heap.size w w') := by
  obtain ⟨B, hB⟩ : ∃ B : Nat, B = 2 + r := ⟨_, rfl⟩
  have hBi : (2 + (r : Int)) = (B : Int) := by omega
  rw [hBi]
  rw [← hB] at hK hC
  have hb1 : 2 ≤ B := by omega
  have hb2 : B ≤ 16 := by omega
  have hKB : (K + 1) * B ≤ 1000000 := Nat.le_trans (Nat.mul_le_mul_right _ hK) (Nat.div_mul_le_self _ _)
  rw [Nat.add_mul, Nat.one_mul] at hKB
  have hK2 : K * 2 ≤ K * B := Nat.mul_le_mul_left _ hb1
  have hK3 : K < 500000 := by omega
  obtain ⟨f1, f2, f3, f4⟩ := mf_facts hb1 19 K (by omega)
  obtain ⟨⟨X, Y⟩, hXY⟩ : ∃ Z, mf B 19 K = Z := ⟨_, rfl⟩
  rw [hXY] at f1 f2 f3 f4
  simp only at f1 f2 f3
  have hY0 : 0 < Y := by omega
  have hYle : Y ≤ 1000000 := by
    by_cases h : K = 0
    · rw [f3 h]; omega
    · have := (f2 h).2; rw [Nat.mul_comm] at this; omega
  obtain ⟨a, d, g1, r1, r2, r3, r4, r5, hd0, hco, hdY, haX, hadl⟩ := lowest_nat X hY0
  have had := hadl f1
  have hm1 : mir B 20 K 0 1 = (X, Y) := by rw [mir_mf, f4]; simp
  have q34 := fun w => mirrorFn_any hb1 hb2 (show K ≤ 1000000 by omega) hm1 w
  rw [r1, r2] at q34
  have haY : a * Y = X * d := by rw [r3, r4, Nat.mul_left_comm, Nat.mul_assoc]
  have hv := valid_of hd0 hco
  have hback : backR B a d = some K := by
    have h1 := bk_mf (D := d) hb1 hd0 20 K 25 a 0 1 (by omega) (by omega) (by rw [f4]; exact haY) (by omega) (by omega)
    rw [Nat.zero_add, Nat.one_mul] at h1
    unfold backR
    rw [if_neg (by omega), h1]
  have q35 := fun w => back_any hb1 hb2 (show In64 (d : Int) from ⟨by omega, by omega⟩) hv had w
  rw [hback] at q35
  have q38 := fun w => valid_any (a : Int) (d : Int) (by omega) (by omega) (by omega) (by omega) w
  rw [hv] at q38
  obtain ⟨P, hP⟩ : ∃ P, P = K * B := ⟨_, rfl⟩
  rw [← hP] at hKB hK2
  obtain ⟨E, hE⟩ : ∃ E, E = d * B := ⟨_, rfl⟩
  have hE1 : 0 < E := by rw [hE]; exact Nat.mul_pos hd0 (by omega)
  have hE2 : E ≤ 1000000 * 16 := by rw [hE]; exact Nat.mul_le_mul (by omega) hb2
  obtain ⟨⟨X2, Y2⟩, hXY2⟩ : ∃ Z, mf B 20 (P + C) = Z := ⟨_, rfl⟩
  have hm2 : mir B 20 (P + C) 0 1 = (X2, Y2) := by rw [mir_mf, hXY2]; simp
  have q34b := fun w => mirrorFn_any hb1 hb2 (show P + C ≤ 1000000 by omega) hm2 w
  have hY2 : 0 < Y2 := by
    have := (mf_facts hb1 20 (P + C) (by omega)).1
    rw [hXY2] at this; simp only at this; omega
  have hrel : X2 * (B * Y) = (C * Y + X) * Y2 := by
    by_cases h0 : P + C = 0
    · have hC0 : C = 0 := by omega
      have hK0 : K = 0 := by omega
      rw [h0] at hXY2
      have : ((0, 1) : Nat × Nat) = (X2, Y2) := hXY2
      injection this with e1 e2
      have h2 : mf B 19 0 = (0, 1) := rfl
      rw [hK0, h2] at hXY
      injection hXY with e3 e4
      rw [← e1, hC0, ← e3]; simp
    · have e : mf B 20 (P + C) = ((P + C) % B * (mf B 19 ((P + C) / B)).2 + (mf B 19 ((P + C) / B)).1, B * (mf B 19 ((P + C) / B)).2) := by
        show (if P + C = 0 then _ else _) = _
        rw [if_neg h0]
      have em : (P + C) % B = C := by rw [hP, Nat.add_comm, Nat.add_mul_mod_self_right]; exact Nat.mod_eq_of_lt hC
      have ed : (P + C) / B = K := by rw [hP, Nat.add_comm, Nat.add_mul_div_right _ _ (by omega), Nat.div_eq_of_lt hC, Nat.zero_add]
      rw [hXY2, em, ed, hXY] at e
      injection e with e1 e2
      rw [e1, e2]
  obtain ⟨s, t, g2, s1, s2, s3, s4, s5, ht0, hst, htE, hsa, _⟩ := lowest_nat a hE1
  obtain ⟨g, h, g3, t1, t2, t3, t4, t5, hh0, hgh, hhB, hgC, _⟩ := lowest_nat C (show 0 < B by omega)
  have q22a := fun w => reduced_any (a : Int) (E : Int) (by omega) (by omega) (by omega) (by omega) w
  rw [s1, s2] at q22a
  have q22b := fun w => reduced_any (C : Int) (B : Int) (by omega) (by omega) (by omega) (by omega) w
  rw [t1, t2] at q22b
  have q45 := fun w => add_any (a := (s : Int)) (b := (t : Int)) (c := (g : Int)) (d := (h : Int)) ⟨⟨by omega, by omega⟩, ⟨by omega, by omega⟩⟩ ⟨⟨by omega, by omega⟩, ⟨by omega, by omega⟩⟩ (term_of ht0 hst (by omega) (by omega)) (term_of hh0 hgh (by omega) (by omega)) w
  have c1 : s * (d * B) = a * t := by rw [← hE, s4, s3, Nat.mul_left_comm, Nat.mul_assoc]
  have c2 : g * B = C * h := by rw [t4, t3, Nat.mul_left_comm, Nat.mul_assoc]
  have hsum := sum_same hd0 c1 c2 haY
  have z1 := red_same (Nat.mul_pos ht0 hh0) (Nat.mul_pos (show 0 < B by omega) hY0) hsum
  have z2 := red_same hY2 (Nat.mul_pos (show 0 < B by omega) hY0) hrel
  have en : sumN (s : Int) (t : Int) (g : Int) (h : Int) = ((s * h + g * t : Nat) : Int) := by unfold sumN; push_cast; rfl
  have ed : sumD (t : Int) (h : Int) = ((t * h : Nat) : Int) := by unfold sumD; push_cast; rfl
  rw [en, ed, z1.1, z1.2, ← z2.1, ← z2.2] at q45
  refine ⟨a, d, P, E, s, t, g, h, redN (X2 : Int) Y2, redD (X2 : Int) Y2, by rw [hP]; push_cast; rfl, by rw [hE]; push_cast; rfl, by omega, had, by omega, by omega, q34, ?_, q35, q38, q22a, q22b, q45⟩
  intro w
  have := q34b w
  rw [Int.natCast_add] at this
  exact this
end Go.Proofs.Ytifbiamfandjnaa
