import Derived.Test.YtbmfipjnfbnjgaaSingle2
set_option linter.unusedSimpArgs false
set_option linter.unusedVariables false
namespace Go.Proofs.Ytbmfipjnfbnjgaa
open Go Go.Proofs Go.RowKit Go.Sample
theorem lot_any {N z : Int} (w : World) :
    Calls Try.prog 19 #[.int .i64 N, .int .i64 z] w fun e w' => e = .returned (.bool (decide (1 ≤ N ∧ N ≤ 36 ∧ 0 ≤ z ∧ z ≤ N))) ∧ w' = w := by
  obtain ⟨D, hD⟩ : ∃ D, Keep (decide (1 ≤ N ∧ N ≤ 36 ∧ 0 ≤ z ∧ z ≤ N) = D) := ⟨_, ⟨rfl⟩⟩
  rw [hD.out]
  go_enter Try.func19, Try.ntmps19
  by_cases h1 : 1 ≤ N
  · by_cases h2 : N ≤ 36
    · by_cases h3 : 0 ≤ z
      · have hDG : Keep (decide (z ≤ N) = D) := ⟨by rw [← hD.out]; by_cases h : z ≤ N <;> simp [h, h1, h2, h3]⟩
        go_wp2
        go_ret
        exact ⟨by rw [← hDG.out]; rfl, rfl⟩
      · have hDG : Keep (D = false) := ⟨by rw [← hD.out]; exact decide_eq_false (fun h => h3 h.2.2.1)⟩
        go_wp2
        go_ret
        exact ⟨by rw [hDG.out]; rfl, rfl⟩
    · have hDG : Keep (D = false) := ⟨by rw [← hD.out]; exact decide_eq_false (fun h => h2 h.2.1)⟩
      go_wp2
      go_ret
      exact ⟨by rw [hDG.out]; rfl, rfl⟩
  · have hDG : Keep (D = false) := ⟨by rw [← hD.out]; exact decide_eq_false (fun h => h1 h.1)⟩
    go_wp2
    go_ret
    exact ⟨by rw [hDG.out]; rfl, rfl⟩
theorem refPlan_any {N n c : Int} (w : World) :
    Calls Try.prog 22 #[.int .i64 N, .int .i64 n, .int .i64 c] w fun e w' => e = .returned (.bool (decide (0 ≤ c ∧ c < n ∧ n ≤ N))) ∧ w' = w := by
  obtain ⟨D, hD⟩ : ∃ D, Keep (decide (0 ≤ c ∧ c < n ∧ n ≤ N) = D) := ⟨_, ⟨rfl⟩⟩
  rw [hD.out]
  go_enter Try.func22, Try.ntmps22
  by_cases h1 : 0 ≤ c
  · by_cases h2 : c < n
    · have hDG : Keep (decide (n ≤ N) = D) := ⟨by rw [← hD.out]; by_cases h : n ≤ N <;> simp [h, h1, h2]⟩
      go_wp2
      go_ret
      exact ⟨by rw [← hDG.out]; rfl, rfl⟩
    · have hDG : Keep (D = false) := ⟨by rw [← hD.out]; exact decide_eq_false (fun h => h2 h.2.1)⟩
      go_wp2
      go_ret
      exact ⟨by rw [hDG.out]; rfl, rfl⟩
  · have hDG : Keep (D = false) := ⟨by rw [← hD.out]; exact decide_eq_false (fun h => h1 h.1)⟩
    go_wp2
    go_ret
    exact ⟨by rw [hDG.out]; rfl, rfl⟩
theorem binom_step {m i : Nat} : ch (m + i) i * (m + (i + 1)) = ch (m + (i + 1)) (i + 1) * (i + 1) := by
  have := ch_absorb (m + i) i
  rw [show m + (i + 1) = m + i + 1 by omega, Nat.mul_comm (ch (m + i + 1) (i + 1)), this, Nat.mul_comm]
set_option maxRecDepth 100000 in
theorem binom_any {n : Nat} {z : Int} (hn : n ≤ 36) (hz : In64 z) (w : World) :
    Calls Try.prog 21 #[.int .i64 n, .int .i64 z] w fun e w' => e = .returned (.int .i64 (chZ n z : Nat)) ∧ w' = w := by
  obtain ⟨X, hX⟩ : ∃ X, Keep (chZ n z = X) := ⟨_, ⟨rfl⟩⟩
  rw [hX.out]
  by_cases h0 : z < 0
  · have hX0 : Keep (X = 0) := ⟨by rw [← hX.out]; unfold chZ; rw [if_pos h0]⟩
    go_enter Try.func21, Try.ntmps21
    go_wp2
    go_ret
    exact ⟨by rw [hX0.out]; rfl, rfl⟩
  · by_cases h1 : (n : Int) < z
    · have hX0 : Keep (X = 0) := ⟨by rw [← hX.out]; unfold chZ; rw [if_neg h0]; exact ch_gt (by omega)⟩
      go_enter Try.func21, Try.ntmps21
      go_wp2
      go_ret
      exact ⟨by rw [hX0.out]; rfl, rfl⟩
    · obtain ⟨k, rfl⟩ : ∃ k : Nat, z = (k : Int) := ⟨z.toNat, by omega⟩
      have hkn : k ≤ n := by omega
      obtain ⟨m, hm⟩ : ∃ m, Keep (n = m + k) := ⟨n - k, ⟨by omega⟩⟩
      have hX0 : Keep (ch n k = X) := ⟨by rw [← hX.out]; unfold chZ; rw [if_neg h0]; rfl⟩
      have hm36 : m + k ≤ 36 := by have := hm.out; omega
      have e0 : IntKind.i64.wrap ((n : Int) - (k : Int)) = (m : Int) := by rw [IntWalk.i64_in _ (by omega)]; have := hm.out; omega
      go_enter Try.func21, Try.ntmps21
      go_wp2
      go_loop [5, 6] (fun o i => ∃ j : Nat, j ≤ k ∧ i = .int .i64 ((j : Int) + 1) ∧ o = .int .i64 (ch (m + j) j : Nat)) (fun _ i => k + 1 - (intOf i).toNat)
      case atStart => exact ⟨0, by omega, rfl, by simp⟩
      case round =>
        obtain ⟨j, hj, rfl, rfl⟩ := hrel
        by_cases hlt : j < k
        · have hle : (j : Int) + 1 ≤ (k : Int) := by omega
          have hs := binom_step (m := m) (i := j)
          have l1 := ch_le (n := m + j) (by omega) j
          have l2 := ch_le (n := m + (j + 1)) (by omega) (j + 1)
          obtain ⟨a, ha⟩ : ∃ a, Keep (ch (m + j) j = a) := ⟨_, ⟨rfl⟩⟩
          obtain ⟨b, hb⟩ : ∃ b, Keep (ch (m + (j + 1)) (j + 1) = b) := ⟨_, ⟨rfl⟩⟩
          rw [ha.out] at hs l1 ⊢
          rw [hb.out] at hs l2
          have hab : a * (m + (j + 1)) ≤ 9075135300 * 36 := Nat.mul_le_mul l1 (by omega)
          have hq : a * (m + (j + 1)) / (j + 1) = b := by rw [hs]; exact Nat.mul_div_cancel _ (by omega)
          obtain ⟨p, hp⟩ : ∃ p, Keep (a * (m + (j + 1)) = p) := ⟨_, ⟨rfl⟩⟩
          rw [hp.out] at hab hq
          have w1 : IntKind.i64.wrap ((m : Int) + ((j : Int) + 1)) = (m : Int) + ((j : Int) + 1) := IntWalk.i64_in _ (by omega)
          have w2 : IntKind.i64.wrap ((a : Int) * ((m : Int) + ((j : Int) + 1))) = (p : Int) := by
            rw [show (a : Int) * ((m : Int) + ((j : Int) + 1)) = (p : Int) by rw [← hp.out]; push_cast; rfl, IntWalk.i64_in _ (by omega)]
          have w3 : IntKind.i64.wrap ((p : Int).tdiv ((j : Int) + 1)) = (b : Int) := by
            rw [show (j : Int) + 1 = ((j + 1 : Nat) : Int) by push_cast; rfl, IntWalk.up_tdiv rfl rfl, hq, IntWalk.i64_in _ (by omega)]
          have w4 : IntKind.i64.wrap ((p : Int) / ((j : Int) + 1)) = (b : Int) := w3
          have w5 : wrap64 ((p : Int) / ((j : Int) + 1)) = (b : Int) := by
            rw [show (p : Int) / ((j : Int) + 1) = (b : Int) by rw [← hq]; push_cast; rfl]; unfold wrap64; omega
          have w6 : IntKind.i64.wrap ((j : Int) + 1 + 1) = (j : Int) + 1 + 1 := IntWalk.i64_in _ (by omega)
          have hz0 : (((j : Int) + 1) == 0) = false := by rw [beq_eq_false_iff_ne]; omega
          have hz1 : ¬ (j : Int) + 1 = 0 := by omega
          clear hs hab hq
          go_wp2
          refine ⟨⟨j + 1, by omega, by go_num, ?_⟩, by simp [intOf]; omega⟩
          rw [hb.out]; first | rw [w5] | rw [w4] | skip
        · obtain rfl : j = k := by omega
          have hle : ¬ (j : Int) + 1 ≤ (j : Int) := by omega
          go_wp2
          go_ret
          refine ⟨?_, rfl⟩
          rw [← hX0.out, hm.out]; rfl
end Go.Proofs.Ytbmfipjnfbnjgaa
