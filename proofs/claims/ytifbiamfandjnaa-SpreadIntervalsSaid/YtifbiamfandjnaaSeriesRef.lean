import Derived.Test.YtifbiamfandjnaaMirrorFn
import Derived.Test.YtifbiamfandjnaaSeriesMath
set_option linter.unusedSimpArgs false
set_option linter.unusedVariables false
namespace Go.Proofs.Ytifbiamfandjnaa
open Go Go.Proofs Go.RowKit
def digB (b dg : Int) : Bool := baseB b && decide (1 ≤ dg ∧ dg ≤ 9)
theorem whole_no {b dg : Int} {most : Nat} (h : digB b dg = false) (w : World) :
    Calls Try.prog 42 #[.int .i64 b, .int .i64 dg, .int .i64 most] w fun e w' => e = .returned (.int .i64 0) ∧ w' = w := by
  have q36 := fun w => refBase_any b w
  unfold digB at h
  obtain ⟨D, hD⟩ : ∃ D, Keep (baseB b = D) := ⟨_, ⟨rfl⟩⟩
  rw [hD.out] at q36 h
  rcases D with _ | _
  · clear h
    go_enter Try.func42, Try.ntmps42
    go_wp2_with (go_at_call 36; (with_reducible refine (q36 _).mono ?_); rintro e w' ⟨rfl, rfl⟩)
    go_ret
    exact ⟨rfl, rfl⟩
  · have h2 : dg < 1 ∨ 9 < dg := by simp at h; omega
    clear h
    go_enter Try.func42, Try.ntmps42
    rcases h2 with h | h
    all_goals go_wp2_with (go_at_call 36; (with_reducible refine (q36 _).mono ?_); rintro e w' ⟨rfl, rfl⟩)
    all_goals go_ret
    all_goals exact ⟨rfl, rfl⟩
set_option maxHeartbeats 1000000 in
theorem whole_yes {b D most : Nat} (hb1 : 2 ≤ b) (hb2 : b ≤ 16) (h1 : 1 ≤ D) (h2 : D ≤ 9) (h3 : 1 ≤ most) (h4 : most ≤ 1000) (w : World) :
    Calls Try.prog 42 #[.int .i64 b, .int .i64 D, .int .i64 most] w fun e w' => e = .returned (.int .i64 ((if b ^ D ≤ most then b ^ D else 0 : Nat) : Nat)) ∧ w' = w := by
  have q36 := fun w => refBase_any (b : Int) w
  rw [show baseB (b : Int) = true from decide_eq_true (by omega)] at q36
  obtain ⟨R, hR⟩ : ∃ R, Keep ((if b ^ D ≤ most then b ^ D else 0 : Nat) = R) := ⟨_, ⟨rfl⟩⟩
  rw [hR.out]
  go_enter Try.func42, Try.ntmps42
  go_wp2_with (go_at_call 36; (with_reducible refine (q36 _).mono ?_); rintro e w' ⟨rfl, rfl⟩)
  go_loop [7, 8] (fun x i => ∃ p k : Nat, k ≤ D ∧ x = .int .i64 p ∧ i = .int .i64 k ∧ Keep (b ^ k = p) ∧ p ≤ most) (fun _ i => D - (intOf i).toNat)
  case atStart => exact ⟨1, 0, by omega, rfl, rfl, ⟨rfl⟩, h3⟩
  case round =>
    obtain ⟨p, k, hk, rfl, rfl, hp, hpm⟩ := hrel
    by_cases hlt : k < D
    · have hq : p * b ≤ 1000 * 16 := Nat.mul_le_mul (by omega) hb2
      obtain ⟨q, hqe⟩ : ∃ q, Keep (p * b = q) := ⟨_, ⟨rfl⟩⟩
      have hs : Keep (b ^ (k + 1) = q) := ⟨by rw [Nat.pow_succ, hp.out, hqe.out]⟩
      rw [hqe.out] at hq
      have e1 : IntKind.i64.wrap ((p : Int) * (b : Int)) = (q : Int) := by
        rw [← Int.natCast_mul, hqe.out, IntWalk.i64_in _ (by omega)]
      by_cases hm : q ≤ most
      · go_wp2
        exact ⟨⟨q, k + 1, by omega, rfl, by go_num, hs, hm⟩, by simp [intOf]; omega⟩
      · have hk0 : Keep (R = 0) := ⟨by
          rw [← hR.out]
          have : b ^ (k + 1) ≤ b ^ D := Nat.pow_le_pow_right (by omega) (by omega)
          rw [hs.out] at this
          rw [if_neg (by omega)]⟩
        go_wp2
        go_ret
        exact ⟨by rw [hk0.out]; rfl, rfl⟩
    · have : k = D := by omega
      subst this
      have hk0 : Keep (R = p) := ⟨by rw [← hR.out, hp.out, if_pos hpm]⟩
      go_wp2
      go_ret
      exact ⟨by rw [hk0.out]; rfl, rfl⟩
set_option maxHeartbeats 1000000 in
theorem turned_any {b D k : Nat} (hb1 : 2 ≤ b) (hb2 : b ≤ 16) (hD : b ^ D ≤ 1000) (hD9 : D ≤ 9) (hk : k ≤ 1000) (w : World) :
    Calls Try.prog 43 #[.int .i64 b, .int .i64 D, .int .i64 k] w fun e w' => e = .returned (.int .i64 (trn b D k 0 : Nat)) ∧ w' = w := by
  obtain ⟨R, hR⟩ : ∃ R, Keep (trn b D k 0 = R) := ⟨_, ⟨rfl⟩⟩
  rw [hR.out]
  have hDk := Keep.mk hD
  clear hD
  go_enter Try.func43, Try.ntmps43
  go_wp2
  go_loop [2, 7, 8] (fun z x i => ∃ k' n j : Nat, j ≤ D ∧ z = .int .i64 k' ∧ x = .int .i64 n ∧ i = .int .i64 j ∧ Keep (trn b (D - j) k' n = R) ∧ Keep (n < b ^ j) ∧ k' ≤ 1000) (fun _ _ i => D - (intOf i).toNat)
  case atStart => exact ⟨k, 0, 0, by omega, rfl, rfl, rfl, hR, ⟨by simp⟩, hk⟩
  case round =>
    obtain ⟨k', n, j, hj, rfl, rfl, rfl, hr, hn, hk'⟩ := hrel
    by_cases hlt : j < D
    · have hpj : b ^ (j + 1) ≤ 1000 := Nat.le_trans (Nat.pow_le_pow_right (by omega) (by omega)) hDk.out
      have hmod : k' % b < b := Nat.mod_lt _ (by omega)
      have hdiv : k' / b ≤ k' := Nat.div_le_self _ _
      have hnb : (n + 1) * b ≤ b ^ (j + 1) := by rw [Nat.pow_succ]; exact Nat.mul_le_mul_right b hn.out
      rw [Nat.add_mul, Nat.one_mul] at hnb
      have hr2 : trn b (D - (j + 1)) (k' / b) (n * b + k' % b) = R := by
        have := hr.out
        rw [show D - j = (D - (j + 1)) + 1 by omega] at this
        exact this
      obtain ⟨N1, hN1⟩ : ∃ N1, Keep (n * b = N1) := ⟨_, ⟨rfl⟩⟩
      obtain ⟨R1, hR1⟩ : ∃ R1, Keep (k' % b = R1) := ⟨_, ⟨rfl⟩⟩
      obtain ⟨Q1, hQ1⟩ : ∃ Q1, Keep (k' / b = Q1) := ⟨_, ⟨rfl⟩⟩
      rw [hN1.out] at hnb hr2
      rw [hR1.out] at hmod hr2
      rw [hQ1.out] at hdiv hr2
      have hnlt : Keep (N1 + R1 < b ^ (j + 1)) := ⟨by omega⟩
      have hsm : N1 + R1 ≤ 1000 := by omega
      clear hnb hpj
      have e1 : IntKind.i64.wrap ((n : Int) * (b : Int)) = (N1 : Int) := by
        rw [← Int.natCast_mul, hN1.out, IntWalk.i64_in _ (by omega)]
      have e2 : IntKind.i64.wrap ((k' : Int).tmod (b : Int)) = (R1 : Int) := by rw [← hR1.out, IntWalk.up_tmod rfl rfl, IntWalk.i64_in _ (by rw [hR1.out]; omega)]
      have e3 : IntKind.i64.wrap ((k' : Int).tdiv (b : Int)) = (Q1 : Int) := by rw [← hQ1.out, IntWalk.up_tdiv rfl rfl, IntWalk.i64_in _ (by rw [hQ1.out]; omega)]
      have hb0 : ((b : Int) == 0) = false := by rw [beq_eq_false_iff_ne]; omega
      have e5 : (k' : Int) % (b : Int) = (R1 : Int) := by rw [← hR1.out]; rfl
      have e6 : IntKind.i64.wrap ((k' : Int) / (b : Int)) = (Q1 : Int) := by
        rw [show (k' : Int) / (b : Int) = (Q1 : Int) from by rw [← hQ1.out]; rfl]; exact IntWalk.i64_in _ (by omega)
      have e7 : IntKind.i64.wrap ((N1 : Int) + (R1 : Int)) = ((N1 + R1 : Nat) : Int) := by rw [IntWalk.i64_in _ (by omega)]; push_cast; rfl
      have hr3 := Keep.mk hr2
      clear hr2 hr
      go_wp2
      refine ⟨⟨Q1, N1 + R1, j + 1, by omega, rfl, by push_cast; rfl, by go_num, hr3, hnlt, by omega⟩, ?_⟩
      simp [intOf]; omega
    · have : j = D := by omega
      subst this
      have hnR : Keep (n = R) := ⟨by have := hr.out; rw [Nat.sub_self] at this; exact this⟩
      go_wp2
      go_ret
      exact ⟨by rw [← hnR.out]; rfl, rfl⟩
theorem sca_no {b dg : Int} (h : digB b dg = false) (w : World) :
    Calls Try.prog 76 #[.int .i64 b, .int .i64 dg] w fun e w' => e = .returned (.tuple #[.int .i64 0, .bool false]) ∧ w' = w := by
  have q73 := fun w => isBase_any b w
  unfold digB at h
  obtain ⟨D, hD⟩ : ∃ D, Keep (baseB b = D) := ⟨_, ⟨rfl⟩⟩
  rw [hD.out] at q73 h
  rcases D with _ | _
  · clear h
    go_enter Try.func76, Try.ntmps76
    go_wp2_with (go_at_call 73; (with_reducible refine (q73 _).mono ?_); rintro e w' ⟨rfl, rfl⟩)
    go_ret2
    exact ⟨rfl, rfl⟩
  · have h2 : dg < 1 ∨ 9 < dg := by simp at h; omega
    clear h
    go_enter Try.func76, Try.ntmps76
    rcases h2 with h | h
    all_goals go_wp2_with (go_at_call 73; (with_reducible refine (q73 _).mono ?_); rintro e w' ⟨rfl, rfl⟩)
    all_goals go_ret2
    all_goals exact ⟨rfl, rfl⟩
set_option maxHeartbeats 1000000 in
theorem sca_yes {b D : Nat} (hb1 : 2 ≤ b) (hb2 : b ≤ 16) (h1 : 1 ≤ D) (h2 : D ≤ 9) (w : World) :
    Calls Try.prog 76 #[.int .i64 b, .int .i64 D] w fun e w' => e = .returned (.tuple #[.int .i64 (b ^ D : Nat), .bool (decide (((b ^ D : Nat) : Int) ≤ 1000))]) ∧ w' = w := by
  have q73 := fun w => isBase_any (b : Int) w
  rw [show baseB (b : Int) = true from decide_eq_true (by omega)] at q73
  obtain ⟨R, hR⟩ : ∃ R, Keep (b ^ D = R) := ⟨_, ⟨rfl⟩⟩
  rw [hR.out]
  go_enter Try.func76, Try.ntmps76
  go_wp2_with (go_at_call 73; (with_reducible refine (q73 _).mono ?_); rintro e w' ⟨rfl, rfl⟩)
  go_loop [6, 19] (fun x i => ∃ p k : Nat, k ≤ D ∧ x = .int .i64 p ∧ i = .int .i64 k ∧ Keep (b ^ k = p)) (fun _ i => D - (intOf i).toNat)
  case atStart => exact ⟨1, 0, by omega, rfl, rfl, ⟨rfl⟩⟩
  case round =>
    obtain ⟨p, k, hk, rfl, rfl, hp⟩ := hrel
    by_cases hlt : k < D
    · obtain ⟨q, hqe⟩ : ∃ q, Keep (p * b = q) := ⟨_, ⟨rfl⟩⟩
      have hs : Keep (b ^ (k + 1) = q) := ⟨by rw [Nat.pow_succ, hp.out, hqe.out]⟩
      have hq : q ≤ 68719476736 := by
        rw [← hs.out]
        exact Nat.le_trans (Nat.pow_le_pow_left hb2 _) (Nat.le_trans (Nat.pow_le_pow_right (n := 16) (by omega) (show k + 1 ≤ 9 by omega)) (by decide))
      have e1 : IntKind.i64.wrap ((p : Int) * (b : Int)) = (q : Int) := by
        rw [← Int.natCast_mul, hqe.out, IntWalk.i64_in _ (by omega)]
      go_wp2
      exact ⟨⟨q, k + 1, by omega, rfl, by go_num, hs⟩, by simp [intOf]; omega⟩
    · have : k = D := by omega
      subst this
      have hk0 : Keep (R = p) := ⟨by rw [← hR.out, hp.out]⟩
      go_wp2
      go_ret2
      exact ⟨by rw [hk0.out]; rfl, rfl⟩
end Go.Proofs.Ytifbiamfandjnaa
