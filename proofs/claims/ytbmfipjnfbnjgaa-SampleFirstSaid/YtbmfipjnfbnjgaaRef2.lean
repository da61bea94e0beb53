import Derived.Test.YtbmfipjnfbnjgaaRef
set_option linter.unusedSimpArgs false
set_option linter.unusedVariables false
namespace Go.Proofs.Ytbmfipjnfbnjgaa
open Go Go.Proofs Go.RowKit Go.Sample
theorem chZ_nat (n k : Nat) : chZ n (k : Int) = ch n k := by unfold chZ; rw [if_neg (by omega)]; rfl
set_option maxRecDepth 100000 in
theorem accepts_any {N n c d : Nat} (h36 : N ≤ 36) (hn : n ≤ N) (hc : c ≤ 36) (hd : d ≤ N) (w : World) :
    Calls Try.prog 24 #[.int .i64 N, .int .i64 d, .int .i64 n, .int .i64 c] w fun e w' => e = .returned (.int .i64 (acc n (N - n) d (c + 1) : Nat)) ∧ w' = w := by
  have hall : ∀ k, acc n (N - n) d k ≤ ch N d := fun k => by have := acc_le n (N - n) d k; rwa [show n + (N - n) = N by omega] at this
  have htmle : ∀ k, tm n (N - n) d k ≤ ch N d := fun k => by have := tm_le n (N - n) d k; rwa [show n + (N - n) = N by omega] at this
  have hch := ch_le h36 d
  have hallk := Keep.mk hall
  have htmk := Keep.mk htmle
  obtain ⟨X, hX⟩ : ∃ X, Keep (acc n (N - n) d (c + 1) = X) := ⟨_, ⟨rfl⟩⟩
  rw [hX.out]
  have hw0 : IntKind.i64.wrap ((N : Int) - (n : Int)) = ((N - n : Nat) : Int) := by rw [IntWalk.i64_in _ (by omega)]; omega
  have q0 := fun (k : Nat) (w : World) => binom_any (n := n) (z := (k : Int)) (by omega)
  have q1 := fun (k : Nat) (h : k ≤ 40) (w : World) => binom_any (n := n) (z := (k : Int)) (by omega) ⟨by omega, by omega⟩ w
  have q2 := fun (k : Nat) (h : k ≤ 40) (w : World) => binom_any (n := N - n) (z := (d : Int) - (k : Int)) (by omega) ⟨by omega, by omega⟩ w
  simp only [chZ_nat] at q1
  obtain ⟨m, hm⟩ : ∃ m, Keep (N - n = m) := ⟨_, ⟨rfl⟩⟩
  simp only [hm.out] at q2 hw0
  clear hall htmle q0
  go_enter Try.func24, Try.ntmps24
  go_wp2
  go_loop [9, 10] (fun s i => ∃ k : Nat, k ≤ c + 1 ∧ i = .int .i64 k ∧ s = .int .i64 (acc n (N - n) d k : Nat)) (fun _ i => c + 1 - (intOf i).toNat)
  case atStart => exact ⟨0, by omega, rfl, rfl⟩
  case round =>
    obtain ⟨k, hk, rfl, rfl⟩ := hrel
    by_cases hlt : k < c + 1
    · have hle : (k : Int) ≤ (c : Int) := by omega
      have r1 := q1 k (by omega)
      have r2 := q2 k (by omega)
      have hterm := htmk.out k
      have hacc := hallk.out k
      have hacc2 := hallk.out (k + 1)
      have hnext : Keep (acc n (N - n) d (k + 1) = acc n (N - n) d k + tm n (N - n) d k) := ⟨rfl⟩
      have htm := chZ_tm (n := n) (m := N - n) (d := d) (k := k)
      rw [← htm, hm.out] at hterm
      rw [← htm] at hnext
      obtain ⟨x, hx⟩ : ∃ x, Keep (ch n k = x) := ⟨_, ⟨rfl⟩⟩
      obtain ⟨y, hy⟩ : ∃ y, Keep (chZ m ((d : Int) - (k : Int)) = y) := ⟨_, ⟨rfl⟩⟩
      obtain ⟨z, hz⟩ : ∃ z, Keep (acc n (N - n) d k = z) := ⟨_, ⟨rfl⟩⟩
      obtain ⟨xy, hxy⟩ : ∃ xy, Keep (x * y = xy) := ⟨_, ⟨rfl⟩⟩
      have hnx : Keep (acc n (N - n) d (k + 1) = z + xy) := ⟨by rw [hnext.out, hz.out, hx.out, hm.out, hy.out, hxy.out]⟩
      rw [hx.out, hy.out, hxy.out] at hterm
      rw [hx.out] at r1
      rw [hy.out] at r2
      rw [hz.out] at hacc ⊢
      have w1 : IntKind.i64.wrap ((d : Int) - (k : Int)) = (d : Int) - (k : Int) := IntWalk.i64_in _ (by omega)
      have w2 : IntKind.i64.wrap ((x : Int) * (y : Int)) = (xy : Int) := by rw [← Int.natCast_mul, hxy.out, IntWalk.i64_in _ (by omega)]
      have w3 : IntKind.i64.wrap ((z : Int) + (xy : Int)) = (z : Int) + (xy : Int) := IntWalk.i64_in _ (by omega)
      clear hacc2 htm q1 q2 hnext
      go_wp2_with (first
        | (go_at_call 21; (with_reducible refine (r1 _).mono ?_); rintro e w5 ⟨rfl, rfl⟩)
        | (go_at_call 21; (with_reducible refine (r2 _).mono ?_); rintro e w6 ⟨rfl, rfl⟩))
      exact ⟨⟨k + 1, by omega, by go_num, by rw [hnx.out]; push_cast; rfl⟩, by simp [intOf]; omega⟩
    · obtain rfl : k = c + 1 := by omega
      have hle : ¬ ((c + 1 : Nat) : Int) ≤ (c : Int) := by omega
      clear q1 q2
      go_wp2
      go_ret
      exact ⟨by rw [hX.out]; rfl, rfl⟩
set_option maxRecDepth 100000 in
theorem refLeft_any {N n c d : Nat} (h36 : N ≤ 36) (hn : n ≤ N) (hc : c ≤ 36) (hd : d ≤ N) (w : World) :
    Calls Try.prog 45 #[.int .i64 N, .int .i64 d, .int .i64 n, .int .i64 c] w fun e w' => e = .returned (.int .i64 (lef n (N - n) d (c + 1) : Nat)) ∧ w' = w := by
  have hall : ∀ k, acc n (N - n) d k ≤ ch N d := fun k => by have := acc_le n (N - n) d k; rwa [show n + (N - n) = N by omega] at this
  have htmle : ∀ k, tm n (N - n) d k ≤ ch N d := fun k => by have := tm_le n (N - n) d k; rwa [show n + (N - n) = N by omega] at this
  have hch := ch_le h36 d
  have hlef : ∀ k, lef n (N - n) d k ≤ 9075135300 * 36 := fun k => Nat.le_trans (lef_le n (N - n) d k) (Nat.mul_le_mul (Nat.le_trans (hall k) hch) (by omega))
  have hallk := Keep.mk hlef
  have htmk := Keep.mk htmle
  obtain ⟨X, hX⟩ : ∃ X, Keep (lef n (N - n) d (c + 1) = X) := ⟨_, ⟨rfl⟩⟩
  rw [hX.out]
  have hw0 : IntKind.i64.wrap ((N : Int) - (n : Int)) = ((N - n : Nat) : Int) := by rw [IntWalk.i64_in _ (by omega)]; omega
  have q1 := fun (k : Nat) (h : k ≤ 40) (w : World) => binom_any (n := n) (z := (k : Int)) (by omega) ⟨by omega, by omega⟩ w
  have q2 := fun (k : Nat) (h : k ≤ 40) (w : World) => binom_any (n := N - n) (z := (d : Int) - (k : Int)) (by omega) ⟨by omega, by omega⟩ w
  simp only [chZ_nat] at q1
  obtain ⟨m, hm⟩ : ∃ m, Keep (N - n = m) := ⟨_, ⟨rfl⟩⟩
  simp only [hm.out] at q2 hw0
  clear hall htmle hlef
  go_enter Try.func45, Try.ntmps45
  go_wp2
  go_loop [9, 10] (fun s i => ∃ k : Nat, k ≤ c + 1 ∧ i = .int .i64 k ∧ s = .int .i64 (lef n (N - n) d k : Nat)) (fun _ i => c + 1 - (intOf i).toNat)
  case atStart => exact ⟨0, by omega, rfl, rfl⟩
  case round =>
    obtain ⟨k, hk, rfl, rfl⟩ := hrel
    by_cases hlt : k < c + 1
    · have hle : (k : Int) ≤ (c : Int) := by omega
      have r1 := q1 k (by omega)
      have r2 := q2 k (by omega)
      have hterm := htmk.out k
      have hacc := hallk.out k
      have hacc2 := hallk.out (k + 1)
      have hnext : Keep (((lef n (N - n) d (k + 1) : Nat) : Int) = ((lef n (N - n) d k : Nat) : Int) + ((tm n (N - n) d k : Nat) : Int) * ((d : Int) - (k : Int))) := ⟨by
        rw [lef_succ]; push_cast
        by_cases h : k ≤ d
        · rw [show ((d - k : Nat) : Int) = (d : Int) - (k : Int) by omega]
        · have : tm n (N - n) d k = 0 := by unfold tm; rw [if_neg h]
          rw [this]; simp⟩
      have hmul : tm n (N - n) d k * (d - k) ≤ 9075135300 * 36 := Nat.mul_le_mul (Nat.le_trans hterm hch) (by omega)
      have hmul2 : -9223372036854775808 ≤ ((tm n (N - n) d k : Nat) : Int) * ((d : Int) - (k : Int)) ∧ ((tm n (N - n) d k : Nat) : Int) * ((d : Int) - (k : Int)) ≤ 400000000000 := by
        by_cases h : k ≤ d
        · rw [show (d : Int) - (k : Int) = ((d - k : Nat) : Int) by omega, ← Int.natCast_mul]; omega
        · have : tm n (N - n) d k = 0 := by unfold tm; rw [if_neg h]
          rw [this]; simp
      have htm := chZ_tm (n := n) (m := N - n) (d := d) (k := k)
      rw [hm.out] at htm
      obtain ⟨T, hT⟩ : ∃ T, Keep (tm n (N - n) d k = T) := ⟨_, ⟨rfl⟩⟩
      have hT2 := hT.out
      rw [hm.out] at hT2
      rw [hT2] at htm
      rw [hT.out] at hterm hmul2 hnext
      obtain ⟨x, hx⟩ : ∃ x, Keep (ch n k = x) := ⟨_, ⟨rfl⟩⟩
      obtain ⟨y, hy⟩ : ∃ y, Keep (chZ m ((d : Int) - (k : Int)) = y) := ⟨_, ⟨rfl⟩⟩
      obtain ⟨z, hz⟩ : ∃ z, Keep (lef n (N - n) d k = z) := ⟨_, ⟨rfl⟩⟩
      obtain ⟨t, ht⟩ : ∃ t, Keep ((T : Int) * ((d : Int) - (k : Int)) = t) := ⟨_, ⟨rfl⟩⟩
      rw [hx.out, hy.out] at htm
      rw [ht.out] at hmul2 hnext
      rw [hz.out] at hnext
      rw [hx.out] at r1
      rw [hy.out] at r2
      rw [hz.out] at hacc ⊢
      have w1 : IntKind.i64.wrap ((d : Int) - (k : Int)) = (d : Int) - (k : Int) := IntWalk.i64_in _ (by omega)
      have w2 : IntKind.i64.wrap ((x : Int) * (y : Int)) = (T : Int) := by rw [← Int.natCast_mul, htm, IntWalk.i64_in _ (by omega)]
      have w4 : IntKind.i64.wrap ((T : Int) * ((d : Int) - (k : Int))) = t := by rw [ht.out, IntWalk.i64_in _ (by omega)]
      have w3 : IntKind.i64.wrap ((z : Int) + t) = (z : Int) + t := IntWalk.i64_in _ (by omega)
      clear hacc2 htm q1 q2 hT2 hmul hmul2
      go_wp2_with (first
        | (go_at_call 21; (with_reducible refine (r1 _).mono ?_); rintro e w5 ⟨rfl, rfl⟩)
        | (go_at_call 21; (with_reducible refine (r2 _).mono ?_); rintro e w6 ⟨rfl, rfl⟩))
      exact ⟨⟨k + 1, by omega, by go_num, by rw [hnext.out]⟩, by simp [intOf]; omega⟩
    · obtain rfl : k = c + 1 := by omega
      have hle : ¬ ((c + 1 : Nat) : Int) ≤ (c : Int) := by omega
      clear q1 q2
      go_wp2
      go_ret
      exact ⟨by rw [hX.out]; rfl, rfl⟩
end Go.Proofs.Ytbmfipjnfbnjgaa
