import Derived.Test.YtifbiamfandjnaaLowest
set_option linter.unusedSimpArgs false
set_option linter.unusedVariables false
namespace Go.Proofs.Ytifbiamfandjnaa
open Go Go.Proofs Go.RowKit
theorem size_any (x : Int) (h1 : -9223372036854775808 ≤ x) (h2 : x < 9223372036854775808) (w : World) :
    Calls Try.prog 60 #[.int .i64 x] w fun e w' => e = .returned (.int .u64 (x.natAbs : Nat)) ∧ w' = w := by
  go_enter Try.func60, Try.ntmps60
  by_cases hx : x < 0
  · obtain ⟨q, hq⟩ : ∃ q : Nat, Keep (x = -(q : Int) - 1) := ⟨(-(x + 1)).toNat, ⟨by omega⟩⟩
    have hqq := hq.out
    have hq2 : q ≤ 9223372036854775807 := by omega
    have e1 : IntKind.i64.wrap (x + 1) = x + 1 := IntWalk.i64_in _ (by omega)
    have e2 : IntKind.i64.wrap (-(x + 1)) = (q : Int) := by rw [IntWalk.i64_in _ (by omega)]; omega
    have e3 : IntKind.u64.wrap (q : Int) = (q : Int) := IntWalk.u64_in _ (by omega)
    have e4 : IntKind.u64.wrap ((q : Int) + 1) = ((x.natAbs : Nat) : Int) := by rw [IntWalk.u64_in _ (by omega)]; omega
    clear hqq
    go_wp2
    go_ret
    exact ⟨rfl, rfl⟩
  · have e3 : IntKind.u64.wrap x = ((x.natAbs : Nat) : Int) := by rw [IntWalk.u64_in _ (by omega)]; omega
    go_wp2
    go_ret
    exact ⟨rfl, rfl⟩
theorem refgcd_any (a b : Nat) (h2 : a < 18446744073709551616) (h4 : b < 18446744073709551616) (w : World) :
    Calls Try.prog 59 #[.int .u64 a, .int .u64 b] w fun e w' => e = .returned (.int .u64 (Nat.gcd a b : Nat)) ∧ w' = w := by
  obtain ⟨G, hG⟩ : ∃ G : Nat, Keep (Nat.gcd a b = G) := ⟨_, ⟨rfl⟩⟩
  rw [hG.out]
  go_enter Try.func59, Try.ntmps59
  go_wp2
  go_loop [0, 1] (fun x y => ∃ a' b' : Nat, x = .int .u64 a' ∧ y = .int .u64 b' ∧ Keep (Nat.gcd a' b' = G) ∧ a' < 18446744073709551616 ∧ b' < 18446744073709551616) (fun _ y => (intOf y).toNat)
  case atStart => exact ⟨a, b, rfl, rfl, hG, h2, h4⟩
  case round =>
    obtain ⟨a', b', rfl, rfl, hg, k1, k2⟩ := hrel
    by_cases hb : b' = 0
    · subst hb
      go_wp2
      go_ret
      refine ⟨?_, rfl⟩
      rw [← hg.out, Nat.gcd_zero_right]; rfl
    · have hb1 : 1 ≤ b' := by omega
      have hb0 : ((b' : Int) == 0) = false := by rw [beq_eq_false_iff_ne]; omega
      have hm : a' % b' < b' := Nat.mod_lt _ (by omega)
      obtain ⟨r, hr⟩ : ∃ r, Keep (a' % b' = r) := ⟨_, ⟨rfl⟩⟩
      have hk : Keep (Nat.gcd b' r = G) := ⟨by rw [← hr.out, ← hg.out, Nat.gcd_comm b', ← Nat.gcd_rec, Nat.gcd_comm]⟩
      have hw : IntKind.u64.wrap ((a' : Int).tmod (b' : Int)) = (r : Int) := by
        rw [← hr.out, IntWalk.up_tmod rfl rfl, IntWalk.u64_in _ (by omega)]
      rw [hr.out] at hm
      go_wp2
      refine ⟨⟨b', r, rfl, by rw [← hr.out]; rfl, hk, k2, by omega⟩, ?_⟩
      have e : ((a' : Int) % (b' : Int)) = (r : Int) := by rw [← hr.out]; rfl
      rw [e]
      simp only [intOf]
      omega
theorem gcd_nat (a b : Int) : Nat.gcd a.natAbs b.natAbs = Int.gcd a b := rfl
theorem reduced_any (a b : Int) (h1 : -9223372036854775808 ≤ a) (h2 : a < 9223372036854775808) (h3 : 1 ≤ b) (h4 : b < 9223372036854775808) (w : World) :
    Calls Try.prog 22 #[.int .i64 a, .int .i64 b] w fun e w' => e = .returned (fracV (redN a b) (redD a b)) ∧ Below w.heap.size w w' := by
  have hgp : 0 < Int.gcd a b := Int.gcd_pos_of_ne_zero_right _ (by omega)
  have hgle : Int.gcd a b ≤ b.natAbs := Nat.gcd_le_right _ (by omega)
  obtain ⟨G, hG⟩ : ∃ G : Nat, Keep (Int.gcd a b = G) := ⟨_, ⟨rfl⟩⟩
  have hgc := gcd_nat a b
  rw [hG.out] at hgc
  have hgk := Keep.mk hgc
  clear hgc
  unfold redN redD fracV
  rw [hG.out] at hgp hgle ⊢
  have hg1 : (1 : Int) ≤ (G : Int) := by omega
  have hG0 : ((G : Int) == 0) = false := by rw [beq_eq_false_iff_ne]; omega
  have hwa : IntKind.i64.wrap (a.tdiv (G : Int)) = a.tdiv (G : Int) := IntWalk.i64_quo' _ _ ⟨by omega, by omega, hg1⟩
  have hwb : IntKind.i64.wrap (b.tdiv (G : Int)) = b / (G : Int) := IntWalk.i64_quo _ _ ⟨by omega, by omega, hg1⟩
  have hwu : IntKind.u64.wrap b = ((b.natAbs : Nat) : Int) := by rw [IntWalk.u64_in _ (by omega)]; omega
  have hwg : IntKind.i64.wrap (G : Int) = (G : Int) := IntWalk.i64_in _ (by omega)
  go_enter Try.func22, Try.ntmps22
  go_wp2_with (first
    | (go_at_call 60; refine (size_any a h1 h2 _).mono ?_; rintro e w5 ⟨rfl, rfl⟩)
    | (go_at_call 59; refine (refgcd_any a.natAbs b.natAbs (by omega) (by omega) _).mono ?_; rintro e w5 ⟨rfl, rfl⟩; rw [hgk.out]))
  go_region_with (fail)
  all_goals go_wp2
  all_goals refine bodyPost_ret (v := .agg #[.int .i64 (a.tdiv (G : Int)), .int .i64 (b / (G : Int))]) (by simp [results, Try.results22, go_sem]; try simp only [hwb]; go_simp) rfl ?_
  all_goals exact ⟨rfl, ((Below.refl _ _).alloc (Nat.le_refl _) _).drew⟩
end Go.Proofs.Ytifbiamfandjnaa
