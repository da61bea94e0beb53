import Derived.Test.YtbmfipjnfbnjgaaGcd
import Derived.Shelf.Bits.Mul64
set_option linter.unusedSimpArgs false
set_option linter.unusedVariables false
namespace Go.Proofs.Ytbmfipjnfbnjgaa
open Go Go.Proofs Go.RowKit Go.Sample Go.Lib
set_option maxHeartbeats 1000000 in
theorem mul64_any (x y : Nat) (hx : x < 18446744073709551616) (hy : y < 18446744073709551616) (w : World) :
    Calls Try.prog 74 #[.int .u64 x, .int .u64 y] w fun e w' => e = .returned (.tuple #[.int .u64 ((x * y / 18446744073709551616 : Nat) : Int), .int .u64 ((x * y % 18446744073709551616 : Nat) : Int)]) ∧ w' = w := by
  obtain ⟨bd, bt, bw, hhi⟩ := Lib.mul64_hi x y hx hy
  have ba := Lib.half_mul_le (a := x / 4294967296) (b := y / 4294967296) (by omega) (by omega)
  have bb := Lib.half_mul_le (a := x / 4294967296) (b := y % 4294967296) (by omega) (by omega)
  have bc := Lib.half_mul_le (a := x % 4294967296) (b := y / 4294967296) (by omega) (by omega)
  have ba' : x / 4294967296 * (y / 4294967296) < 18446744073709551616 := by omega
  have bb' : x / 4294967296 * (y % 4294967296) < 18446744073709551616 := by omega
  have bc' : x % 4294967296 * (y / 4294967296) < 18446744073709551616 := by omega
  have bh1 : x / 4294967296 * (y / 4294967296) + (x / 4294967296 * (y % 4294967296) + x % 4294967296 * (y % 4294967296) / 4294967296) / 4294967296 < 18446744073709551616 := by omega
  have bh : x / 4294967296 * (y / 4294967296) + (x / 4294967296 * (y % 4294967296) + x % 4294967296 * (y % 4294967296) / 4294967296) / 4294967296 + ((x / 4294967296 * (y % 4294967296) + x % 4294967296 * (y % 4294967296) / 4294967296) % 4294967296 + x % 4294967296 * (y / 4294967296)) / 4294967296 < 18446744073709551616 := by omega
  go_enter Try.func74, Try.ntmps74
  go_wp2
  simp only [Mul64.maskN x hx, Mul64.maskN y hy, Mul64.divN, Mul64.mulN, Mul64.addN, Mul64.wrapN _ bd, Mul64.wrapN _ bb', Mul64.wrapN _ bt, Mul64.maskN _ bt, Mul64.wrapN _ bc', Mul64.wrapN _ bw, Mul64.wrapN _ ba', Mul64.wrapN _ bh1, Mul64.wrapN _ bh, Mul64.wrapM (x * y)]
  rw [hhi]
  go_ret2
  exact ⟨rfl, rfl⟩
theorem less_math (u v : Nat) : (decide (u / 18446744073709551616 < v / 18446744073709551616) || (u / 18446744073709551616 == v / 18446744073709551616 && decide (u % 18446744073709551616 < v % 18446744073709551616))) = decide (u < v) := by
  have e1 := Nat.div_add_mod u 18446744073709551616
  have e2 := Nat.div_add_mod v 18446744073709551616
  have m1 : u % 18446744073709551616 < 18446744073709551616 := Nat.mod_lt _ (by omega)
  have m2 : v % 18446744073709551616 < 18446744073709551616 := Nat.mod_lt _ (by omega)
  generalize u / 18446744073709551616 = a at *
  generalize v / 18446744073709551616 = b at *
  generalize u % 18446744073709551616 = p at *
  generalize v % 18446744073709551616 = q at *
  by_cases h1 : a < b
  · rw [decide_eq_true h1, Bool.true_or]; symm; rw [decide_eq_true_eq]; omega
  · rw [decide_eq_false h1, Bool.false_or]
    by_cases h2 : a = b
    · subst h2
      rw [beq_self_eq_true, Bool.true_and]
      by_cases h3 : p < q
      · rw [decide_eq_true h3]; symm; rw [decide_eq_true_eq]; omega
      · rw [decide_eq_false h3]; symm; rw [decide_eq_false_iff_not]; omega
    · rw [show (a == b) = false by rw [beq_eq_false_iff_ne]; exact h2, Bool.false_and]; symm; rw [decide_eq_false_iff_not]; omega
set_option maxHeartbeats 1000000 in
theorem less_any {a b c d : Nat} (ha : a < 9223372036854775808) (hb : b < 9223372036854775808) (hc : c < 9223372036854775808) (hd : d < 9223372036854775808) (w : World) :
    Calls Try.prog 68 #[fracV a b, fracV c d] w fun e w' => e = .returned (.bool (decide (a * d < c * b))) ∧ Below w.heap.size w w' := by
  have hm := less_math (a * d) (c * b)
  have q1 := fun w => mul64_any a d (by omega) (by omega) w
  have q2 := fun w => mul64_any c b (by omega) (by omega) w
  have ea : IntKind.u64.wrap (a : Int) = (a : Int) := IntWalk.u64_in _ (by omega)
  have eb : IntKind.u64.wrap (b : Int) = (b : Int) := IntWalk.u64_in _ (by omega)
  have ec : IntKind.u64.wrap (c : Int) = (c : Int) := IntWalk.u64_in _ (by omega)
  have ed : IntKind.u64.wrap (d : Int) = (d : Int) := IntWalk.u64_in _ (by omega)
  clear ha hb hc hd
  rw [← hm]
  generalize a * d = u at *
  generalize c * b = v at *
  clear hm
  obtain ⟨u1, hu1⟩ : ∃ u1, Keep (u / 18446744073709551616 = u1) := ⟨_, ⟨rfl⟩⟩
  obtain ⟨u2, hu2⟩ : ∃ u2, Keep (u % 18446744073709551616 = u2) := ⟨_, ⟨rfl⟩⟩
  obtain ⟨v1, hv1⟩ : ∃ v1, Keep (v / 18446744073709551616 = v1) := ⟨_, ⟨rfl⟩⟩
  obtain ⟨v2, hv2⟩ : ∃ v2, Keep (v % 18446744073709551616 = v2) := ⟨_, ⟨rfl⟩⟩
  rw [hu1.out, hu2.out, hv1.out, hv2.out]
  simp only [hu1.out, hu2.out] at q1
  simp only [hv1.out, hv2.out] at q2
  unfold fracV
  by_cases h1 : u1 < v1
  · have h1' : (u1 : Int) < (v1 : Int) := by omega
    go_enter Try.func68, Try.ntmps68
    go_wp2_with (first
      | (go_at_call 74; (with_reducible refine (q1 _).mono ?_); rintro e w5 ⟨rfl, rfl⟩)
      | (go_at_call 74; (with_reducible refine (q2 _).mono ?_); rintro e w6 ⟨rfl, rfl⟩))
    all_goals go_ret
    all_goals exact ⟨by simp [h1], ((Below.refl _ w).alloc (Nat.le_refl _) _).alloc (by simp) _⟩
  · have h1' : ¬ (u1 : Int) < (v1 : Int) := by omega
    by_cases h2 : u1 = v1
    · subst h2
      go_enter Try.func68, Try.ntmps68
      go_wp2_with (first
        | (go_at_call 74; (with_reducible refine (q1 _).mono ?_); rintro e w5 ⟨rfl, rfl⟩)
        | (go_at_call 74; (with_reducible refine (q2 _).mono ?_); rintro e w6 ⟨rfl, rfl⟩))
      all_goals go_ret
      all_goals exact ⟨by simp, ((Below.refl _ w).alloc (Nat.le_refl _) _).alloc (by simp) _⟩
    · have h2' : ((u1 : Int) == (v1 : Int)) = false := by rw [beq_eq_false_iff_ne]; omega
      go_enter Try.func68, Try.ntmps68
      go_wp2_with (first
        | (go_at_call 74; (with_reducible refine (q1 _).mono ?_); rintro e w5 ⟨rfl, rfl⟩)
        | (go_at_call 74; (with_reducible refine (q2 _).mono ?_); rintro e w6 ⟨rfl, rfl⟩))
      all_goals go_ret
      all_goals exact ⟨by simp [h1, h2], ((Below.refl _ w).alloc (Nat.le_refl _) _).alloc (by simp) _⟩
end Go.Proofs.Ytbmfipjnfbnjgaa
