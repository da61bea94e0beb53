import Derived.Test.YtbmfipjnfbnjgaaAwake
import Derived.Test.YtbmfipjnfbnjgaaMod
import Derived.Test.YtbmfipjnfbnjgaaSingleFn
set_option linter.unusedSimpArgs false
set_option linter.unusedVariables false
namespace Go.Proofs.Ytbmfipjnfbnjgaa
open Go Go.Proofs Go.RowKit Go.Sample
set_option maxRecDepth 100000 in
theorem pascal_any {x y : Int} (w : World) : Calls Try.prog 15 #[.int .i64 x, .int .i64 y] w fun e w' => e = .returned (.bool true) ∧ Below w.heap.size w w' := by
  have hm1 := modN_lt x (m := 35) (by omega)
  obtain ⟨N, hN⟩ : ∃ N : Nat, N = 2 + modN x 35 := ⟨_, rfl⟩
  have hm2 := modN_lt y (m := N - 1) (by omega)
  obtain ⟨d, hd⟩ : ∃ d : Nat, d = 1 + modN y (N - 1) := ⟨_, rfl⟩
  have q1 : ∀ w, Calls Try.prog 48 #[.int .i64 x, .int .i64 35] w fun e w' => e = .returned (.int .i64 (modN x 35 : Nat)) ∧ w' = w := fun w => mod_any x (m := 35) (by omega) (by omega) w
  have q2 := fun w => mod_any y (m := N - 1) (by omega) (by omega) w
  have a1 := fun w => ways_any (N := N) (d := d) (by omega) (by omega) (by omega) w
  have a2 := fun w => ways_any (N := N - 1) (d := d) (by omega) (by omega) (by omega) w
  have a3 := fun w => ways_any (N := N - 1) (d := d - 1) (by omega) (by omega) (by omega) w
  have a4 := fun w => ways_any (N := N) (d := N - d) (by omega) (by omega) (by omega) w
  have hp : ch N d = ch (N - 1) d + ch (N - 1) (d - 1) := by
    rw [show N = (N - 1) + 1 by omega, show d = (d - 1) + 1 by omega, ch_succ]; simp; omega
  have hsy : ch N (N - d) = ch N d := by
    have := ch_symm (N - d) d
    rw [show N - d + d = N by omega] at this
    exact this
  have l1 := ch_le (n := N) (by omega) d
  rw [hsy] at a4
  generalize ch N d = A at *
  generalize ch (N - 1) d = B at *
  generalize ch (N - 1) (d - 1) = C at *
  have e1 : ((A : Int) == (B : Int) + (C : Int)) = true := by rw [beq_iff_eq]; omega
  have e2 : 2 + (modN x 35 : Int) = (N : Int) := by omega
  have e3 : 1 + (modN y (N - 1) : Int) = (d : Int) := by omega
  have e4 : (N : Int) - 1 = ((N - 1 : Nat) : Int) := by omega
  have e5 : (d : Int) - 1 = ((d - 1 : Nat) : Int) := by omega
  have e6 : (N : Int) - (d : Int) = ((N - d : Nat) : Int) := by omega
  have w1 : IntKind.i64.wrap (2 + (modN x 35 : Int)) = (N : Int) := by rw [e2, IntWalk.i64_in _ (by omega)]
  have w2 : IntKind.i64.wrap (1 + (modN y (N - 1) : Int)) = (d : Int) := by rw [e3, IntWalk.i64_in _ (by omega)]
  have w3 : IntKind.i64.wrap ((N : Int) - 1) = ((N - 1 : Nat) : Int) := by rw [e4, IntWalk.i64_in _ (by omega)]
  have w4 : IntKind.i64.wrap ((d : Int) - 1) = ((d - 1 : Nat) : Int) := by rw [e5, IntWalk.i64_in _ (by omega)]
  have w5 : IntKind.i64.wrap ((N : Int) - (d : Int)) = ((N - d : Nat) : Int) := by rw [e6, IntWalk.i64_in _ (by omega)]
  have w6 : IntKind.i64.wrap ((B : Int) + (C : Int)) = (B : Int) + (C : Int) := IntWalk.i64_in _ (by omega)
  generalize modN x 35 = r1 at *
  generalize modN y (N - 1) = r2 at *
  generalize N - d = M3 at *
  generalize N - 1 = M1 at *
  generalize d - 1 = M2 at *
  clear hm1 hm2 hp hsy l1 e2 e3 e4 e5 e6 hN hd
  go_enter Try.func15, Try.ntmps15
  go_wp2_with (first
    | (go_at_call 48; (with_reducible refine (q1 _).mono ?_); rintro e w1 ⟨rfl, rfl⟩)
    | (go_at_call 48; (with_reducible refine (q2 _).mono ?_); rintro e w2 ⟨rfl, rfl⟩)
    | (go_at_call 17; (with_reducible refine (a1 _).mono ?_); rintro e w3 ⟨rfl, hb3⟩; clear a1)
    | (go_at_call 17; (with_reducible refine (a2 _).mono ?_); rintro e w4 ⟨rfl, hb4⟩; clear a2)
    | (go_at_call 17; (with_reducible refine (a3 _).mono ?_); rintro e w5 ⟨rfl, hb5⟩; clear a3)
    | (go_at_call 17; (with_reducible refine (a4 _).mono ?_); rintro e w6 ⟨rfl, hb6⟩; clear a4)
    | (go_at_call 20; refine (awake_any _).mono ?_; rintro e w9 ⟨rfl, hb9⟩))
  all_goals go_ret
  all_goals exact ⟨rfl, hb3.trans ((hb4.trans ((hb5.trans ((hb6.trans (hb9.mono hb6.size)).mono hb5.size)).mono hb4.size)).mono hb3.size)⟩
end Go.Proofs.Ytbmfipjnfbnjgaa
