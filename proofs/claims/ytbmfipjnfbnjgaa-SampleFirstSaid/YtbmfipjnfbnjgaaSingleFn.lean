import Derived.Test.YtbmfipjnfbnjgaaChance
set_option linter.unusedSimpArgs false
set_option linter.unusedVariables false
namespace Go.Proofs.Ytbmfipjnfbnjgaa
open Go Go.Proofs Go.RowKit Go.Sample
theorem ways_lot {N z : Int} (hno : N < 1 ∨ 36 < N) (w : World) :
    Calls Try.prog 17 #[.int .i64 N, .int .i64 z] w fun e w' => e = .returned (.tuple #[.int .i64 0, .int .i64 2]) ∧ w' = w := by
  go_enter Try.func17, Try.ntmps17
  go_wp2_with (go_at_call 52; refine (readBad_no hno _).mono ?_; rintro e w5 ⟨rfl, rfl⟩)
  go_ret2
  exact ⟨rfl, rfl⟩
theorem ways_no {N : Nat} {z : Int} (h1 : 1 ≤ N) (h2 : N ≤ 36) (hz : In64 z) (hno : ¬ (0 ≤ z ∧ z ≤ (N : Int))) (w : World) :
    Calls Try.prog 17 #[.int .i64 N, .int .i64 z] w fun e w' => e = .returned (.tuple #[.int .i64 0, .int .i64 2]) ∧ Below w.heap.size w w' := by
  have hr := readBad_any h1 h2 hz w
  rw [decide_eq_false hno] at hr
  go_enter Try.func17, Try.ntmps17
  go_wp2_with (go_at_call 52; refine hr.mono ?_; rintro e w5 ⟨rfl, hb, hP⟩)
  go_ret2
  exact ⟨rfl, hb⟩
theorem ways_any {N d : Nat} (h1 : 1 ≤ N) (h2 : N ≤ 36) (hd : d ≤ N) (w : World) :
    Calls Try.prog 17 #[.int .i64 N, .int .i64 d] w fun e w' => e = .returned (.tuple #[.int .i64 (ch N d : Nat), .int .i64 0]) ∧ Below w.heap.size w w' := by
  have hr := readBad_any (z := (d : Int)) h1 h2 ⟨by omega, by omega⟩ w
  rw [decide_eq_true (by omega)] at hr
  obtain ⟨X, hX⟩ : ∃ X, Keep (ch N d = X) := ⟨_, ⟨rfl⟩⟩
  rw [hX.out]
  have g1 : N < 37 := by omega
  have g2 : d < 37 := by omega
  have f1 : (N : Int) < 37 := by omega
  have f2 : (d : Int) < 37 := by omega
  go_enter Try.func17, Try.ntmps17
  go_wp2_with (go_at_call 52; refine hr.mono ?_; rintro e w5 ⟨rfl, hb, hP⟩
               have c0 := hP.tab.size
               have c1 := hP.at_ (n := N) (k := d) (Nat.le_refl _) (by omega)
               rw [hX.out] at c1)
  go_quiet (fail)
  go_wp2
  go_ret2
  exact ⟨rfl, below_drewN hb _⟩
end Go.Proofs.Ytbmfipjnfbnjgaa
