import Derived.Test.YtifbiamfandjnaaTame
import Derived.Test.YtifbiamfandjnaaOptMath
import Derived.Test.YtifbiamfandjnaaAwake
import Derived.Test.YtifbiamfandjnaaOpenArgs
import Derived.Deep.RegionHeld3
set_option linter.unusedSimpArgs false
set_option linter.unusedVariables false
namespace Go.Proofs.Ytifbiamfandjnaa
open Go Go.Proofs Go.RowKit
theorem eqT (a b : Int) (w : World) : (Op.equalIn 10000 25 (.agg #[.int .i64 a, .int .i64 b]) (.agg #[.int .i64 a, .int .i64 b])).run Try.prog w = .ok true w := by
  rw [eq25]; simp
theorem less_no {a b c d : Int} (h1 : IntKind.i64.wrap (a * d) = a * d) (h2 : IntKind.i64.wrap (c * b) = c * b) (hno : ¬ (a * d < c * b)) (w : World) :
    Calls Try.prog 50 #[.agg #[.int .i64 a, .int .i64 b], .agg #[.int .i64 c, .int .i64 d]] w fun e w' => e = .returned (.bool false) ∧ Below w.heap.size w w' := by
  go_enter Try.func50, Try.ntmps50
  go_wp2
  all_goals go_ret
  all_goals exact ⟨rfl, ((Below.refl _ w).alloc (Nat.le_refl _) _).alloc (by simp) _⟩
theorem red_range {w n N : Nat} (hn : 1 ≤ n) (hN : 1 ≤ N) : 0 ≤ redN (w : Int) ((n : Int) * N) ∧ redN (w : Int) ((n : Int) * N) ≤ w ∧ 1 ≤ redD (w : Int) ((n : Int) * N) ∧ redD (w : Int) ((n : Int) * N) ≤ (n : Int) * N := by
  obtain ⟨P, hP⟩ : ∃ P : Int, (n : Int) * N = P := ⟨_, rfl⟩
  have hP1 : 1 ≤ P := by
    have : 1 * 1 ≤ n * N := Nat.mul_le_mul hn hN
    rw [← hP]; omega
  have hgp : 0 < Int.gcd (w : Int) P := Int.gcd_pos_of_ne_zero_right _ (by omega)
  rw [hP]
  unfold redN redD
  have d2 : ((Int.gcd (w : Int) P : Nat) : Int) ∣ P := Int.gcd_dvd_right _ _
  generalize Int.gcd (w : Int) P = g at *
  obtain ⟨b, hb⟩ := d2
  have q2 : P / (g : Int) = b := by rw [hb, Int.mul_ediv_cancel_left _ (by omega)]
  have hb1 : 1 ≤ b := by
    rcases Int.lt_or_le b 1 with h | h
    · have := Int.mul_nonneg (show (0 : Int) ≤ g by omega) (show (0 : Int) ≤ -b by omega)
      rw [Int.mul_neg] at this; omega
    · exact h
  have hbP : b ≤ P := by
    have := Int.mul_le_mul_of_nonneg_right (show (1 : Int) ≤ g by omega) (show (0 : Int) ≤ b by omega)
    omega
  rw [Int.tdiv_eq_ediv_of_nonneg (by omega), q2]
  exact ⟨Int.ediv_nonneg (by omega) (by omega), Int.ediv_le_self _ (by omega), hb1, hbP⟩
theorem odds_ok {n : Nat} (h1 : 1 ≤ n) (h2 : n ≤ 60) : okLine (((2 * n : Nat) : Nat) : Int) (odds n) = true := by
  have hl : (odds n).length = n := by simp [odds]
  unfold okLine
  rw [hl, Bool.and_eq_true, decide_eq_true_iff]
  refine ⟨⟨by omega, by omega, h1, h2⟩, ?_⟩
  rw [List.all_eq_true]
  intro z hz
  unfold odds at hz
  rw [List.mem_map] at hz
  obtain ⟨i, hi, rfl⟩ := hz
  rw [List.mem_range] at hi
  simp only [decide_eq_true_eq]; omega
theorem opt_facts {N m : Nat} {L : List Int} (hok : okLine (N : Int) L = true) (hm : L.length = m) : 1 ≤ m ∧ m ≤ 60 ∧ ∃ (x y a a' : Int) (l l' : Bool),
    (∀ (w : World) (v : Value), IntsAt w v L → Calls Try.prog 16 #[.int .i64 N, v] w fun e w' => e = .returned (.tuple #[.agg #[.int .i64 x, .int .i64 y], .int .i64 a, .bool l, .int .i64 0]) ∧ Below w.heap.size w w') ∧
    (∀ (w : World) (v : Value), IntsAt w v (odds m) → Calls Try.prog 16 #[.int .i64 (2 * (m : Int)), v] w fun e w' => e = .returned (.tuple #[.agg #[.int .i64 1, .int .i64 (2 * (m : Int))], .int .i64 a', .bool l', .int .i64 0]) ∧ Below w.heap.size w w') ∧
    (∀ w : World, Calls Try.prog 50 #[.agg #[.int .i64 x, .int .i64 y], .agg #[.int .i64 1, .int .i64 (2 * (m : Int))]] w fun e w' => e = .returned (.bool false) ∧ Below w.heap.size w w') := by
  have hbig := line_big hok
  have hok1 := hok
  unfold okLine at hok1
  rw [Bool.and_eq_true, decide_eq_true_iff, hm] at hok1
  obtain ⟨⟨k1, k2, k3, k4⟩, _⟩ := hok1
  have hm1 : 1 ≤ m := by omega
  have hm2 : m ≤ 60 := by omega
  have hW := worstOf_le (xs := allWits N L.length (mid L N)) (B := 60000) (by omega) (fun x hx => by
    have := (wits_le (N := N) (n := L.length) (g := mid L N) (by omega) (by omega) (fun k _ => Nat.le_trans (mid_le _ _ _) (by omega)) x hx).1; omega)
  have hW' : -1 ≤ (lineW N L).2 ∧ (lineW N L).2 ≤ 60000 := hW
  obtain ⟨W, hWe⟩ : ∃ W : Nat, (lineW N L).2 = (W : Int) := ⟨(lineW N L).2.toNat, by omega⟩
  rw [hWe] at hbig hW'
  have hrr := red_range (w := W) (n := m) (N := N) hm1 (by omega)
  have hP : m * N ≤ 60 * 1000 := Nat.mul_le_mul hm2 (by omega)
  have hPi : (m : Int) * (N : Int) ≤ 60000 := by have : ((m * N : Nat) : Int) ≤ 60000 := by omega
                                                 rw [Int.natCast_mul] at this; exact this
  refine ⟨hm1, hm2, redN (W : Int) ((m : Int) * N), redD (W : Int) ((m : Int) * N), (((lineW N L).1.1 : Nat) : Int), (((lineW (2 * m) (odds m)).1.1 : Nat) : Int), (lineW N L).1.2.1, (lineW (2 * m) (odds m)).1.2.1, fun w v h => ?_, fun w v h => ?_, fun w => ?_⟩
  · have := line_any h hok
    rw [hWe, hm] at this
    exact this
  · have := line_any (N := 2 * m) h (odds_ok hm1 hm2)
    rw [line_odds hm1, show (odds m).length = m by simp [odds], (red_odds hm1).1, (red_odds hm1).2] at this
    rw [show ((2 * m : Nat) : Int) = 2 * (m : Int) by omega] at this
    exact this
  · refine less_no ?_ ?_ (red_less hm1 (by omega) hbig) w
    · have h1 := Int.mul_le_mul hrr.2.1 (show 2 * (m : Int) ≤ 120 by omega) (by omega) (by omega)
      have h2 := Int.mul_nonneg hrr.1 (show 0 ≤ 2 * (m : Int) by omega)
      exact IntWalk.i64_in _ (by omega)
    · rw [Int.one_mul]; exact IntWalk.i64_in _ (by omega)
set_option maxHeartbeats 2000000 in
set_option maxRecDepth 100000 in
theorem optimal_any {n : Int} {v : Value} {zs : List Int} {w : World} (hv : ArgInts w v zs) :
    Calls Try.prog 14 #[.int .i64 n, v] w fun e w' => e = .returned (.bool true) ∧ Below w.heap.size w w' := by
  have q48 := tame_any (n := n) hv
  clear hv
  go_enter Try.func14, Try.ntmps14
  go_wp2_with (first
    | (go_at_call 48; refine q48.mono ?_; rintro e w1 ⟨N, v', L, rfl, hok, hi1, hb1⟩
       obtain ⟨m, hm⟩ : ∃ m, Keep (L.length = m) := ⟨_, ⟨rfl⟩⟩
       obtain ⟨hm1, hm2, x, y, a, a', l, l', q16, q16b, q50⟩ := opt_facts hok hm.out
       have hbest := fun w => best_any hm1 hm2 w
       have w2n : IntKind.i64.wrap (2 * (m : Int)) = 2 * (m : Int) := IntWalk.i64_in _ (by omega)
       have e1 := eqT 1 (2 * (m : Int))
       have hi1k := hi1
       obtain ⟨A, cap, hv, _⟩ := hi1
       rw [hm.out] at hv
       subst hv
       unfold fracV at hbest
       clear q48 hok)
    | (go_at_call 44; (with_reducible refine (hbest _).mono ?_); rintro e w2 ⟨v2, rfl, hj2, hb2⟩
       have hi2 := ints_below hi1k hb2
       have hbw2 : Below w.heap.size w w2 := hb1.trans (hb2.mono hb1.size)
       clear hb2 hb1 hi1k hbest)
    | (go_at_call 16; refine (q16b _ _ (ints_below hj2 ((Below.refl _ _).alloc (Nat.le_refl _) _))).mono ?_; rintro e w3 ⟨rfl, hb3⟩
       have D0 : w3.cell? ⟨w2.heap.size, 0, none⟩ = some (.int .i64 1) := cell_below (by go_simp) hb3
       have D1 : w3.cell? ⟨w2.heap.size, 1, none⟩ = some (.int .i64 (2 * (m : Int))) := cell_below (by go_simp) hb3
       have hi3 := ints_below (ints_below hi2 ((Below.refl _ _).alloc (Nat.le_refl _) _)) hb3
       have hs3 : w2.heap.size < w3.heap.size := by have := hb3.size; simp at this; omega
       have hbw3 : Below w.heap.size w w3 := (hbw2.alloc hbw2.size _).trans (hb3.mono (by have := hbw2.size; simp; omega))
       clear hb3 q16b hi2 hj2 hbw2)
    | (go_at_call 16; refine (q16 _ _ (ints_below hi3 ((Below.refl _ _).alloc (Nat.le_refl _) _))).mono ?_; rintro e w4 ⟨rfl, hb4⟩
       have D0 : w4.cell? ⟨w2.heap.size, 0, none⟩ = some (.int .i64 1) := cell_below (by go_simp) hb4
       have D1 : w4.cell? ⟨w2.heap.size, 1, none⟩ = some (.int .i64 (2 * (m : Int))) := cell_below (by go_simp) hb4
       have E0 : w4.cell? ⟨w3.heap.size, 0, none⟩ = some (.int .i64 1) := cell_below (by go_simp) hb4
       have E1 : w4.cell? ⟨w3.heap.size, 1, none⟩ = some (.int .i64 (2 * (m : Int))) := cell_below (by go_simp) hb4
       have hs4 : w3.heap.size < w4.heap.size := by have := hb4.size; simp at this; omega
       have hs4a : w2.heap.size < w4.heap.size := by omega
       have hbw4 : Below w.heap.size w w4 := (hbw3.alloc hbw3.size _).trans (hb4.mono (by have := hbw3.size; simp; omega))
       clear hb4 q16 hi3 hbw3)
    | (go_at_call 50; (with_reducible refine (q50 _).mono ?_); rintro e w5 ⟨rfl, hb5⟩
       have hbw5 : Below w.heap.size w w5 := (hbw4.alloc hbw4.size _).trans (hb5.mono (by have := hbw4.size; simp; omega))
       clear hb5 q50)
    | (go_at_call 19; refine (awake_any _).mono ?_; rintro e w9 ⟨rfl, hb9⟩))
  all_goals go_ret
  all_goals exact ⟨rfl, hbw5.trans (hb9.mono hbw5.size)⟩
end Go.Proofs.Ytifbiamfandjnaa
