import Derived.Test.YtifbiamfandjnaaTame
import Derived.Test.YtifbiamfandjnaaThereFacts
import Derived.Test.YtifbiamfandjnaaAwake
import Derived.Test.YtifbiamfandjnaaOpenArgs
import Derived.Deep.RegionHeld3
set_option linter.unusedSimpArgs false
set_option linter.unusedVariables false
namespace Go.Proofs.Ytifbiamfandjnaa
open Go Go.Proofs Go.RowKit
theorem eqT (a b : Int) (w : World) : (Op.equalIn 10000 25 (.agg #[.int .i64 a, .int .i64 b]) (.agg #[.int .i64 a, .int .i64 b])).run Try.prog w = .ok true w := by
  rw [eq25]; simp
theorem mod_int (x : Int) {m : Int} (h1 : 1 ≤ m) (h2 : m ≤ 1000000000) (w : World) :
    Calls Try.prog 49 #[.int .i64 x, .int .i64 m] w fun e w' => (∃ r : Nat, (r : Int) < m ∧ e = .returned (.int .i64 r)) ∧ w' = w := by
  obtain ⟨n, rfl⟩ : ∃ n : Nat, m = (n : Int) := ⟨m.toNat, by omega⟩
  exact (mod_any x (m := n) (by omega) (by omega) w).mono fun e w' ⟨⟨r, hr, he⟩, hw⟩ => ⟨⟨r, by omega, he⟩, hw⟩
set_option maxHeartbeats 2000000 in
set_option maxRecDepth 100000 in
theorem there_any {b k c : Int} (w : World) :
    Calls Try.prog 13 #[.int .i64 b, .int .i64 k, .int .i64 c] w fun e w' => e = .returned (.bool true) ∧ Below w.heap.size w w' := by
  have q1 := fun w => mod_any b (m := 15) (by omega) (by omega) w
  go_enter Try.func13, Try.ntmps13
  go_wp2_with (first
    | (go_at_call 49; refine (q1 _).mono ?_; rintro e w0 ⟨⟨r, hr, rfl⟩, rfl⟩
       clear q1
       have hr0 : 0 < 2 + (r : Int) := by omega
       obtain ⟨Q, hQ⟩ : ∃ Q : Nat, Keep (Q = 1000000 / (2 + r)) := ⟨_, ⟨rfl⟩⟩
       have eq1 : IntKind.i64.wrap ((1000000 : Int).tdiv (2 + (r : Int))) = (Q : Int) := by
         have h1 : (1000000 : Int).tdiv (2 + (r : Int)) = (Q : Int) := by
           rw [hQ.out, Int.tdiv_eq_ediv_of_nonneg (by omega), show (2 + (r : Int)) = ((2 + r : Nat) : Int) by omega]; rfl
         have h2 : Q ≤ 1000000 := by rw [hQ.out]; exact Nat.div_le_self _ _
         rw [h1]; exact IntWalk.i64_in _ (by omega)
       have hQ1 : 1 ≤ Q := by rw [hQ.out]; exact (Nat.le_div_iff_mul_le (by omega)).2 (by omega)
       have hQ2 : Q ≤ 1000000 := by rw [hQ.out]; exact Nat.div_le_self _ _
       have q2 := fun w => mod_any k hQ1 (by omega) w
       have hQ1k := Keep.mk hQ1
       clear hQ1 hQ2)
    | (go_at_call 49; (with_reducible refine (q2 _).mono ?_); rintro e w0 ⟨⟨K, hK, rfl⟩, rfl⟩
       have q3 := fun w => mod_int c (m := 2 + (r : Int)) (by omega) (by omega) w
       clear q2)
    | (go_at_call 49; (with_reducible refine (q3 _).mono ?_); rintro e w0 ⟨⟨C, hC, rfl⟩, rfl⟩
       rw [hQ.out] at hK
       obtain ⟨a, d, P, E, s, t, g, h, x, y, hP, hE, hPC, had, hd, hE2, q34, q34b, q35, q38, q22a, q22b, q45⟩ := there_facts hr hK (show C < 2 + r by omega)
       have eP : IntKind.i64.wrap ((K : Int) * (2 + (r : Int))) = (P : Int) := by rw [hP]; exact IntWalk.i64_in _ (by omega)
       have eE : IntKind.i64.wrap ((d : Int) * (2 + (r : Int))) = (E : Int) := by rw [hE]; exact IntWalk.i64_in _ (by omega)
       have e1 := eqT x y
       have ea : ¬ ((a : Int) < 0) := by omega
       have ead : ¬ ((d : Int) ≤ (a : Int)) := by omega
       have ed : ¬ ((16000000 : Int) < (d : Int)) := by omega
       clear q3 hP hE hE2 hQ hK eq1 hQ1k)
    | (go_at_call 34; (with_reducible refine (q34 _).mono ?_); rintro e w1 ⟨rfl, hb1⟩
       clear q34)
    | (go_at_call 35; (with_reducible refine (q35 _).mono ?_); rintro e w2 ⟨rfl, hb2⟩
       have M0 : w2.cell? ⟨w1.heap.size, 0, none⟩ = some (.int .i64 (a : Int)) := cell_below (by go_simp) hb2
       have M1 : w2.cell? ⟨w1.heap.size, 1, none⟩ = some (.int .i64 (d : Int)) := cell_below (by go_simp) hb2
       have hs2 : w1.heap.size < w2.heap.size := by have := hb2.size; simp at this; omega
       have hbw2 : Below w0.heap.size w0 w2 := (hb1.alloc hb1.size _).trans (hb2.mono (by have := hb1.size; simp; omega))
       clear hb2 hb1 q35)
    | (go_at_call 34; (with_reducible refine (q34b _).mono ?_); rintro e w3 ⟨rfl, hb3⟩
       have M0 : w3.cell? ⟨w1.heap.size, 0, none⟩ = some (.int .i64 (a : Int)) := cell_below (by go_simp) hb3
       have M1 : w3.cell? ⟨w1.heap.size, 1, none⟩ = some (.int .i64 (d : Int)) := cell_below (by go_simp) hb3
       have hs3 : w1.heap.size < w3.heap.size := by have := hb3.size; omega
       have hbw3 : Below w0.heap.size w0 w3 := hbw2.trans (hb3.mono hbw2.size)
       clear hb3 hbw2 q34b hs2)
    | (go_at_call 38; (with_reducible refine (q38 _).mono ?_); rintro e w4 ⟨rfl, hb4⟩
       have M0 : w4.cell? ⟨w1.heap.size, 0, none⟩ = some (.int .i64 (a : Int)) := cell_below (by go_simp) hb4
       have M1 : w4.cell? ⟨w1.heap.size, 1, none⟩ = some (.int .i64 (d : Int)) := cell_below (by go_simp) hb4
       have X0 : w4.cell? ⟨w3.heap.size, 0, none⟩ = some (.int .i64 x) := cell_below (by go_simp) hb4
       have X1 : w4.cell? ⟨w3.heap.size, 1, none⟩ = some (.int .i64 y) := cell_below (by go_simp) hb4
       have hs4 : w3.heap.size < w4.heap.size := by have := hb4.size; simp at this; omega
       have hbw4 : Below w0.heap.size w0 w4 := (hbw3.alloc hbw3.size _).trans (hb4.mono (by have := hbw3.size; simp; omega))
       clear hb4 hbw3 q38)
    | (go_at_call 22; (with_reducible refine (q22a _).mono ?_); rintro e w5 ⟨rfl, hb5⟩
       have X0 : w5.cell? ⟨w3.heap.size, 0, none⟩ = some (.int .i64 x) := cell_below (by go_simp) hb5
       have X1 : w5.cell? ⟨w3.heap.size, 1, none⟩ = some (.int .i64 y) := cell_below (by go_simp) hb5
       have hs5 : w3.heap.size < w5.heap.size := by have := hb5.size; omega
       have hbw5 : Below w0.heap.size w0 w5 := hbw4.trans (hb5.mono hbw4.size)
       clear hb5 hbw4 q22a M0 M1)
    | (go_at_call 22; (with_reducible refine (q22b _).mono ?_); rintro e w6 ⟨rfl, hb6⟩
       have X0 : w6.cell? ⟨w3.heap.size, 0, none⟩ = some (.int .i64 x) := cell_below (by go_simp) hb6
       have X1 : w6.cell? ⟨w3.heap.size, 1, none⟩ = some (.int .i64 y) := cell_below (by go_simp) hb6
       have hs6 : w3.heap.size < w6.heap.size := by have := hb6.size; omega
       have hbw6 : Below w0.heap.size w0 w6 := hbw5.trans (hb6.mono hbw5.size)
       clear hb6 hbw5 q22b)
    | (go_at_call 45; (with_reducible refine (q45 _).mono ?_); rintro e w7 ⟨rfl, hb7⟩
       have X0 : w7.cell? ⟨w3.heap.size, 0, none⟩ = some (.int .i64 x) := cell_below (by go_simp) hb7
       have X1 : w7.cell? ⟨w3.heap.size, 1, none⟩ = some (.int .i64 y) := cell_below (by go_simp) hb7
       have hs7 : w3.heap.size < w7.heap.size := by have := hb7.size; omega
       have hbw7 : Below w0.heap.size w0 w7 := hbw6.trans (hb7.mono hbw6.size)
       clear hb7 hbw6 q45)
    | (go_at_call 19; refine (awake_any _).mono ?_; rintro e w9 ⟨rfl, hb9⟩))
  all_goals go_ret
  all_goals exact ⟨rfl, (hbw7.alloc hbw7.size _).trans (hb9.mono (by have := hbw7.size; simp; omega))⟩
end Go.Proofs.Ytifbiamfandjnaa
