import Derived.Test.YtifbiamfandjnaaAwake
import Derived.Test.YtifbiamfandjnaaAddFn
import Derived.Test.YtifbiamfandjnaaBestFn
import Derived.Test.YtifbiamfandjnaaOpenArgs
import Derived.Deep.RegionHeld3
set_option linter.unusedSimpArgs false
set_option linter.unusedVariables false
namespace Go.Proofs.Ytifbiamfandjnaa
open Go Go.Proofs Go.RowKit
theorem eqT (a b : Int) (w : World) : (Op.equalIn 10000 25 (.agg #[.int .i64 a, .int .i64 b]) (.agg #[.int .i64 a, .int .i64 b])).run Try.prog w = .ok true w := by
  rw [eq25]; simp
theorem odds_len (n : Nat) : (odds n).length = n := by simp [odds]
theorem odds_at {n k : Nat} (h : k < n) : (odds n).getD k 0 = 2 * (k : Int) + 1 := by simp [odds, h]
theorem ints_cell {w : World} {A : Option Addr} {l c : Nat} {zs : List Int} (h : IntsAt w (.slice A l c) zs) {k : Nat} (hk : k < zs.length) : ∃ g, A = some ⟨g, 0, none⟩ ∧ w.cell? ⟨g, k, none⟩ = some (.int .i64 (zs.getD k 0)) := by
  obtain ⟨A', cap, hv, hc⟩ := h
  injection hv with h1 h2 h3
  subst h1
  exact hc k hk
set_option maxHeartbeats 2000000 in
set_option maxRecDepth 100000 in
theorem bests_nn {n : Int} {a b c d : Int} (hno : n < 1 ∨ 60 < n) (hab : In64 a ∧ In64 b) (hcd : In64 c ∧ In64 d) (k1 : termB a b = false) (w : World) :
    Calls Try.prog 8 #[.int .i64 n, fracV a b, fracV c d] w fun e w' => e = .returned (.bool true) ∧ Below w.heap.size w w' := by
  have q2 := fun w => small_any hab.1 hab.2 w
  have q3 := fun w => small_any hcd.1 hcd.2 w
  have q1 := fun w => add_no hab hcd (.inl k1) w
  rw [k1] at q2
  clear k1
  have e0 := eqT 0 0
  have hbest := fun w => best_no hno w
  unfold fracV at *
  go_enter Try.func8, Try.ntmps8
  rcases hno with h | h
  all_goals go_wp2_with (first
    | (go_at_call 44; (with_reducible refine (hbest _).mono ?_); rintro e w1 ⟨rfl, hb1⟩
       have A0 : w1.cell? ⟨w.heap.size, 0, none⟩ = some (.int .i64 a) := cell_below (by go_simp) hb1
       have A1 : w1.cell? ⟨w.heap.size, 1, none⟩ = some (.int .i64 b) := cell_below (by go_simp) hb1
       have C0 : w1.cell? ⟨w.heap.size + 1, 0, none⟩ = some (.int .i64 c) := cell_below (by go_simp) hb1
       have C1 : w1.cell? ⟨w.heap.size + 1, 1, none⟩ = some (.int .i64 d) := cell_below (by go_simp) hb1
       have hs1 : w.heap.size < w1.heap.size := by have := hb1.size; simp at this; omega
       have hs1' : w.heap.size + 1 < w1.heap.size := by have := hb1.size; simp at this; omega
       have hbw1 : Below w.heap.size w w1 := (((Below.refl _ w).alloc (Nat.le_refl _) _).alloc (by simp) _).trans (hb1.mono (by simp; try omega))
       clear hb1 hbest)
    | (go_at_call 45; (with_reducible refine (q1 _).mono ?_); rintro e w2 ⟨rfl, hb2⟩
       have A0 : w2.cell? ⟨w.heap.size, 0, none⟩ = some (.int .i64 a) := cell_below (by go_simp) hb2
       have A1 : w2.cell? ⟨w.heap.size, 1, none⟩ = some (.int .i64 b) := cell_below (by go_simp) hb2
       have C0 : w2.cell? ⟨w.heap.size + 1, 0, none⟩ = some (.int .i64 c) := cell_below (by go_simp) hb2
       have C1 : w2.cell? ⟨w.heap.size + 1, 1, none⟩ = some (.int .i64 d) := cell_below (by go_simp) hb2
       have D0 : w2.cell? ⟨w1.heap.size, 0, none⟩ = some (.int .i64 0) := cell_below (by go_simp) hb2
       have D1 : w2.cell? ⟨w1.heap.size, 1, none⟩ = some (.int .i64 0) := cell_below (by go_simp) hb2
       have hs2 : w1.heap.size < w2.heap.size := by have := hb2.size; simp at this; omega
       have hs2a : w.heap.size < w2.heap.size := by omega
       have hs2b : w.heap.size + 1 < w2.heap.size := by omega
       have hbw2 : Below w.heap.size w w2 := (hbw1.alloc hbw1.size _).trans (hb2.mono (by simp; omega))
       clear hb2 q1 hbw1)
    | (go_at_call 46; (with_reducible refine (q2 _).mono ?_); rintro e w3 ⟨rfl, hb3⟩
       have A0 : w3.cell? ⟨w.heap.size, 0, none⟩ = some (.int .i64 a) := cell_below (by go_simp) hb3
       have A1 : w3.cell? ⟨w.heap.size, 1, none⟩ = some (.int .i64 b) := cell_below (by go_simp) hb3
       have C0 : w3.cell? ⟨w.heap.size + 1, 0, none⟩ = some (.int .i64 c) := cell_below (by go_simp) hb3
       have C1 : w3.cell? ⟨w.heap.size + 1, 1, none⟩ = some (.int .i64 d) := cell_below (by go_simp) hb3
       have D0 : w3.cell? ⟨w1.heap.size, 0, none⟩ = some (.int .i64 0) := cell_below (by go_simp) hb3
       have D1 : w3.cell? ⟨w1.heap.size, 1, none⟩ = some (.int .i64 0) := cell_below (by go_simp) hb3
       have E0 : w3.cell? ⟨w2.heap.size, 0, none⟩ = some (.int .i64 0) := cell_below (by go_simp) hb3
       have E1 : w3.cell? ⟨w2.heap.size, 1, none⟩ = some (.int .i64 0) := cell_below (by go_simp) hb3
       have hs3 : w2.heap.size < w3.heap.size := by have := hb3.size; simp at this; omega
       have hbw3 : Below w.heap.size w w3 := (hbw2.alloc hbw2.size _).trans (hb3.mono (by simp; omega))
       clear hb3 q2 hbw2)
    | (go_at_call 19; refine (awake_any _).mono ?_; rintro e w9 ⟨rfl, hb9⟩))
  all_goals go_ret
  all_goals exact ⟨rfl, hbw3.trans (hb9.mono hbw3.size)⟩
set_option maxHeartbeats 2000000 in
set_option maxRecDepth 100000 in
theorem bests_yn {n : Int} {a b c d : Int} (hno : n < 1 ∨ 60 < n) (hab : In64 a ∧ In64 b) (hcd : In64 c ∧ In64 d) (k1 : termB a b = true) (k2 : termB c d = false) (w : World) :
    Calls Try.prog 8 #[.int .i64 n, fracV a b, fracV c d] w fun e w' => e = .returned (.bool true) ∧ Below w.heap.size w w' := by
  have q2 := fun w => small_any hab.1 hab.2 w
  have q3 := fun w => small_any hcd.1 hcd.2 w
  have q1 := fun w => add_no hab hcd (.inr k2) w
  rw [k1] at q2
  rw [k2] at q3
  clear k1 k2
  have e0 := eqT 0 0
  have hbest := fun w => best_no hno w
  unfold fracV at *
  go_enter Try.func8, Try.ntmps8
  rcases hno with h | h
  all_goals go_wp2_with (first
    | (go_at_call 44; (with_reducible refine (hbest _).mono ?_); rintro e w1 ⟨rfl, hb1⟩
       have A0 : w1.cell? ⟨w.heap.size, 0, none⟩ = some (.int .i64 a) := cell_below (by go_simp) hb1
       have A1 : w1.cell? ⟨w.heap.size, 1, none⟩ = some (.int .i64 b) := cell_below (by go_simp) hb1
       have C0 : w1.cell? ⟨w.heap.size + 1, 0, none⟩ = some (.int .i64 c) := cell_below (by go_simp) hb1
       have C1 : w1.cell? ⟨w.heap.size + 1, 1, none⟩ = some (.int .i64 d) := cell_below (by go_simp) hb1
       have hs1 : w.heap.size < w1.heap.size := by have := hb1.size; simp at this; omega
       have hs1' : w.heap.size + 1 < w1.heap.size := by have := hb1.size; simp at this; omega
       have hbw1 : Below w.heap.size w w1 := (((Below.refl _ w).alloc (Nat.le_refl _) _).alloc (by simp) _).trans (hb1.mono (by simp; try omega))
       clear hb1 hbest)
    | (go_at_call 45; (with_reducible refine (q1 _).mono ?_); rintro e w2 ⟨rfl, hb2⟩
       have A0 : w2.cell? ⟨w.heap.size, 0, none⟩ = some (.int .i64 a) := cell_below (by go_simp) hb2
       have A1 : w2.cell? ⟨w.heap.size, 1, none⟩ = some (.int .i64 b) := cell_below (by go_simp) hb2
       have C0 : w2.cell? ⟨w.heap.size + 1, 0, none⟩ = some (.int .i64 c) := cell_below (by go_simp) hb2
       have C1 : w2.cell? ⟨w.heap.size + 1, 1, none⟩ = some (.int .i64 d) := cell_below (by go_simp) hb2
       have D0 : w2.cell? ⟨w1.heap.size, 0, none⟩ = some (.int .i64 0) := cell_below (by go_simp) hb2
       have D1 : w2.cell? ⟨w1.heap.size, 1, none⟩ = some (.int .i64 0) := cell_below (by go_simp) hb2
       have hs2 : w1.heap.size < w2.heap.size := by have := hb2.size; simp at this; omega
       have hs2a : w.heap.size < w2.heap.size := by omega
       have hs2b : w.heap.size + 1 < w2.heap.size := by omega
       have hbw2 : Below w.heap.size w w2 := (hbw1.alloc hbw1.size _).trans (hb2.mono (by simp; omega))
       clear hb2 q1 hbw1)
    | (go_at_call 46; (with_reducible refine (q2 _).mono ?_); rintro e w3 ⟨rfl, hb3⟩
       have A0 : w3.cell? ⟨w.heap.size, 0, none⟩ = some (.int .i64 a) := cell_below (by go_simp) hb3
       have A1 : w3.cell? ⟨w.heap.size, 1, none⟩ = some (.int .i64 b) := cell_below (by go_simp) hb3
       have C0 : w3.cell? ⟨w.heap.size + 1, 0, none⟩ = some (.int .i64 c) := cell_below (by go_simp) hb3
       have C1 : w3.cell? ⟨w.heap.size + 1, 1, none⟩ = some (.int .i64 d) := cell_below (by go_simp) hb3
       have D0 : w3.cell? ⟨w1.heap.size, 0, none⟩ = some (.int .i64 0) := cell_below (by go_simp) hb3
       have D1 : w3.cell? ⟨w1.heap.size, 1, none⟩ = some (.int .i64 0) := cell_below (by go_simp) hb3
       have E0 : w3.cell? ⟨w2.heap.size, 0, none⟩ = some (.int .i64 0) := cell_below (by go_simp) hb3
       have E1 : w3.cell? ⟨w2.heap.size, 1, none⟩ = some (.int .i64 0) := cell_below (by go_simp) hb3
       have hs3 : w2.heap.size < w3.heap.size := by have := hb3.size; simp at this; omega
       have hbw3 : Below w.heap.size w w3 := (hbw2.alloc hbw2.size _).trans (hb3.mono (by simp; omega))
       clear hb3 q2 hbw2)
    | (go_at_call 46; (with_reducible refine (q3 _).mono ?_); rintro e w4 ⟨rfl, hb4⟩
       have A0 : w4.cell? ⟨w.heap.size, 0, none⟩ = some (.int .i64 a) := cell_below (by go_simp) hb4
       have A1 : w4.cell? ⟨w.heap.size, 1, none⟩ = some (.int .i64 b) := cell_below (by go_simp) hb4
       have C0 : w4.cell? ⟨w.heap.size + 1, 0, none⟩ = some (.int .i64 c) := cell_below (by go_simp) hb4
       have C1 : w4.cell? ⟨w.heap.size + 1, 1, none⟩ = some (.int .i64 d) := cell_below (by go_simp) hb4
       have D0 : w4.cell? ⟨w1.heap.size, 0, none⟩ = some (.int .i64 0) := cell_below (by go_simp) hb4
       have D1 : w4.cell? ⟨w1.heap.size, 1, none⟩ = some (.int .i64 0) := cell_below (by go_simp) hb4
       have E0 : w4.cell? ⟨w2.heap.size, 0, none⟩ = some (.int .i64 0) := cell_below (by go_simp) hb4
       have E1 : w4.cell? ⟨w2.heap.size, 1, none⟩ = some (.int .i64 0) := cell_below (by go_simp) hb4
       have hs4 : w2.heap.size < w4.heap.size := by have := hb4.size; omega
       have hbw4 : Below w.heap.size w w4 := hbw3.trans (hb4.mono hbw3.size)
       clear hb4 q3 hbw3)
    | (go_at_call 19; refine (awake_any _).mono ?_; rintro e w9 ⟨rfl, hb9⟩))
  all_goals go_ret
  all_goals exact ⟨rfl, hbw4.trans (hb9.mono hbw4.size)⟩
set_option maxHeartbeats 2000000 in
set_option maxRecDepth 100000 in
theorem bests_yy {n : Int} {a b c d : Int} (hno : n < 1 ∨ 60 < n) (hab : In64 a ∧ In64 b) (hcd : In64 c ∧ In64 d) (k1 : termB a b = true) (k2 : termB c d = true) (w : World) :
    Calls Try.prog 8 #[.int .i64 n, fracV a b, fracV c d] w fun e w' => e = .returned (.bool true) ∧ Below w.heap.size w w' := by
  have q2 := fun w => small_any hab.1 hab.2 w
  have q3 := fun w => small_any hcd.1 hcd.2 w
  have q1 := fun w => add_any hab hcd k1 k2 w
  have q4 := fun w => refAdd_any k1 k2 w
  rw [k1] at q2
  rw [k2] at q3
  obtain ⟨x, hx⟩ : ∃ x, redN (sumN a b c d) (sumD b d) = x := ⟨_, rfl⟩
  obtain ⟨y, hy⟩ : ∃ y, redD (sumN a b c d) (sumD b d) = y := ⟨_, rfl⟩
  rw [hx, hy] at q1 q4
  clear hx hy k1 k2
  have e1 := eqT x y
  have e0 := eqT 0 0
  have hbest := fun w => best_no hno w
  unfold fracV at *
  go_enter Try.func8, Try.ntmps8
  go_wp2_with (first
    | (go_at_call 44; (with_reducible refine (hbest _).mono ?_); rintro e w1 ⟨rfl, hb1⟩
       have A0 : w1.cell? ⟨w.heap.size, 0, none⟩ = some (.int .i64 a) := cell_below (by go_simp) hb1
       have A1 : w1.cell? ⟨w.heap.size, 1, none⟩ = some (.int .i64 b) := cell_below (by go_simp) hb1
       have C0 : w1.cell? ⟨w.heap.size + 1, 0, none⟩ = some (.int .i64 c) := cell_below (by go_simp) hb1
       have C1 : w1.cell? ⟨w.heap.size + 1, 1, none⟩ = some (.int .i64 d) := cell_below (by go_simp) hb1
       have hs1 : w.heap.size < w1.heap.size := by have := hb1.size; simp at this; omega
       have hs1' : w.heap.size + 1 < w1.heap.size := by have := hb1.size; simp at this; omega
       have hbw1 : Below w.heap.size w w1 := (((Below.refl _ w).alloc (Nat.le_refl _) _).alloc (by simp) _).trans (hb1.mono (by simp; try omega))
       clear hb1 hbest)
    | (go_at_call 45; (with_reducible refine (q1 _).mono ?_); rintro e w2 ⟨rfl, hb2⟩
       have A0 : w2.cell? ⟨w.heap.size, 0, none⟩ = some (.int .i64 a) := cell_below (by go_simp) hb2
       have A1 : w2.cell? ⟨w.heap.size, 1, none⟩ = some (.int .i64 b) := cell_below (by go_simp) hb2
       have C0 : w2.cell? ⟨w.heap.size + 1, 0, none⟩ = some (.int .i64 c) := cell_below (by go_simp) hb2
       have C1 : w2.cell? ⟨w.heap.size + 1, 1, none⟩ = some (.int .i64 d) := cell_below (by go_simp) hb2
       have D0 : w2.cell? ⟨w1.heap.size, 0, none⟩ = some (.int .i64 0) := cell_below (by go_simp) hb2
       have D1 : w2.cell? ⟨w1.heap.size, 1, none⟩ = some (.int .i64 0) := cell_below (by go_simp) hb2
       have hs2 : w1.heap.size < w2.heap.size := by have := hb2.size; simp at this; omega
       have hs2a : w.heap.size < w2.heap.size := by omega
       have hs2b : w.heap.size + 1 < w2.heap.size := by omega
       have hbw2 : Below w.heap.size w w2 := (hbw1.alloc hbw1.size _).trans (hb2.mono (by simp; omega))
       clear hb2 q1 hbw1)
    | (go_at_call 46; (with_reducible refine (q2 _).mono ?_); rintro e w3 ⟨rfl, hb3⟩
       have A0 : w3.cell? ⟨w.heap.size, 0, none⟩ = some (.int .i64 a) := cell_below (by go_simp) hb3
       have A1 : w3.cell? ⟨w.heap.size, 1, none⟩ = some (.int .i64 b) := cell_below (by go_simp) hb3
       have C0 : w3.cell? ⟨w.heap.size + 1, 0, none⟩ = some (.int .i64 c) := cell_below (by go_simp) hb3
       have C1 : w3.cell? ⟨w.heap.size + 1, 1, none⟩ = some (.int .i64 d) := cell_below (by go_simp) hb3
       have D0 : w3.cell? ⟨w1.heap.size, 0, none⟩ = some (.int .i64 0) := cell_below (by go_simp) hb3
       have D1 : w3.cell? ⟨w1.heap.size, 1, none⟩ = some (.int .i64 0) := cell_below (by go_simp) hb3
       have E0 : w3.cell? ⟨w2.heap.size, 0, none⟩ = some (.int .i64 x) := cell_below (by go_simp) hb3
       have E1 : w3.cell? ⟨w2.heap.size, 1, none⟩ = some (.int .i64 y) := cell_below (by go_simp) hb3
       have hs3 : w2.heap.size < w3.heap.size := by have := hb3.size; simp at this; omega
       have hbw3 : Below w.heap.size w w3 := (hbw2.alloc hbw2.size _).trans (hb3.mono (by simp; omega))
       clear hb3 q2 hbw2)
    | (go_at_call 46; (with_reducible refine (q3 _).mono ?_); rintro e w4 ⟨rfl, hb4⟩
       have A0 : w4.cell? ⟨w.heap.size, 0, none⟩ = some (.int .i64 a) := cell_below (by go_simp) hb4
       have A1 : w4.cell? ⟨w.heap.size, 1, none⟩ = some (.int .i64 b) := cell_below (by go_simp) hb4
       have C0 : w4.cell? ⟨w.heap.size + 1, 0, none⟩ = some (.int .i64 c) := cell_below (by go_simp) hb4
       have C1 : w4.cell? ⟨w.heap.size + 1, 1, none⟩ = some (.int .i64 d) := cell_below (by go_simp) hb4
       have D0 : w4.cell? ⟨w1.heap.size, 0, none⟩ = some (.int .i64 0) := cell_below (by go_simp) hb4
       have D1 : w4.cell? ⟨w1.heap.size, 1, none⟩ = some (.int .i64 0) := cell_below (by go_simp) hb4
       have E0 : w4.cell? ⟨w2.heap.size, 0, none⟩ = some (.int .i64 x) := cell_below (by go_simp) hb4
       have E1 : w4.cell? ⟨w2.heap.size, 1, none⟩ = some (.int .i64 y) := cell_below (by go_simp) hb4
       have hs4 : w2.heap.size < w4.heap.size := by have := hb4.size; omega
       have hbw4 : Below w.heap.size w w4 := hbw3.trans (hb4.mono hbw3.size)
       clear hb4 q3 hbw3))
  have hbw4k := Keep.mk hbw4
  clear hbw4
  go_region_held3 (fun w' => w'.cell? ⟨w.heap.size, 0, none⟩ = some (.int .i64 a) ∧ w'.cell? ⟨w.heap.size, 1, none⟩ = some (.int .i64 b) ∧ w'.cell? ⟨w.heap.size + 1, 0, none⟩ = some (.int .i64 c) ∧ w'.cell? ⟨w.heap.size + 1, 1, none⟩ = some (.int .i64 d) ∧ w'.cell? ⟨w2.heap.size, 0, none⟩ = some (.int .i64 x) ∧ w'.cell? ⟨w2.heap.size, 1, none⟩ = some (.int .i64 y))
    (first | exact ⟨A0, A1, C0, C1, E0, E1⟩ | go_keep)
    ((go_at_call 47; (with_reducible refine (q4 _).mono ?_); rintro e w5 ⟨rfl, hb5⟩
      have A0 : w5.cell? ⟨w.heap.size, 0, none⟩ = some (.int .i64 a) := cell_below (by exact A0) hb5
      have A1 : w5.cell? ⟨w.heap.size, 1, none⟩ = some (.int .i64 b) := cell_below (by exact A1) hb5
      have C0 : w5.cell? ⟨w.heap.size + 1, 0, none⟩ = some (.int .i64 c) := cell_below (by exact C0) hb5
      have C1 : w5.cell? ⟨w.heap.size + 1, 1, none⟩ = some (.int .i64 d) := cell_below (by exact C1) hb5
      have D0 : w5.cell? ⟨w1.heap.size, 0, none⟩ = some (.int .i64 0) := cell_below (by exact D0) hb5
      have D1 : w5.cell? ⟨w1.heap.size, 1, none⟩ = some (.int .i64 0) := cell_below (by exact D1) hb5
      have E0 : w5.cell? ⟨w2.heap.size, 0, none⟩ = some (.int .i64 x) := cell_below (by exact E0) hb5
      have E1 : w5.cell? ⟨w2.heap.size, 1, none⟩ = some (.int .i64 y) := cell_below (by exact E1) hb5
      have hbw5 : Keep (Below w.heap.size w w5) := ⟨(below_drewN hbw4k.out 1).trans (hb5.mono (by have := hbw4k.out.size; simpa using this))⟩
      clear hb5 q4))
  all_goals rcases hno with h | h
  all_goals go_wp2_with (go_at_call 19; refine (awake_any _).mono ?_; rintro e w9 ⟨rfl, hb9⟩)
  all_goals go_ret
  all_goals exact ⟨rfl, hbw5.out.trans (hb9.mono hbw5.out.size)⟩
set_option maxHeartbeats 2000000 in
set_option maxRecDepth 100000 in
theorem bests_ny {n : Nat} {a b c d : Int} (h1 : 1 ≤ n) (h2 : n ≤ 60) (hab : In64 a ∧ In64 b) (hcd : In64 c ∧ In64 d) (k1 : termB a b = false) (w : World) :
    Calls Try.prog 8 #[.int .i64 n, fracV a b, fracV c d] w fun e w' => e = .returned (.bool true) ∧ Below w.heap.size w w' := by
  have q2 := fun w => small_any hab.1 hab.2 w
  have q3 := fun w => small_any hcd.1 hcd.2 w
  have q1 := fun w => add_no hab hcd (.inl k1) w
  rw [k1] at q2
  clear k1
  have e0 := eqT 0 0
  have e2 := eqT 1 (2 * (n : Int))
  have hbest := fun w => best_any h1 h2 w
  have w2n : IntKind.i64.wrap (2 * (n : Int)) = 2 * (n : Int) := IntWalk.i64_in _ (by omega)
  unfold fracV at *
  go_enter Try.func8, Try.ntmps8
  go_wp2_with (first
    | (go_at_call 44; (with_reducible refine (hbest _).mono ?_); rintro e w1 ⟨v1, rfl, hi1, hb1⟩
       have hi1k := hi1
       obtain ⟨Aa, cap, hv, _⟩ := hi1
       rw [odds_len] at hv
       subst hv
       have A0 : w1.cell? ⟨w.heap.size, 0, none⟩ = some (.int .i64 a) := cell_below (by go_simp) hb1
       have A1 : w1.cell? ⟨w.heap.size, 1, none⟩ = some (.int .i64 b) := cell_below (by go_simp) hb1
       have C0 : w1.cell? ⟨w.heap.size + 1, 0, none⟩ = some (.int .i64 c) := cell_below (by go_simp) hb1
       have C1 : w1.cell? ⟨w.heap.size + 1, 1, none⟩ = some (.int .i64 d) := cell_below (by go_simp) hb1
       have hs1 : w.heap.size < w1.heap.size := by have := hb1.size; simp at this; omega
       have hs1' : w.heap.size + 1 < w1.heap.size := by have := hb1.size; simp at this; omega
       have hbw1 : Below w.heap.size w w1 := (((Below.refl _ w).alloc (Nat.le_refl _) _).alloc (by simp) _).trans (hb1.mono (by simp; try omega))
       clear hb1 hbest)
    | (go_at_call 45; (with_reducible refine (q1 _).mono ?_); rintro e w2 ⟨rfl, hb2⟩
       have A0 : w2.cell? ⟨w.heap.size, 0, none⟩ = some (.int .i64 a) := cell_below (by go_simp) hb2
       have A1 : w2.cell? ⟨w.heap.size, 1, none⟩ = some (.int .i64 b) := cell_below (by go_simp) hb2
       have C0 : w2.cell? ⟨w.heap.size + 1, 0, none⟩ = some (.int .i64 c) := cell_below (by go_simp) hb2
       have C1 : w2.cell? ⟨w.heap.size + 1, 1, none⟩ = some (.int .i64 d) := cell_below (by go_simp) hb2
       have D0 : w2.cell? ⟨w1.heap.size, 0, none⟩ = some (.int .i64 1) := cell_below (by go_simp) hb2
       have D1 : w2.cell? ⟨w1.heap.size, 1, none⟩ = some (.int .i64 (2 * (n : Int))) := cell_below (by go_simp) hb2
       have hi2 : IntsAt w2 (.slice Aa n cap) (odds n) := ints_below hi1k (((Below.refl _ _).alloc (Nat.le_refl _) _).trans (hb2.mono (by simp)))
       clear hi1k
       have hs2 : w1.heap.size < w2.heap.size := by have := hb2.size; simp at this; omega
       have hs2a : w.heap.size < w2.heap.size := by omega
       have hs2b : w.heap.size + 1 < w2.heap.size := by omega
       have hbw2 : Below w.heap.size w w2 := (hbw1.alloc hbw1.size _).trans (hb2.mono (by simp; omega))
       clear hb2 q1 hbw1)
    | (go_at_call 46; (with_reducible refine (q2 _).mono ?_); rintro e w3 ⟨rfl, hb3⟩
       have A0 : w3.cell? ⟨w.heap.size, 0, none⟩ = some (.int .i64 a) := cell_below (by go_simp) hb3
       have A1 : w3.cell? ⟨w.heap.size, 1, none⟩ = some (.int .i64 b) := cell_below (by go_simp) hb3
       have C0 : w3.cell? ⟨w.heap.size + 1, 0, none⟩ = some (.int .i64 c) := cell_below (by go_simp) hb3
       have C1 : w3.cell? ⟨w.heap.size + 1, 1, none⟩ = some (.int .i64 d) := cell_below (by go_simp) hb3
       have D0 : w3.cell? ⟨w1.heap.size, 0, none⟩ = some (.int .i64 1) := cell_below (by go_simp) hb3
       have D1 : w3.cell? ⟨w1.heap.size, 1, none⟩ = some (.int .i64 (2 * (n : Int))) := cell_below (by go_simp) hb3
       have E0 : w3.cell? ⟨w2.heap.size, 0, none⟩ = some (.int .i64 0) := cell_below (by go_simp) hb3
       have E1 : w3.cell? ⟨w2.heap.size, 1, none⟩ = some (.int .i64 0) := cell_below (by go_simp) hb3
       have hi3 : IntsAt w3 (.slice Aa n cap) (odds n) := ints_below hi2 (((Below.refl _ _).alloc (Nat.le_refl _) _).trans (hb3.mono (by simp)))
       clear hi2
       have hs3 : w2.heap.size < w3.heap.size := by have := hb3.size; simp at this; omega
       have hbw3 : Below w.heap.size w w3 := (hbw2.alloc hbw2.size _).trans (hb3.mono (by simp; omega))
       clear hb3 q2 hbw2))
  all_goals
    go_loop [12] (fun i => ∃ k : Nat, k ≤ n ∧ i = .int .i64 k) (fun i => n - (intOf i).toNat)
    case atStart => exact ⟨0, by omega, rfl⟩
    case round =>
      obtain ⟨k, hk, rfl⟩ := hrel
      by_cases hlt : k < n
      · obtain ⟨g, rfl, hg⟩ := ints_cell hi3 (k := k) (by rw [odds_len]; exact hlt)
        rw [odds_at hlt] at hg
        have m1 : IntKind.i64.wrap (2 * (k : Int)) = 2 * (k : Int) := IntWalk.i64_in _ (by omega)
        have m2 : IntKind.i64.wrap (2 * (k : Int) + 1) = 2 * (k : Int) + 1 := IntWalk.i64_in _ (by omega)
        have m3 : ((2 * (k : Int) + 1) != (2 * (k : Int) + 1)) = false := by simp
        go_wp2_with (fail)
        exact ⟨⟨k + 1, by omega, by go_num⟩, by simp [intOf]; omega⟩
      · have : k = n := by omega
        subst this
        go_wp2_with (go_at_call 19; refine (awake_any _).mono ?_; rintro e w9 ⟨rfl, hb9⟩)
        go_ret
        exact ⟨rfl, hbw3.trans (hb9.mono hbw3.size)⟩
set_option maxHeartbeats 2000000 in
set_option maxRecDepth 100000 in
theorem bests_yny {n : Nat} {a b c d : Int} (h1 : 1 ≤ n) (h2 : n ≤ 60) (hab : In64 a ∧ In64 b) (hcd : In64 c ∧ In64 d) (k1 : termB a b = true) (k2 : termB c d = false) (w : World) :
    Calls Try.prog 8 #[.int .i64 n, fracV a b, fracV c d] w fun e w' => e = .returned (.bool true) ∧ Below w.heap.size w w' := by
  have q2 := fun w => small_any hab.1 hab.2 w
  have q3 := fun w => small_any hcd.1 hcd.2 w
  have q1 := fun w => add_no hab hcd (.inr k2) w
  rw [k1] at q2
  rw [k2] at q3
  clear k1 k2
  have e0 := eqT 0 0
  have e2 := eqT 1 (2 * (n : Int))
  have hbest := fun w => best_any h1 h2 w
  have w2n : IntKind.i64.wrap (2 * (n : Int)) = 2 * (n : Int) := IntWalk.i64_in _ (by omega)
  unfold fracV at *
  go_enter Try.func8, Try.ntmps8
  go_wp2_with (first
    | (go_at_call 44; (with_reducible refine (hbest _).mono ?_); rintro e w1 ⟨v1, rfl, hi1, hb1⟩
       have hi1k := hi1
       obtain ⟨Aa, cap, hv, _⟩ := hi1
       rw [odds_len] at hv
       subst hv
       have A0 : w1.cell? ⟨w.heap.size, 0, none⟩ = some (.int .i64 a) := cell_below (by go_simp) hb1
       have A1 : w1.cell? ⟨w.heap.size, 1, none⟩ = some (.int .i64 b) := cell_below (by go_simp) hb1
       have C0 : w1.cell? ⟨w.heap.size + 1, 0, none⟩ = some (.int .i64 c) := cell_below (by go_simp) hb1
       have C1 : w1.cell? ⟨w.heap.size + 1, 1, none⟩ = some (.int .i64 d) := cell_below (by go_simp) hb1
       have hs1 : w.heap.size < w1.heap.size := by have := hb1.size; simp at this; omega
       have hs1' : w.heap.size + 1 < w1.heap.size := by have := hb1.size; simp at this; omega
       have hbw1 : Below w.heap.size w w1 := (((Below.refl _ w).alloc (Nat.le_refl _) _).alloc (by simp) _).trans (hb1.mono (by simp; try omega))
       clear hb1 hbest)
    | (go_at_call 45; (with_reducible refine (q1 _).mono ?_); rintro e w2 ⟨rfl, hb2⟩
       have A0 : w2.cell? ⟨w.heap.size, 0, none⟩ = some (.int .i64 a) := cell_below (by go_simp) hb2
       have A1 : w2.cell? ⟨w.heap.size, 1, none⟩ = some (.int .i64 b) := cell_below (by go_simp) hb2
       have C0 : w2.cell? ⟨w.heap.size + 1, 0, none⟩ = some (.int .i64 c) := cell_below (by go_simp) hb2
       have C1 : w2.cell? ⟨w.heap.size + 1, 1, none⟩ = some (.int .i64 d) := cell_below (by go_simp) hb2
       have D0 : w2.cell? ⟨w1.heap.size, 0, none⟩ = some (.int .i64 1) := cell_below (by go_simp) hb2
       have D1 : w2.cell? ⟨w1.heap.size, 1, none⟩ = some (.int .i64 (2 * (n : Int))) := cell_below (by go_simp) hb2
       have hi2 : IntsAt w2 (.slice Aa n cap) (odds n) := ints_below hi1k (((Below.refl _ _).alloc (Nat.le_refl _) _).trans (hb2.mono (by simp)))
       clear hi1k
       have hs2 : w1.heap.size < w2.heap.size := by have := hb2.size; simp at this; omega
       have hs2a : w.heap.size < w2.heap.size := by omega
       have hs2b : w.heap.size + 1 < w2.heap.size := by omega
       have hbw2 : Below w.heap.size w w2 := (hbw1.alloc hbw1.size _).trans (hb2.mono (by simp; omega))
       clear hb2 q1 hbw1)
    | (go_at_call 46; (with_reducible refine (q2 _).mono ?_); rintro e w3 ⟨rfl, hb3⟩
       have A0 : w3.cell? ⟨w.heap.size, 0, none⟩ = some (.int .i64 a) := cell_below (by go_simp) hb3
       have A1 : w3.cell? ⟨w.heap.size, 1, none⟩ = some (.int .i64 b) := cell_below (by go_simp) hb3
       have C0 : w3.cell? ⟨w.heap.size + 1, 0, none⟩ = some (.int .i64 c) := cell_below (by go_simp) hb3
       have C1 : w3.cell? ⟨w.heap.size + 1, 1, none⟩ = some (.int .i64 d) := cell_below (by go_simp) hb3
       have D0 : w3.cell? ⟨w1.heap.size, 0, none⟩ = some (.int .i64 1) := cell_below (by go_simp) hb3
       have D1 : w3.cell? ⟨w1.heap.size, 1, none⟩ = some (.int .i64 (2 * (n : Int))) := cell_below (by go_simp) hb3
       have E0 : w3.cell? ⟨w2.heap.size, 0, none⟩ = some (.int .i64 0) := cell_below (by go_simp) hb3
       have E1 : w3.cell? ⟨w2.heap.size, 1, none⟩ = some (.int .i64 0) := cell_below (by go_simp) hb3
       have hi3 : IntsAt w3 (.slice Aa n cap) (odds n) := ints_below hi2 (((Below.refl _ _).alloc (Nat.le_refl _) _).trans (hb3.mono (by simp)))
       clear hi2
       have hs3 : w2.heap.size < w3.heap.size := by have := hb3.size; simp at this; omega
       have hbw3 : Below w.heap.size w w3 := (hbw2.alloc hbw2.size _).trans (hb3.mono (by simp; omega))
       clear hb3 q2 hbw2)
    | (go_at_call 46; (with_reducible refine (q3 _).mono ?_); rintro e w4 ⟨rfl, hb4⟩
       have A0 : w4.cell? ⟨w.heap.size, 0, none⟩ = some (.int .i64 a) := cell_below (by go_simp) hb4
       have A1 : w4.cell? ⟨w.heap.size, 1, none⟩ = some (.int .i64 b) := cell_below (by go_simp) hb4
       have C0 : w4.cell? ⟨w.heap.size + 1, 0, none⟩ = some (.int .i64 c) := cell_below (by go_simp) hb4
       have C1 : w4.cell? ⟨w.heap.size + 1, 1, none⟩ = some (.int .i64 d) := cell_below (by go_simp) hb4
       have D0 : w4.cell? ⟨w1.heap.size, 0, none⟩ = some (.int .i64 1) := cell_below (by go_simp) hb4
       have D1 : w4.cell? ⟨w1.heap.size, 1, none⟩ = some (.int .i64 (2 * (n : Int))) := cell_below (by go_simp) hb4
       have E0 : w4.cell? ⟨w2.heap.size, 0, none⟩ = some (.int .i64 0) := cell_below (by go_simp) hb4
       have E1 : w4.cell? ⟨w2.heap.size, 1, none⟩ = some (.int .i64 0) := cell_below (by go_simp) hb4
       have hi4 : IntsAt w4 (.slice Aa n cap) (odds n) := ints_below hi3 hb4
       clear hi3
       have hs4 : w2.heap.size < w4.heap.size := by have := hb4.size; omega
       have hbw4 : Below w.heap.size w w4 := hbw3.trans (hb4.mono hbw3.size)
       clear hb4 q3 hbw3))
  all_goals
    go_loop [12] (fun i => ∃ k : Nat, k ≤ n ∧ i = .int .i64 k) (fun i => n - (intOf i).toNat)
    case atStart => exact ⟨0, by omega, rfl⟩
    case round =>
      obtain ⟨k, hk, rfl⟩ := hrel
      by_cases hlt : k < n
      · obtain ⟨g, rfl, hg⟩ := ints_cell hi4 (k := k) (by rw [odds_len]; exact hlt)
        rw [odds_at hlt] at hg
        have m1 : IntKind.i64.wrap (2 * (k : Int)) = 2 * (k : Int) := IntWalk.i64_in _ (by omega)
        have m2 : IntKind.i64.wrap (2 * (k : Int) + 1) = 2 * (k : Int) + 1 := IntWalk.i64_in _ (by omega)
        have m3 : ((2 * (k : Int) + 1) != (2 * (k : Int) + 1)) = false := by simp
        go_wp2_with (fail)
        exact ⟨⟨k + 1, by omega, by go_num⟩, by simp [intOf]; omega⟩
      · have : k = n := by omega
        subst this
        go_wp2_with (go_at_call 19; refine (awake_any _).mono ?_; rintro e w9 ⟨rfl, hb9⟩)
        go_ret
        exact ⟨rfl, hbw4.trans (hb9.mono hbw4.size)⟩
set_option maxHeartbeats 2000000 in
set_option maxRecDepth 100000 in
theorem bests_yyy {n : Nat} {a b c d : Int} (h1 : 1 ≤ n) (h2 : n ≤ 60) (hab : In64 a ∧ In64 b) (hcd : In64 c ∧ In64 d) (k1 : termB a b = true) (k2 : termB c d = true) (w : World) :
    Calls Try.prog 8 #[.int .i64 n, fracV a b, fracV c d] w fun e w' => e = .returned (.bool true) ∧ Below w.heap.size w w' := by
  have q2 := fun w => small_any hab.1 hab.2 w
  have q3 := fun w => small_any hcd.1 hcd.2 w
  have q1 := fun w => add_any hab hcd k1 k2 w
  have q4 := fun w => refAdd_any k1 k2 w
  rw [k1] at q2
  rw [k2] at q3
  obtain ⟨x, hx⟩ : ∃ x, redN (sumN a b c d) (sumD b d) = x := ⟨_, rfl⟩
  obtain ⟨y, hy⟩ : ∃ y, redD (sumN a b c d) (sumD b d) = y := ⟨_, rfl⟩
  rw [hx, hy] at q1 q4
  clear hx hy k1 k2
  have e1 := eqT x y
  have e0 := eqT 0 0
  have e2 := eqT 1 (2 * (n : Int))
  have hbest := fun w => best_any h1 h2 w
  have w2n : IntKind.i64.wrap (2 * (n : Int)) = 2 * (n : Int) := IntWalk.i64_in _ (by omega)
  unfold fracV at *
  go_enter Try.func8, Try.ntmps8
  go_wp2_with (first
    | (go_at_call 44; (with_reducible refine (hbest _).mono ?_); rintro e w1 ⟨v1, rfl, hi1, hb1⟩
       have hi1k := hi1
       obtain ⟨Aa, cap, hv, _⟩ := hi1
       rw [odds_len] at hv
       subst hv
       have A0 : w1.cell? ⟨w.heap.size, 0, none⟩ = some (.int .i64 a) := cell_below (by go_simp) hb1
       have A1 : w1.cell? ⟨w.heap.size, 1, none⟩ = some (.int .i64 b) := cell_below (by go_simp) hb1
       have C0 : w1.cell? ⟨w.heap.size + 1, 0, none⟩ = some (.int .i64 c) := cell_below (by go_simp) hb1
       have C1 : w1.cell? ⟨w.heap.size + 1, 1, none⟩ = some (.int .i64 d) := cell_below (by go_simp) hb1
       have hs1 : w.heap.size < w1.heap.size := by have := hb1.size; simp at this; omega
       have hs1' : w.heap.size + 1 < w1.heap.size := by have := hb1.size; simp at this; omega
       have hbw1 : Below w.heap.size w w1 := (((Below.refl _ w).alloc (Nat.le_refl _) _).alloc (by simp) _).trans (hb1.mono (by simp; try omega))
       clear hb1 hbest)
    | (go_at_call 45; (with_reducible refine (q1 _).mono ?_); rintro e w2 ⟨rfl, hb2⟩
       have A0 : w2.cell? ⟨w.heap.size, 0, none⟩ = some (.int .i64 a) := cell_below (by go_simp) hb2
       have A1 : w2.cell? ⟨w.heap.size, 1, none⟩ = some (.int .i64 b) := cell_below (by go_simp) hb2
       have C0 : w2.cell? ⟨w.heap.size + 1, 0, none⟩ = some (.int .i64 c) := cell_below (by go_simp) hb2
       have C1 : w2.cell? ⟨w.heap.size + 1, 1, none⟩ = some (.int .i64 d) := cell_below (by go_simp) hb2
       have D0 : w2.cell? ⟨w1.heap.size, 0, none⟩ = some (.int .i64 1) := cell_below (by go_simp) hb2
       have D1 : w2.cell? ⟨w1.heap.size, 1, none⟩ = some (.int .i64 (2 * (n : Int))) := cell_below (by go_simp) hb2
       have hi2 : IntsAt w2 (.slice Aa n cap) (odds n) := ints_below hi1k (((Below.refl _ _).alloc (Nat.le_refl _) _).trans (hb2.mono (by simp)))
       clear hi1k
       have hs2 : w1.heap.size < w2.heap.size := by have := hb2.size; simp at this; omega
       have hs2a : w.heap.size < w2.heap.size := by omega
       have hs2b : w.heap.size + 1 < w2.heap.size := by omega
       have hbw2 : Below w.heap.size w w2 := (hbw1.alloc hbw1.size _).trans (hb2.mono (by simp; omega))
       clear hb2 q1 hbw1)
    | (go_at_call 46; (with_reducible refine (q2 _).mono ?_); rintro e w3 ⟨rfl, hb3⟩
       have A0 : w3.cell? ⟨w.heap.size, 0, none⟩ = some (.int .i64 a) := cell_below (by go_simp) hb3
       have A1 : w3.cell? ⟨w.heap.size, 1, none⟩ = some (.int .i64 b) := cell_below (by go_simp) hb3
       have C0 : w3.cell? ⟨w.heap.size + 1, 0, none⟩ = some (.int .i64 c) := cell_below (by go_simp) hb3
       have C1 : w3.cell? ⟨w.heap.size + 1, 1, none⟩ = some (.int .i64 d) := cell_below (by go_simp) hb3
       have D0 : w3.cell? ⟨w1.heap.size, 0, none⟩ = some (.int .i64 1) := cell_below (by go_simp) hb3
       have D1 : w3.cell? ⟨w1.heap.size, 1, none⟩ = some (.int .i64 (2 * (n : Int))) := cell_below (by go_simp) hb3
       have E0 : w3.cell? ⟨w2.heap.size, 0, none⟩ = some (.int .i64 x) := cell_below (by go_simp) hb3
       have E1 : w3.cell? ⟨w2.heap.size, 1, none⟩ = some (.int .i64 y) := cell_below (by go_simp) hb3
       have hi3 : IntsAt w3 (.slice Aa n cap) (odds n) := ints_below hi2 (((Below.refl _ _).alloc (Nat.le_refl _) _).trans (hb3.mono (by simp)))
       clear hi2
       have hs3 : w2.heap.size < w3.heap.size := by have := hb3.size; simp at this; omega
       have hbw3 : Below w.heap.size w w3 := (hbw2.alloc hbw2.size _).trans (hb3.mono (by simp; omega))
       clear hb3 q2 hbw2)
    | (go_at_call 46; (with_reducible refine (q3 _).mono ?_); rintro e w4 ⟨rfl, hb4⟩
       have A0 : w4.cell? ⟨w.heap.size, 0, none⟩ = some (.int .i64 a) := cell_below (by go_simp) hb4
       have A1 : w4.cell? ⟨w.heap.size, 1, none⟩ = some (.int .i64 b) := cell_below (by go_simp) hb4
       have C0 : w4.cell? ⟨w.heap.size + 1, 0, none⟩ = some (.int .i64 c) := cell_below (by go_simp) hb4
       have C1 : w4.cell? ⟨w.heap.size + 1, 1, none⟩ = some (.int .i64 d) := cell_below (by go_simp) hb4
       have D0 : w4.cell? ⟨w1.heap.size, 0, none⟩ = some (.int .i64 1) := cell_below (by go_simp) hb4
       have D1 : w4.cell? ⟨w1.heap.size, 1, none⟩ = some (.int .i64 (2 * (n : Int))) := cell_below (by go_simp) hb4
       have E0 : w4.cell? ⟨w2.heap.size, 0, none⟩ = some (.int .i64 x) := cell_below (by go_simp) hb4
       have E1 : w4.cell? ⟨w2.heap.size, 1, none⟩ = some (.int .i64 y) := cell_below (by go_simp) hb4
       have hi4 : IntsAt w4 (.slice Aa n cap) (odds n) := ints_below hi3 hb4
       clear hi3
       have hs4 : w2.heap.size < w4.heap.size := by have := hb4.size; omega
       have hbw4 : Below w.heap.size w w4 := hbw3.trans (hb4.mono hbw3.size)
       clear hb4 q3 hbw3))
  have hbw4k := Keep.mk hbw4
  clear hbw4
  have hi4k := Keep.mk hi4
  clear hi4
  go_region_held3 (fun w' => w'.cell? ⟨w.heap.size, 0, none⟩ = some (.int .i64 a) ∧ w'.cell? ⟨w.heap.size, 1, none⟩ = some (.int .i64 b) ∧ w'.cell? ⟨w.heap.size + 1, 0, none⟩ = some (.int .i64 c) ∧ w'.cell? ⟨w.heap.size + 1, 1, none⟩ = some (.int .i64 d) ∧ w'.cell? ⟨w2.heap.size, 0, none⟩ = some (.int .i64 x) ∧ w'.cell? ⟨w2.heap.size, 1, none⟩ = some (.int .i64 y))
    (first | exact ⟨A0, A1, C0, C1, E0, E1⟩ | go_keep)
    ((go_at_call 47; (with_reducible refine (q4 _).mono ?_); rintro e w5 ⟨rfl, hb5⟩
      have A0 : w5.cell? ⟨w.heap.size, 0, none⟩ = some (.int .i64 a) := cell_below (by exact A0) hb5
      have A1 : w5.cell? ⟨w.heap.size, 1, none⟩ = some (.int .i64 b) := cell_below (by exact A1) hb5
      have C0 : w5.cell? ⟨w.heap.size + 1, 0, none⟩ = some (.int .i64 c) := cell_below (by exact C0) hb5
      have C1 : w5.cell? ⟨w.heap.size + 1, 1, none⟩ = some (.int .i64 d) := cell_below (by exact C1) hb5
      have D0 : w5.cell? ⟨w1.heap.size, 0, none⟩ = some (.int .i64 1) := cell_below (by exact D0) hb5
      have D1 : w5.cell? ⟨w1.heap.size, 1, none⟩ = some (.int .i64 (2 * (n : Int))) := cell_below (by exact D1) hb5
      have E0 : w5.cell? ⟨w2.heap.size, 0, none⟩ = some (.int .i64 x) := cell_below (by exact E0) hb5
      have E1 : w5.cell? ⟨w2.heap.size, 1, none⟩ = some (.int .i64 y) := cell_below (by exact E1) hb5
      have hi5 : Keep (IntsAt w5 (.slice Aa n cap) (odds n)) := ⟨ints_below (ints_below hi4k.out (below_drewN (Below.refl _ _) 1)) hb5⟩
      have hbw5 : Keep (Below w.heap.size w w5) := ⟨(below_drewN hbw4k.out 1).trans (hb5.mono (by have := hbw4k.out.size; simpa using this))⟩
      clear hb5 q4))
  all_goals go_wp2_with (fail)
  all_goals
    go_loop [12] (fun i => ∃ k : Nat, k ≤ n ∧ i = .int .i64 k) (fun i => n - (intOf i).toNat)
    case atStart => exact ⟨0, by omega, rfl⟩
    case round =>
      obtain ⟨k, hk, rfl⟩ := hrel
      by_cases hlt : k < n
      · obtain ⟨g, rfl, hg⟩ := ints_cell hi5.out (k := k) (by rw [odds_len]; exact hlt)
        rw [odds_at hlt] at hg
        have m1 : IntKind.i64.wrap (2 * (k : Int)) = 2 * (k : Int) := IntWalk.i64_in _ (by omega)
        have m2 : IntKind.i64.wrap (2 * (k : Int) + 1) = 2 * (k : Int) + 1 := IntWalk.i64_in _ (by omega)
        have m3 : ((2 * (k : Int) + 1) != (2 * (k : Int) + 1)) = false := by simp
        go_wp2_with (fail)
        exact ⟨⟨k + 1, by omega, by go_num⟩, by simp [intOf]; omega⟩
      · have : k = n := by omega
        subst this
        go_wp2_with (go_at_call 19; refine (awake_any _).mono ?_; rintro e w9 ⟨rfl, hb9⟩)
        go_ret
        exact ⟨rfl, hbw5.out.trans (hb9.mono hbw5.out.size)⟩
theorem bests_any {n a b c d : Int} (hn : In64 n) (hab : In64 a ∧ In64 b) (hcd : In64 c ∧ In64 d) (w : World) :
    Calls Try.prog 8 #[.int .i64 n, fracV a b, fracV c d] w fun e w' => e = .returned (.bool true) ∧ Below w.heap.size w w' := by
  by_cases h : n < 1 ∨ 60 < n
  · cases k1 : termB a b with
    | false => exact bests_nn h hab hcd k1 w
    | true => cases k2 : termB c d with
      | false => exact bests_yn h hab hcd k1 k2 w
      | true => exact bests_yy h hab hcd k1 k2 w
  · obtain ⟨m, rfl⟩ : ∃ m : Nat, n = m := ⟨n.toNat, by omega⟩
    cases k1 : termB a b with
    | false => exact bests_ny (by omega) (by omega) hab hcd k1 w
    | true => cases k2 : termB c d with
      | false => exact bests_yny (by omega) (by omega) hab hcd k1 k2 w
      | true => exact bests_yyy (by omega) (by omega) hab hcd k1 k2 w
end Go.Proofs.Ytifbiamfandjnaa
