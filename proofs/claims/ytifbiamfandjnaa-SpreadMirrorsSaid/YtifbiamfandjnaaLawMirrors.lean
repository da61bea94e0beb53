import Derived.Test.YtifbiamfandjnaaAwake
import Derived.Test.YtifbiamfandjnaaBackFn
import Derived.Test.YtifbiamfandjnaaOpenArgs
import Derived.Deep.RegionHeld3
set_option linter.unusedSimpArgs false
set_option linter.unusedVariables false
namespace Go.Proofs.Ytifbiamfandjnaa
open Go Go.Proofs Go.RowKit
theorem eqT (a b : Int) (w : World) : (Op.equalIn 10000 25 (.agg #[.int .i64 a, .int .i64 b]) (.agg #[.int .i64 a, .int .i64 b])).run Try.prog w = .ok true w := by
  rw [eq25]; simp
set_option maxHeartbeats 2000000 in
set_option maxRecDepth 100000 in
theorem mirrors_b0 {b : Int} (hb : baseB b = false) {k : Int} {n d : Int} (hn : In64 n) (hd : In64 d) (w : World) :
    Calls Try.prog 6 #[.int .i64 b, .int .i64 k, fracV n d] w fun e w' => e = .returned (.bool true) ∧ Below w.heap.size w w' := by
  have q36 := fun w => refBase_any b w
  rw [hb] at q36
  have q34 := fun w => mirrorFn_no (b := b) (k := k) (by unfold mirOK; rw [hb]; rfl) w
  have q35 := fun w => back_no (b := b) hn hd (by unfold backArg; rw [hb]; rfl) w
  clear hb hn hd
  have e0 := eqT 0 0
  unfold fracV at *
  go_enter Try.func6, Try.ntmps6
  all_goals go_wp2_with (first
    | (go_at_call 34; (with_reducible refine (q34 _).mono ?_); rintro e w1 ⟨rfl, hb1⟩
       have A0 : w1.cell? ⟨w.heap.size, 0, none⟩ = some (.int .i64 n) := cell_below (by go_simp) hb1
       have A1 : w1.cell? ⟨w.heap.size, 1, none⟩ = some (.int .i64 d) := cell_below (by go_simp) hb1
       have hs1 : w.heap.size < w1.heap.size := by have := hb1.size; simp at this; omega
       have hbw1 : Below w.heap.size w w1 := ((Below.refl _ w).alloc (Nat.le_refl _) _).trans (hb1.mono (by simp))
       clear hb1 q34)
    | (go_at_call 35; (with_reducible refine (q35 _).mono ?_); rintro e w2 ⟨rfl, hb2⟩
       have A0 : w2.cell? ⟨w.heap.size, 0, none⟩ = some (.int .i64 n) := cell_below (by go_simp) hb2
       have A1 : w2.cell? ⟨w.heap.size, 1, none⟩ = some (.int .i64 d) := cell_below (by go_simp) hb2
       have E0 : w2.cell? ⟨w1.heap.size, 0, none⟩ = some (.int .i64 0) := cell_below (by go_simp) hb2
       have E1 : w2.cell? ⟨w1.heap.size, 1, none⟩ = some (.int .i64 0) := cell_below (by go_simp) hb2
       have hs2 : w1.heap.size < w2.heap.size := by have := hb2.size; simp at this; omega
       have hs2a : w.heap.size < w2.heap.size := by omega
       have hbw2 : Below w.heap.size w w2 := (hbw1.alloc hbw1.size _).trans (hb2.mono (by simp; omega))
       clear hb2 q35 hbw1)
    | (go_at_call 36; (with_reducible refine (q36 _).mono ?_); rintro e w' ⟨rfl, rfl⟩)
    | (go_at_call 19; refine (awake_any _).mono ?_; rintro e w9 ⟨rfl, hb9⟩))
  all_goals go_ret
  all_goals exact ⟨rfl, hbw2.trans (hb9.mono hbw2.size)⟩
set_option maxHeartbeats 2000000 in
set_option maxRecDepth 100000 in
theorem mirrors_yinv {b : Nat} (hb1 : 2 ≤ b) (hb2 : b ≤ 16) {k : Nat} (hk : k ≤ 1000000) {n d : Int} (hn : In64 n) (hd : In64 d) (hv : validB n d = false) (w : World) :
    Calls Try.prog 6 #[.int .i64 (b : Int), .int .i64 (k : Int), fracV n d] w fun e w' => e = .returned (.bool true) ∧ Below w.heap.size w w' := by
  have hb := show baseB (b : Int) = true from decide_eq_true (by omega)
  have q36 := fun w => refBase_any (b : Int) w
  rw [hb] at q36
  obtain ⟨⟨X, Y⟩, hm⟩ : ∃ XY, mir b 20 k 0 1 = XY := ⟨_, rfl⟩
  have q34 := fun w => mirrorFn_any hb1 hb2 hk hm w
  have q37 := fun w => refMirror_any hb1 hb2 hk hm w
  obtain ⟨x, hx⟩ : ∃ x, redN (X : Int) (Y : Int) = x := ⟨_, rfl⟩
  obtain ⟨y, hy⟩ : ∃ y, redD (X : Int) (Y : Int) = y := ⟨_, rfl⟩
  rw [hx, hy] at q34 q37
  clear hx hy hm
  have e1 := eqT x y
  have q35 := fun w => back_no (b := (b : Int)) hn hd (by unfold backArg; rw [hb, hv]; rfl) w
  have q38 := fun w => valid_any n d hn.1 hn.2 hd.1 hd.2 w
  rw [hv] at q38
  clear hv hb hn hd
  obtain ⟨B, hB⟩ : ∃ B : Int, Keep ((b : Int) = B) := ⟨_, ⟨rfl⟩⟩
  rw [hB.out] at q34 q35 q36 q37 ⊢
  clear hb1 hb2
  have e0 := eqT 0 0
  unfold fracV at *
  go_enter Try.func6, Try.ntmps6
  go_wp2_with (first
    | (go_at_call 34; (with_reducible refine (q34 _).mono ?_); rintro e w1 ⟨rfl, hb1⟩
       have A0 : w1.cell? ⟨w.heap.size, 0, none⟩ = some (.int .i64 n) := cell_below (by go_simp) hb1
       have A1 : w1.cell? ⟨w.heap.size, 1, none⟩ = some (.int .i64 d) := cell_below (by go_simp) hb1
       have hs1 : w.heap.size < w1.heap.size := by have := hb1.size; simp at this; omega
       have hbw1 : Below w.heap.size w w1 := ((Below.refl _ w).alloc (Nat.le_refl _) _).trans (hb1.mono (by simp))
       clear hb1 q34)
    | (go_at_call 35; (with_reducible refine (q35 _).mono ?_); rintro e w2 ⟨rfl, hb2⟩
       have A0 : w2.cell? ⟨w.heap.size, 0, none⟩ = some (.int .i64 n) := cell_below (by go_simp) hb2
       have A1 : w2.cell? ⟨w.heap.size, 1, none⟩ = some (.int .i64 d) := cell_below (by go_simp) hb2
       have E0 : w2.cell? ⟨w1.heap.size, 0, none⟩ = some (.int .i64 x) := cell_below (by go_simp) hb2
       have E1 : w2.cell? ⟨w1.heap.size, 1, none⟩ = some (.int .i64 y) := cell_below (by go_simp) hb2
       have hs2 : w1.heap.size < w2.heap.size := by have := hb2.size; simp at this; omega
       have hs2a : w.heap.size < w2.heap.size := by omega
       have hbw2 : Below w.heap.size w w2 := (hbw1.alloc hbw1.size _).trans (hb2.mono (by simp; omega))
       clear hb2 q35 hbw1)
    | (go_at_call 36; (with_reducible refine (q36 _).mono ?_); rintro e w' ⟨rfl, rfl⟩))
  have hbw2k := Keep.mk hbw2
  clear hbw2
  go_region_held3 (fun w' => w'.cell? ⟨w1.heap.size, 0, none⟩ = some (.int .i64 x) ∧ w'.cell? ⟨w1.heap.size, 1, none⟩ = some (.int .i64 y))
    (first | exact ⟨E0, E1⟩ | go_keep)
    ((go_at_call 37; (with_reducible refine (q37 _).mono ?_); rintro e w3 ⟨rfl, hb3⟩
      have A0 : w3.cell? ⟨w.heap.size, 0, none⟩ = some (.int .i64 n) := cell_below (by exact A0) hb3
      have A1 : w3.cell? ⟨w.heap.size, 1, none⟩ = some (.int .i64 d) := cell_below (by exact A1) hb3
      have E0 : w3.cell? ⟨w1.heap.size, 0, none⟩ = some (.int .i64 x) := cell_below (by exact E0) hb3
      have E1 : w3.cell? ⟨w1.heap.size, 1, none⟩ = some (.int .i64 y) := cell_below (by exact E1) hb3
      have hbw3 : Keep (Below w.heap.size w w3) := ⟨(below_drewN hbw2k.out 1).trans (hb3.mono (by have := hbw2k.out.size; simpa using this))⟩
      clear hb3 q37))
  all_goals go_wp2_with (first
    | (go_at_call 36; (with_reducible refine (q36 _).mono ?_); rintro e w' ⟨rfl, rfl⟩)
    | (go_at_call 38; (with_reducible refine (q38 _).mono ?_); rintro e w4 ⟨rfl, hb4⟩
       have A0 : w4.cell? ⟨w.heap.size, 0, none⟩ = some (.int .i64 n) := cell_below (by go_simp) hb4
       have A1 : w4.cell? ⟨w.heap.size, 1, none⟩ = some (.int .i64 d) := cell_below (by go_simp) hb4
       have hbw4 : Below w.heap.size w w4 := hbw3.out.trans (hb4.mono hbw3.out.size)
       clear hb4 q38)
    | (go_at_call 19; refine (awake_any _).mono ?_; rintro e w9 ⟨rfl, hb9⟩))
  all_goals go_ret
  all_goals exact ⟨rfl, hbw4.trans (hb9.mono hbw4.size)⟩
set_option maxHeartbeats 2000000 in
set_option maxRecDepth 100000 in
theorem mirrors_yrng {b : Nat} (hb1 : 2 ≤ b) (hb2 : b ≤ 16) {k : Nat} (hk : k ≤ 1000000) {n d : Int} (hn : In64 n) (hd : In64 d) (hv : validB n d = true) (hr : n < 0 ∨ d ≤ n) (w : World) :
    Calls Try.prog 6 #[.int .i64 (b : Int), .int .i64 (k : Int), fracV n d] w fun e w' => e = .returned (.bool true) ∧ Below w.heap.size w w' := by
  have hb := show baseB (b : Int) = true from decide_eq_true (by omega)
  have q36 := fun w => refBase_any (b : Int) w
  rw [hb] at q36
  obtain ⟨⟨X, Y⟩, hm⟩ : ∃ XY, mir b 20 k 0 1 = XY := ⟨_, rfl⟩
  have q34 := fun w => mirrorFn_any hb1 hb2 hk hm w
  have q37 := fun w => refMirror_any hb1 hb2 hk hm w
  obtain ⟨x, hx⟩ : ∃ x, redN (X : Int) (Y : Int) = x := ⟨_, rfl⟩
  obtain ⟨y, hy⟩ : ∃ y, redD (X : Int) (Y : Int) = y := ⟨_, rfl⟩
  rw [hx, hy] at q34 q37
  clear hx hy hm
  have e1 := eqT x y
  have q35 := fun w => back_no (b := (b : Int)) hn hd (by unfold backArg; rw [hb, hv]; simp; omega) w
  have q38 := fun w => valid_any n d hn.1 hn.2 hd.1 hd.2 w
  rw [hv] at q38
  clear hv hb hn hd
  obtain ⟨B, hB⟩ : ∃ B : Int, Keep ((b : Int) = B) := ⟨_, ⟨rfl⟩⟩
  rw [hB.out] at q34 q35 q36 q37 ⊢
  clear hb1 hb2
  have e0 := eqT 0 0
  unfold fracV at *
  go_enter Try.func6, Try.ntmps6
  go_wp2_with (first
    | (go_at_call 34; (with_reducible refine (q34 _).mono ?_); rintro e w1 ⟨rfl, hb1⟩
       have A0 : w1.cell? ⟨w.heap.size, 0, none⟩ = some (.int .i64 n) := cell_below (by go_simp) hb1
       have A1 : w1.cell? ⟨w.heap.size, 1, none⟩ = some (.int .i64 d) := cell_below (by go_simp) hb1
       have hs1 : w.heap.size < w1.heap.size := by have := hb1.size; simp at this; omega
       have hbw1 : Below w.heap.size w w1 := ((Below.refl _ w).alloc (Nat.le_refl _) _).trans (hb1.mono (by simp))
       clear hb1 q34)
    | (go_at_call 35; (with_reducible refine (q35 _).mono ?_); rintro e w2 ⟨rfl, hb2⟩
       have A0 : w2.cell? ⟨w.heap.size, 0, none⟩ = some (.int .i64 n) := cell_below (by go_simp) hb2
       have A1 : w2.cell? ⟨w.heap.size, 1, none⟩ = some (.int .i64 d) := cell_below (by go_simp) hb2
       have E0 : w2.cell? ⟨w1.heap.size, 0, none⟩ = some (.int .i64 x) := cell_below (by go_simp) hb2
       have E1 : w2.cell? ⟨w1.heap.size, 1, none⟩ = some (.int .i64 y) := cell_below (by go_simp) hb2
       have hs2 : w1.heap.size < w2.heap.size := by have := hb2.size; simp at this; omega
       have hs2a : w.heap.size < w2.heap.size := by omega
       have hbw2 : Below w.heap.size w w2 := (hbw1.alloc hbw1.size _).trans (hb2.mono (by simp; omega))
       clear hb2 q35 hbw1)
    | (go_at_call 36; (with_reducible refine (q36 _).mono ?_); rintro e w' ⟨rfl, rfl⟩))
  have hbw2k := Keep.mk hbw2
  clear hbw2
  go_region_held3 (fun w' => w'.cell? ⟨w1.heap.size, 0, none⟩ = some (.int .i64 x) ∧ w'.cell? ⟨w1.heap.size, 1, none⟩ = some (.int .i64 y))
    (first | exact ⟨E0, E1⟩ | go_keep)
    ((go_at_call 37; (with_reducible refine (q37 _).mono ?_); rintro e w3 ⟨rfl, hb3⟩
      have A0 : w3.cell? ⟨w.heap.size, 0, none⟩ = some (.int .i64 n) := cell_below (by exact A0) hb3
      have A1 : w3.cell? ⟨w.heap.size, 1, none⟩ = some (.int .i64 d) := cell_below (by exact A1) hb3
      have E0 : w3.cell? ⟨w1.heap.size, 0, none⟩ = some (.int .i64 x) := cell_below (by exact E0) hb3
      have E1 : w3.cell? ⟨w1.heap.size, 1, none⟩ = some (.int .i64 y) := cell_below (by exact E1) hb3
      have hbw3 : Keep (Below w.heap.size w w3) := ⟨(below_drewN hbw2k.out 1).trans (hb3.mono (by have := hbw2k.out.size; simpa using this))⟩
      clear hb3 q37))
  all_goals rcases hr with hr | hr
  all_goals go_wp2_with (first
    | (go_at_call 36; (with_reducible refine (q36 _).mono ?_); rintro e w' ⟨rfl, rfl⟩)
    | (go_at_call 38; (with_reducible refine (q38 _).mono ?_); rintro e w4 ⟨rfl, hb4⟩
       have A0 : w4.cell? ⟨w.heap.size, 0, none⟩ = some (.int .i64 n) := cell_below (by go_simp) hb4
       have A1 : w4.cell? ⟨w.heap.size, 1, none⟩ = some (.int .i64 d) := cell_below (by go_simp) hb4
       have hbw4 : Below w.heap.size w w4 := hbw3.out.trans (hb4.mono hbw3.out.size)
       clear hb4 q38)
    | (go_at_call 19; refine (awake_any _).mono ?_; rintro e w9 ⟨rfl, hb9⟩))
  all_goals go_ret
  all_goals exact ⟨rfl, hbw4.trans (hb9.mono hbw4.size)⟩
set_option maxHeartbeats 2000000 in
set_option maxRecDepth 100000 in
theorem mirrors_ynone {b : Nat} (hb1 : 2 ≤ b) (hb2 : b ≤ 16) {k : Nat} (hk : k ≤ 1000000) {n d : Nat} (hd64 : In64 (d : Int)) (hv : validB (n : Int) (d : Int) = true) (hnd : n < d) (hR : backR b n d = none) (w : World) :
    Calls Try.prog 6 #[.int .i64 (b : Int), .int .i64 (k : Int), fracV (n : Int) (d : Int)] w fun e w' => e = .returned (.bool true) ∧ Below w.heap.size w w' := by
  have hb := show baseB (b : Int) = true from decide_eq_true (by omega)
  have q36 := fun w => refBase_any (b : Int) w
  rw [hb] at q36
  obtain ⟨⟨X, Y⟩, hm⟩ : ∃ XY, mir b 20 k 0 1 = XY := ⟨_, rfl⟩
  have q34 := fun w => mirrorFn_any hb1 hb2 hk hm w
  have q37 := fun w => refMirror_any hb1 hb2 hk hm w
  obtain ⟨x, hx⟩ : ∃ x, redN (X : Int) (Y : Int) = x := ⟨_, rfl⟩
  obtain ⟨y, hy⟩ : ∃ y, redD (X : Int) (Y : Int) = y := ⟨_, rfl⟩
  rw [hx, hy] at q34 q37
  clear hx hy hm
  have e1 := eqT x y
  have hd2 := hd64.2
  have q35 := fun w => back_any hb1 hb2 hd64 hv hnd w
  have q39 := fun w => refBack_any hb1 hb2 hd64 hnd w
  have q38 := fun w => valid_any (n : Int) (d : Int) (by omega) (by omega) (by omega) (by omega) w
  rw [hv] at q38
  rw [hR] at q35
  obtain ⟨z, hz⟩ := backV2_none hR
  rw [hz] at q39
  unfold backV at q35
  clear hz hR hv hd64 hd2 hb
  obtain ⟨B, hB⟩ : ∃ B : Int, Keep ((b : Int) = B) := ⟨_, ⟨rfl⟩⟩
  rw [hB.out] at q34 q35 q36 q37 q39 ⊢
  clear hb1 hb2
  have e0 := eqT 0 0
  unfold fracV at *
  go_enter Try.func6, Try.ntmps6
  go_wp2_with (first
    | (go_at_call 34; (with_reducible refine (q34 _).mono ?_); rintro e w1 ⟨rfl, hb1⟩
       have A0 : w1.cell? ⟨w.heap.size, 0, none⟩ = some (.int .i64 (n : Int)) := cell_below (by go_simp) hb1
       have A1 : w1.cell? ⟨w.heap.size, 1, none⟩ = some (.int .i64 (d : Int)) := cell_below (by go_simp) hb1
       have hs1 : w.heap.size < w1.heap.size := by have := hb1.size; simp at this; omega
       have hbw1 : Below w.heap.size w w1 := ((Below.refl _ w).alloc (Nat.le_refl _) _).trans (hb1.mono (by simp))
       clear hb1 q34)
    | (go_at_call 35; (with_reducible refine (q35 _).mono ?_); rintro e w2 ⟨rfl, hb2⟩
       have A0 : w2.cell? ⟨w.heap.size, 0, none⟩ = some (.int .i64 (n : Int)) := cell_below (by go_simp) hb2
       have A1 : w2.cell? ⟨w.heap.size, 1, none⟩ = some (.int .i64 (d : Int)) := cell_below (by go_simp) hb2
       have E0 : w2.cell? ⟨w1.heap.size, 0, none⟩ = some (.int .i64 x) := cell_below (by go_simp) hb2
       have E1 : w2.cell? ⟨w1.heap.size, 1, none⟩ = some (.int .i64 y) := cell_below (by go_simp) hb2
       have hs2 : w1.heap.size < w2.heap.size := by have := hb2.size; simp at this; omega
       have hs2a : w.heap.size < w2.heap.size := by omega
       have hbw2 : Below w.heap.size w w2 := (hbw1.alloc hbw1.size _).trans (hb2.mono (by simp; omega))
       clear hb2 q35 hbw1)
    | (go_at_call 36; (with_reducible refine (q36 _).mono ?_); rintro e w' ⟨rfl, rfl⟩))
  have hbw2k := Keep.mk hbw2
  clear hbw2
  go_region_held3 (fun w' => w'.cell? ⟨w1.heap.size, 0, none⟩ = some (.int .i64 x) ∧ w'.cell? ⟨w1.heap.size, 1, none⟩ = some (.int .i64 y))
    (first | exact ⟨E0, E1⟩ | go_keep)
    ((go_at_call 37; (with_reducible refine (q37 _).mono ?_); rintro e w3 ⟨rfl, hb3⟩
      have A0 : w3.cell? ⟨w.heap.size, 0, none⟩ = some (.int .i64 (n : Int)) := cell_below (by exact A0) hb3
      have A1 : w3.cell? ⟨w.heap.size, 1, none⟩ = some (.int .i64 (d : Int)) := cell_below (by exact A1) hb3
      have E0 : w3.cell? ⟨w1.heap.size, 0, none⟩ = some (.int .i64 x) := cell_below (by exact E0) hb3
      have E1 : w3.cell? ⟨w1.heap.size, 1, none⟩ = some (.int .i64 y) := cell_below (by exact E1) hb3
      have hbw3 : Keep (Below w.heap.size w w3) := ⟨(below_drewN hbw2k.out 1).trans (hb3.mono (by have := hbw2k.out.size; simpa using this))⟩
      clear hb3 q37))
  all_goals go_wp2_with (first
    | (go_at_call 36; (with_reducible refine (q36 _).mono ?_); rintro e w' ⟨rfl, rfl⟩)
    | (go_at_call 38; (with_reducible refine (q38 _).mono ?_); rintro e w4 ⟨rfl, hb4⟩
       have A0 : w4.cell? ⟨w.heap.size, 0, none⟩ = some (.int .i64 (n : Int)) := cell_below (by go_simp) hb4
       have A1 : w4.cell? ⟨w.heap.size, 1, none⟩ = some (.int .i64 (d : Int)) := cell_below (by go_simp) hb4
       have hbw4 : Below w.heap.size w w4 := hbw3.out.trans (hb4.mono hbw3.out.size)
       clear hb4 q38)
    | (go_at_call 39; (with_reducible refine (q39 _).mono ?_); rintro e w5 ⟨rfl, hb5⟩
       have hbw5 : Below w.heap.size w w5 := hbw4.trans (hb5.mono hbw4.size)
       clear hb5 q39)
    | (go_at_call 19; refine (awake_any _).mono ?_; rintro e w9 ⟨rfl, hb9⟩))
  all_goals go_ret
  all_goals exact ⟨rfl, hbw5.trans (hb9.mono hbw5.size)⟩
set_option maxHeartbeats 2000000 in
set_option maxRecDepth 100000 in
theorem mirrors_ysome {b : Nat} (hb1 : 2 ≤ b) (hb2 : b ≤ 16) {k : Nat} (hk : k ≤ 1000000) {n d : Nat} (hd64 : In64 (d : Int)) (hv : validB (n : Int) (d : Int) = true) (hnd : n < d) {z : Nat} (hR : backR b n d = some z) (w : World) :
    Calls Try.prog 6 #[.int .i64 (b : Int), .int .i64 (k : Int), fracV (n : Int) (d : Int)] w fun e w' => e = .returned (.bool true) ∧ Below w.heap.size w w' := by
  have hb := show baseB (b : Int) = true from decide_eq_true (by omega)
  have q36 := fun w => refBase_any (b : Int) w
  rw [hb] at q36
  obtain ⟨⟨X, Y⟩, hm⟩ : ∃ XY, mir b 20 k 0 1 = XY := ⟨_, rfl⟩
  have q34 := fun w => mirrorFn_any hb1 hb2 hk hm w
  have q37 := fun w => refMirror_any hb1 hb2 hk hm w
  obtain ⟨x, hx⟩ : ∃ x, redN (X : Int) (Y : Int) = x := ⟨_, rfl⟩
  obtain ⟨y, hy⟩ : ∃ y, redD (X : Int) (Y : Int) = y := ⟨_, rfl⟩
  rw [hx, hy] at q34 q37
  clear hx hy hm
  have e1 := eqT x y
  have hd2 := hd64.2
  have q35 := fun w => back_any hb1 hb2 hd64 hv hnd w
  have q39 := fun w => refBack_any hb1 hb2 hd64 hnd w
  have q38 := fun w => valid_any (n : Int) (d : Int) (by omega) (by omega) (by omega) (by omega) w
  rw [hv] at q38
  rw [hR] at q35
  rw [backV2_some hR] at q39
  unfold backV at q35
  have ez : ((z : Int) == (z : Int)) = true := by simp
  clear hR hv hd64 hd2 hb
  obtain ⟨B, hB⟩ : ∃ B : Int, Keep ((b : Int) = B) := ⟨_, ⟨rfl⟩⟩
  rw [hB.out] at q34 q35 q36 q37 q39 ⊢
  clear hb1 hb2
  have e0 := eqT 0 0
  unfold fracV at *
  go_enter Try.func6, Try.ntmps6
  go_wp2_with (first
    | (go_at_call 34; (with_reducible refine (q34 _).mono ?_); rintro e w1 ⟨rfl, hb1⟩
       have A0 : w1.cell? ⟨w.heap.size, 0, none⟩ = some (.int .i64 (n : Int)) := cell_below (by go_simp) hb1
       have A1 : w1.cell? ⟨w.heap.size, 1, none⟩ = some (.int .i64 (d : Int)) := cell_below (by go_simp) hb1
       have hs1 : w.heap.size < w1.heap.size := by have := hb1.size; simp at this; omega
       have hbw1 : Below w.heap.size w w1 := ((Below.refl _ w).alloc (Nat.le_refl _) _).trans (hb1.mono (by simp))
       clear hb1 q34)
    | (go_at_call 35; (with_reducible refine (q35 _).mono ?_); rintro e w2 ⟨rfl, hb2⟩
       have A0 : w2.cell? ⟨w.heap.size, 0, none⟩ = some (.int .i64 (n : Int)) := cell_below (by go_simp) hb2
       have A1 : w2.cell? ⟨w.heap.size, 1, none⟩ = some (.int .i64 (d : Int)) := cell_below (by go_simp) hb2
       have E0 : w2.cell? ⟨w1.heap.size, 0, none⟩ = some (.int .i64 x) := cell_below (by go_simp) hb2
       have E1 : w2.cell? ⟨w1.heap.size, 1, none⟩ = some (.int .i64 y) := cell_below (by go_simp) hb2
       have hs2 : w1.heap.size < w2.heap.size := by have := hb2.size; simp at this; omega
       have hs2a : w.heap.size < w2.heap.size := by omega
       have hbw2 : Below w.heap.size w w2 := (hbw1.alloc hbw1.size _).trans (hb2.mono (by simp; omega))
       clear hb2 q35 hbw1)
    | (go_at_call 36; (with_reducible refine (q36 _).mono ?_); rintro e w' ⟨rfl, rfl⟩))
  have hbw2k := Keep.mk hbw2
  clear hbw2
  go_region_held3 (fun w' => w'.cell? ⟨w1.heap.size, 0, none⟩ = some (.int .i64 x) ∧ w'.cell? ⟨w1.heap.size, 1, none⟩ = some (.int .i64 y))
    (first | exact ⟨E0, E1⟩ | go_keep)
    ((go_at_call 37; (with_reducible refine (q37 _).mono ?_); rintro e w3 ⟨rfl, hb3⟩
      have A0 : w3.cell? ⟨w.heap.size, 0, none⟩ = some (.int .i64 (n : Int)) := cell_below (by exact A0) hb3
      have A1 : w3.cell? ⟨w.heap.size, 1, none⟩ = some (.int .i64 (d : Int)) := cell_below (by exact A1) hb3
      have E0 : w3.cell? ⟨w1.heap.size, 0, none⟩ = some (.int .i64 x) := cell_below (by exact E0) hb3
      have E1 : w3.cell? ⟨w1.heap.size, 1, none⟩ = some (.int .i64 y) := cell_below (by exact E1) hb3
      have hbw3 : Keep (Below w.heap.size w w3) := ⟨(below_drewN hbw2k.out 1).trans (hb3.mono (by have := hbw2k.out.size; simpa using this))⟩
      clear hb3 q37))
  all_goals go_wp2_with (first
    | (go_at_call 36; (with_reducible refine (q36 _).mono ?_); rintro e w' ⟨rfl, rfl⟩)
    | (go_at_call 38; (with_reducible refine (q38 _).mono ?_); rintro e w4 ⟨rfl, hb4⟩
       have A0 : w4.cell? ⟨w.heap.size, 0, none⟩ = some (.int .i64 (n : Int)) := cell_below (by go_simp) hb4
       have A1 : w4.cell? ⟨w.heap.size, 1, none⟩ = some (.int .i64 (d : Int)) := cell_below (by go_simp) hb4
       have hbw4 : Below w.heap.size w w4 := hbw3.out.trans (hb4.mono hbw3.out.size)
       clear hb4 q38)
    | (go_at_call 39; (with_reducible refine (q39 _).mono ?_); rintro e w5 ⟨rfl, hb5⟩
       have hbw5 : Below w.heap.size w w5 := hbw4.trans (hb5.mono hbw4.size)
       clear hb5 q39)
    | (go_at_call 19; refine (awake_any _).mono ?_; rintro e w9 ⟨rfl, hb9⟩))
  all_goals go_ret
  all_goals exact ⟨rfl, hbw5.trans (hb9.mono hbw5.size)⟩
set_option maxHeartbeats 2000000 in
set_option maxRecDepth 100000 in
theorem mirrors_ninv {b : Nat} (hb1 : 2 ≤ b) (hb2 : b ≤ 16) {k : Int} (hk : k < 0 ∨ 1000000 < k) {n d : Int} (hn : In64 n) (hd : In64 d) (hv : validB n d = false) (w : World) :
    Calls Try.prog 6 #[.int .i64 (b : Int), .int .i64 k, fracV n d] w fun e w' => e = .returned (.bool true) ∧ Below w.heap.size w w' := by
  have hb := show baseB (b : Int) = true from decide_eq_true (by omega)
  have q36 := fun w => refBase_any (b : Int) w
  rw [hb] at q36
  have q34 := fun w => mirrorFn_no (b := (b : Int)) (k := k) (by unfold mirOK; rw [hb, Bool.true_and, decide_eq_false_iff_not]; omega) w
  have q35 := fun w => back_no (b := (b : Int)) hn hd (by unfold backArg; rw [hb, hv]; rfl) w
  have q38 := fun w => valid_any n d hn.1 hn.2 hd.1 hd.2 w
  rw [hv] at q38
  clear hv hb hn hd
  obtain ⟨B, hB⟩ : ∃ B : Int, Keep ((b : Int) = B) := ⟨_, ⟨rfl⟩⟩
  rw [hB.out] at q34 q35 q36 ⊢
  clear hb1 hb2
  have e0 := eqT 0 0
  unfold fracV at *
  go_enter Try.func6, Try.ntmps6
  rcases hk with hk | hk
  all_goals go_wp2_with (first
    | (go_at_call 34; (with_reducible refine (q34 _).mono ?_); rintro e w1 ⟨rfl, hb1⟩
       have A0 : w1.cell? ⟨w.heap.size, 0, none⟩ = some (.int .i64 n) := cell_below (by go_simp) hb1
       have A1 : w1.cell? ⟨w.heap.size, 1, none⟩ = some (.int .i64 d) := cell_below (by go_simp) hb1
       have hs1 : w.heap.size < w1.heap.size := by have := hb1.size; simp at this; omega
       have hbw1 : Below w.heap.size w w1 := ((Below.refl _ w).alloc (Nat.le_refl _) _).trans (hb1.mono (by simp))
       clear hb1 q34)
    | (go_at_call 35; (with_reducible refine (q35 _).mono ?_); rintro e w2 ⟨rfl, hb2⟩
       have A0 : w2.cell? ⟨w.heap.size, 0, none⟩ = some (.int .i64 n) := cell_below (by go_simp) hb2
       have A1 : w2.cell? ⟨w.heap.size, 1, none⟩ = some (.int .i64 d) := cell_below (by go_simp) hb2
       have E0 : w2.cell? ⟨w1.heap.size, 0, none⟩ = some (.int .i64 0) := cell_below (by go_simp) hb2
       have E1 : w2.cell? ⟨w1.heap.size, 1, none⟩ = some (.int .i64 0) := cell_below (by go_simp) hb2
       have hs2 : w1.heap.size < w2.heap.size := by have := hb2.size; simp at this; omega
       have hs2a : w.heap.size < w2.heap.size := by omega
       have hbw2 : Below w.heap.size w w2 := (hbw1.alloc hbw1.size _).trans (hb2.mono (by simp; omega))
       clear hb2 q35 hbw1)
    | (go_at_call 36; (with_reducible refine (q36 _).mono ?_); rintro e w' ⟨rfl, rfl⟩)
    | (go_at_call 38; (with_reducible refine (q38 _).mono ?_); rintro e w4 ⟨rfl, hb4⟩
       have A0 : w4.cell? ⟨w.heap.size, 0, none⟩ = some (.int .i64 n) := cell_below (by go_simp) hb4
       have A1 : w4.cell? ⟨w.heap.size, 1, none⟩ = some (.int .i64 d) := cell_below (by go_simp) hb4
       have hbw4 : Below w.heap.size w w4 := hbw2.trans (hb4.mono hbw2.size)
       clear hb4 q38)
    | (go_at_call 19; refine (awake_any _).mono ?_; rintro e w9 ⟨rfl, hb9⟩))
  all_goals go_ret
  all_goals exact ⟨rfl, hbw4.trans (hb9.mono hbw4.size)⟩
set_option maxHeartbeats 2000000 in
set_option maxRecDepth 100000 in
theorem mirrors_nrng {b : Nat} (hb1 : 2 ≤ b) (hb2 : b ≤ 16) {k : Int} (hk : k < 0 ∨ 1000000 < k) {n d : Int} (hn : In64 n) (hd : In64 d) (hv : validB n d = true) (hr : n < 0 ∨ d ≤ n) (w : World) :
    Calls Try.prog 6 #[.int .i64 (b : Int), .int .i64 k, fracV n d] w fun e w' => e = .returned (.bool true) ∧ Below w.heap.size w w' := by
  have hb := show baseB (b : Int) = true from decide_eq_true (by omega)
  have q36 := fun w => refBase_any (b : Int) w
  rw [hb] at q36
  have q34 := fun w => mirrorFn_no (b := (b : Int)) (k := k) (by unfold mirOK; rw [hb, Bool.true_and, decide_eq_false_iff_not]; omega) w
  have q35 := fun w => back_no (b := (b : Int)) hn hd (by unfold backArg; rw [hb, hv]; simp; omega) w
  have q38 := fun w => valid_any n d hn.1 hn.2 hd.1 hd.2 w
  rw [hv] at q38
  clear hv hb hn hd
  obtain ⟨B, hB⟩ : ∃ B : Int, Keep ((b : Int) = B) := ⟨_, ⟨rfl⟩⟩
  rw [hB.out] at q34 q35 q36 ⊢
  clear hb1 hb2
  have e0 := eqT 0 0
  unfold fracV at *
  go_enter Try.func6, Try.ntmps6
  rcases hk with hk | hk
  all_goals rcases hr with hr | hr
  all_goals go_wp2_with (first
    | (go_at_call 34; (with_reducible refine (q34 _).mono ?_); rintro e w1 ⟨rfl, hb1⟩
       have A0 : w1.cell? ⟨w.heap.size, 0, none⟩ = some (.int .i64 n) := cell_below (by go_simp) hb1
       have A1 : w1.cell? ⟨w.heap.size, 1, none⟩ = some (.int .i64 d) := cell_below (by go_simp) hb1
       have hs1 : w.heap.size < w1.heap.size := by have := hb1.size; simp at this; omega
       have hbw1 : Below w.heap.size w w1 := ((Below.refl _ w).alloc (Nat.le_refl _) _).trans (hb1.mono (by simp))
       clear hb1 q34)
    | (go_at_call 35; (with_reducible refine (q35 _).mono ?_); rintro e w2 ⟨rfl, hb2⟩
       have A0 : w2.cell? ⟨w.heap.size, 0, none⟩ = some (.int .i64 n) := cell_below (by go_simp) hb2
       have A1 : w2.cell? ⟨w.heap.size, 1, none⟩ = some (.int .i64 d) := cell_below (by go_simp) hb2
       have E0 : w2.cell? ⟨w1.heap.size, 0, none⟩ = some (.int .i64 0) := cell_below (by go_simp) hb2
       have E1 : w2.cell? ⟨w1.heap.size, 1, none⟩ = some (.int .i64 0) := cell_below (by go_simp) hb2
       have hs2 : w1.heap.size < w2.heap.size := by have := hb2.size; simp at this; omega
       have hs2a : w.heap.size < w2.heap.size := by omega
       have hbw2 : Below w.heap.size w w2 := (hbw1.alloc hbw1.size _).trans (hb2.mono (by simp; omega))
       clear hb2 q35 hbw1)
    | (go_at_call 36; (with_reducible refine (q36 _).mono ?_); rintro e w' ⟨rfl, rfl⟩)
    | (go_at_call 38; (with_reducible refine (q38 _).mono ?_); rintro e w4 ⟨rfl, hb4⟩
       have A0 : w4.cell? ⟨w.heap.size, 0, none⟩ = some (.int .i64 n) := cell_below (by go_simp) hb4
       have A1 : w4.cell? ⟨w.heap.size, 1, none⟩ = some (.int .i64 d) := cell_below (by go_simp) hb4
       have hbw4 : Below w.heap.size w w4 := hbw2.trans (hb4.mono hbw2.size)
       clear hb4 q38)
    | (go_at_call 19; refine (awake_any _).mono ?_; rintro e w9 ⟨rfl, hb9⟩))
  all_goals go_ret
  all_goals exact ⟨rfl, hbw4.trans (hb9.mono hbw4.size)⟩
set_option maxHeartbeats 2000000 in
set_option maxRecDepth 100000 in
theorem mirrors_nnone {b : Nat} (hb1 : 2 ≤ b) (hb2 : b ≤ 16) {k : Int} (hk : k < 0 ∨ 1000000 < k) {n d : Nat} (hd64 : In64 (d : Int)) (hv : validB (n : Int) (d : Int) = true) (hnd : n < d) (hR : backR b n d = none) (w : World) :
    Calls Try.prog 6 #[.int .i64 (b : Int), .int .i64 k, fracV (n : Int) (d : Int)] w fun e w' => e = .returned (.bool true) ∧ Below w.heap.size w w' := by
  have hb := show baseB (b : Int) = true from decide_eq_true (by omega)
  have q36 := fun w => refBase_any (b : Int) w
  rw [hb] at q36
  have q34 := fun w => mirrorFn_no (b := (b : Int)) (k := k) (by unfold mirOK; rw [hb, Bool.true_and, decide_eq_false_iff_not]; omega) w
  have hd2 := hd64.2
  have q35 := fun w => back_any hb1 hb2 hd64 hv hnd w
  have q39 := fun w => refBack_any hb1 hb2 hd64 hnd w
  have q38 := fun w => valid_any (n : Int) (d : Int) (by omega) (by omega) (by omega) (by omega) w
  rw [hv] at q38
  rw [hR] at q35
  obtain ⟨z, hz⟩ := backV2_none hR
  rw [hz] at q39
  unfold backV at q35
  clear hz hR hv hd64 hd2 hb
  obtain ⟨B, hB⟩ : ∃ B : Int, Keep ((b : Int) = B) := ⟨_, ⟨rfl⟩⟩
  rw [hB.out] at q34 q35 q36 q39 ⊢
  clear hb1 hb2
  have e0 := eqT 0 0
  unfold fracV at *
  go_enter Try.func6, Try.ntmps6
  rcases hk with hk | hk
  all_goals go_wp2_with (first
    | (go_at_call 34; (with_reducible refine (q34 _).mono ?_); rintro e w1 ⟨rfl, hb1⟩
       have A0 : w1.cell? ⟨w.heap.size, 0, none⟩ = some (.int .i64 (n : Int)) := cell_below (by go_simp) hb1
       have A1 : w1.cell? ⟨w.heap.size, 1, none⟩ = some (.int .i64 (d : Int)) := cell_below (by go_simp) hb1
       have hs1 : w.heap.size < w1.heap.size := by have := hb1.size; simp at this; omega
       have hbw1 : Below w.heap.size w w1 := ((Below.refl _ w).alloc (Nat.le_refl _) _).trans (hb1.mono (by simp))
       clear hb1 q34)
    | (go_at_call 35; (with_reducible refine (q35 _).mono ?_); rintro e w2 ⟨rfl, hb2⟩
       have A0 : w2.cell? ⟨w.heap.size, 0, none⟩ = some (.int .i64 (n : Int)) := cell_below (by go_simp) hb2
       have A1 : w2.cell? ⟨w.heap.size, 1, none⟩ = some (.int .i64 (d : Int)) := cell_below (by go_simp) hb2
       have E0 : w2.cell? ⟨w1.heap.size, 0, none⟩ = some (.int .i64 0) := cell_below (by go_simp) hb2
       have E1 : w2.cell? ⟨w1.heap.size, 1, none⟩ = some (.int .i64 0) := cell_below (by go_simp) hb2
       have hs2 : w1.heap.size < w2.heap.size := by have := hb2.size; simp at this; omega
       have hs2a : w.heap.size < w2.heap.size := by omega
       have hbw2 : Below w.heap.size w w2 := (hbw1.alloc hbw1.size _).trans (hb2.mono (by simp; omega))
       clear hb2 q35 hbw1)
    | (go_at_call 36; (with_reducible refine (q36 _).mono ?_); rintro e w' ⟨rfl, rfl⟩)
    | (go_at_call 38; (with_reducible refine (q38 _).mono ?_); rintro e w4 ⟨rfl, hb4⟩
       have A0 : w4.cell? ⟨w.heap.size, 0, none⟩ = some (.int .i64 (n : Int)) := cell_below (by go_simp) hb4
       have A1 : w4.cell? ⟨w.heap.size, 1, none⟩ = some (.int .i64 (d : Int)) := cell_below (by go_simp) hb4
       have hbw4 : Below w.heap.size w w4 := hbw2.trans (hb4.mono hbw2.size)
       clear hb4 q38)
    | (go_at_call 39; (with_reducible refine (q39 _).mono ?_); rintro e w5 ⟨rfl, hb5⟩
       have hbw5 : Below w.heap.size w w5 := hbw4.trans (hb5.mono hbw4.size)
       clear hb5 q39)
    | (go_at_call 19; refine (awake_any _).mono ?_; rintro e w9 ⟨rfl, hb9⟩))
  all_goals go_ret
  all_goals exact ⟨rfl, hbw5.trans (hb9.mono hbw5.size)⟩
set_option maxHeartbeats 2000000 in
set_option maxRecDepth 100000 in
theorem mirrors_nsome {b : Nat} (hb1 : 2 ≤ b) (hb2 : b ≤ 16) {k : Int} (hk : k < 0 ∨ 1000000 < k) {n d : Nat} (hd64 : In64 (d : Int)) (hv : validB (n : Int) (d : Int) = true) (hnd : n < d) {z : Nat} (hR : backR b n d = some z) (w : World) :
    Calls Try.prog 6 #[.int .i64 (b : Int), .int .i64 k, fracV (n : Int) (d : Int)] w fun e w' => e = .returned (.bool true) ∧ Below w.heap.size w w' := by
  have hb := show baseB (b : Int) = true from decide_eq_true (by omega)
  have q36 := fun w => refBase_any (b : Int) w
  rw [hb] at q36
  have q34 := fun w => mirrorFn_no (b := (b : Int)) (k := k) (by unfold mirOK; rw [hb, Bool.true_and, decide_eq_false_iff_not]; omega) w
  have hd2 := hd64.2
  have q35 := fun w => back_any hb1 hb2 hd64 hv hnd w
  have q39 := fun w => refBack_any hb1 hb2 hd64 hnd w
  have q38 := fun w => valid_any (n : Int) (d : Int) (by omega) (by omega) (by omega) (by omega) w
  rw [hv] at q38
  rw [hR] at q35
  rw [backV2_some hR] at q39
  unfold backV at q35
  have ez : ((z : Int) == (z : Int)) = true := by simp
  clear hR hv hd64 hd2 hb
  obtain ⟨B, hB⟩ : ∃ B : Int, Keep ((b : Int) = B) := ⟨_, ⟨rfl⟩⟩
  rw [hB.out] at q34 q35 q36 q39 ⊢
  clear hb1 hb2
  have e0 := eqT 0 0
  unfold fracV at *
  go_enter Try.func6, Try.ntmps6
  rcases hk with hk | hk
  all_goals go_wp2_with (first
    | (go_at_call 34; (with_reducible refine (q34 _).mono ?_); rintro e w1 ⟨rfl, hb1⟩
       have A0 : w1.cell? ⟨w.heap.size, 0, none⟩ = some (.int .i64 (n : Int)) := cell_below (by go_simp) hb1
       have A1 : w1.cell? ⟨w.heap.size, 1, none⟩ = some (.int .i64 (d : Int)) := cell_below (by go_simp) hb1
       have hs1 : w.heap.size < w1.heap.size := by have := hb1.size; simp at this; omega
       have hbw1 : Below w.heap.size w w1 := ((Below.refl _ w).alloc (Nat.le_refl _) _).trans (hb1.mono (by simp))
       clear hb1 q34)
    | (go_at_call 35; (with_reducible refine (q35 _).mono ?_); rintro e w2 ⟨rfl, hb2⟩
       have A0 : w2.cell? ⟨w.heap.size, 0, none⟩ = some (.int .i64 (n : Int)) := cell_below (by go_simp) hb2
       have A1 : w2.cell? ⟨w.heap.size, 1, none⟩ = some (.int .i64 (d : Int)) := cell_below (by go_simp) hb2
       have E0 : w2.cell? ⟨w1.heap.size, 0, none⟩ = some (.int .i64 0) := cell_below (by go_simp) hb2
       have E1 : w2.cell? ⟨w1.heap.size, 1, none⟩ = some (.int .i64 0) := cell_below (by go_simp) hb2
       have hs2 : w1.heap.size < w2.heap.size := by have := hb2.size; simp at this; omega
       have hs2a : w.heap.size < w2.heap.size := by omega
       have hbw2 : Below w.heap.size w w2 := (hbw1.alloc hbw1.size _).trans (hb2.mono (by simp; omega))
       clear hb2 q35 hbw1)
    | (go_at_call 36; (with_reducible refine (q36 _).mono ?_); rintro e w' ⟨rfl, rfl⟩)
    | (go_at_call 38; (with_reducible refine (q38 _).mono ?_); rintro e w4 ⟨rfl, hb4⟩
       have A0 : w4.cell? ⟨w.heap.size, 0, none⟩ = some (.int .i64 (n : Int)) := cell_below (by go_simp) hb4
       have A1 : w4.cell? ⟨w.heap.size, 1, none⟩ = some (.int .i64 (d : Int)) := cell_below (by go_simp) hb4
       have hbw4 : Below w.heap.size w w4 := hbw2.trans (hb4.mono hbw2.size)
       clear hb4 q38)
    | (go_at_call 39; (with_reducible refine (q39 _).mono ?_); rintro e w5 ⟨rfl, hb5⟩
       have hbw5 : Below w.heap.size w w5 := hbw4.trans (hb5.mono hbw4.size)
       clear hb5 q39)
    | (go_at_call 19; refine (awake_any _).mono ?_; rintro e w9 ⟨rfl, hb9⟩))
  all_goals go_ret
  all_goals exact ⟨rfl, hbw5.trans (hb9.mono hbw5.size)⟩
end Go.Proofs.Ytifbiamfandjnaa
