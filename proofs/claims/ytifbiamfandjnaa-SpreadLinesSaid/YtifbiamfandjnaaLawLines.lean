import Derived.Test.YtifbiamfandjnaaDevFn
import Derived.Test.YtifbiamfandjnaaArgInts
import Derived.Test.YtifbiamfandjnaaAwake
import Derived.Test.YtifbiamfandjnaaOpenArgs
import Derived.Deep.RegionHeld3
set_option linter.unusedSimpArgs false
set_option linter.unusedVariables false
namespace Go.Proofs.Ytifbiamfandjnaa
open Go Go.Proofs Go.RowKit
theorem eqT (a b : Int) (w : World) : (Op.equalIn 10000 25 (.agg #[.int .i64 a, .int .i64 b]) (.agg #[.int .i64 a, .int .i64 b])).run Try.prog w = .ok true w := by
  rw [eq25]; simp
set_option maxHeartbeats 2000000 in
set_option maxRecDepth 100000 in
theorem lines_no {N t : Int} {v : Value} {zs : List Int} {w : World} (hq : Calls Try.prog 15 #[v] w fun e w' => ∃ v', e = .returned v' ∧ IntsAt w' v' zs ∧ Below w.heap.size w w') (hl : zs.length ≤ 61) (hN : In64 N) (hno : okLine N zs = false) :
    Calls Try.prog 3 #[.int .i64 N, v, .int .i64 t] w fun e w' => e = .returned (.bool true) ∧ Below w.heap.size w w' := by
  obtain ⟨n, hn⟩ : ∃ n, Keep (zs.length = n) := ⟨_, ⟨rfl⟩⟩
  have q16 := fun (w : World) (v : Value) (h : IntsAt w v zs) => line_no h (by omega) hN.1 hN.2 hno
  have q17 := fun (w : World) (v : Value) (h : IntsAt w v zs) => dev_no (t := t) h (by omega) hN hno
  have q18 := fun (w : World) (v : Value) (h : IntsAt w v zs) => points_any (N := N) h (by omega)
  rw [hno] at q18
  clear hno hN hl
  have e0 := eqT 0 0
  unfold fracV at *
  go_enter Try.func3, Try.ntmps3
  all_goals go_wp2_with (first
    | (go_at_call 15; (with_reducible refine hq.mono ?_); rintro e w1 ⟨v', rfl, hi1, hb1⟩
       have hi1k := hi1
       obtain ⟨A, cap, hv, _⟩ := hi1
       rw [hn.out] at hv
       subst hv
       clear hq)
    | (go_at_call 16; refine (q16 _ _ hi1k).mono ?_; rintro e w2 ⟨rfl, hb2⟩
       have hi2 := ints_below hi1k hb2
       have hbw2 : Below w.heap.size w w2 := hb1.trans (hb2.mono hb1.size)
       clear hb2 q16 hi1k hb1)
    | (go_at_call 17; refine (q17 _ _ (ints_below hi2 ((Below.refl _ _).alloc (Nat.le_refl _) _))).mono ?_; rintro e w3 ⟨rfl, hb3⟩
       have D0 : w3.cell? ⟨w2.heap.size, 0, none⟩ = some (.int .i64 0) := cell_below (by go_simp) hb3
       have D1 : w3.cell? ⟨w2.heap.size, 1, none⟩ = some (.int .i64 0) := cell_below (by go_simp) hb3
       have hi3 := ints_below (ints_below hi2 ((Below.refl _ _).alloc (Nat.le_refl _) _)) hb3
       have hs3 : w2.heap.size < w3.heap.size := by have := hb3.size; simp at this; omega
       have hbw3 : Below w.heap.size w w3 := (hbw2.alloc hbw2.size _).trans (hb3.mono (by have := hbw2.size; simp; omega))
       clear hb3 q17 hi2 hbw2)
    | (go_at_call 18; refine (q18 _ _ (ints_below hi3 ((Below.refl _ _).alloc (Nat.le_refl _) _))).mono ?_; rintro e w' ⟨rfl, rfl⟩)
    | (go_at_call 19; refine (awake_any _).mono ?_; rintro e w9 ⟨rfl, hb9⟩))
  all_goals go_ret
  all_goals exact ⟨rfl, (hbw3.alloc hbw3.size _).trans (hb9.mono (by have := hbw3.size; simp; omega))⟩
set_option maxHeartbeats 2000000 in
set_option maxRecDepth 100000 in
theorem lines_off {N : Nat} {t : Int} {v : Value} {zs : List Int} {w : World} (hq : Calls Try.prog 15 #[v] w fun e w' => ∃ v', e = .returned v' ∧ IntsAt w' v' zs ∧ Below w.heap.size w w') (hl : zs.length ≤ 61) (hok : okLine N zs = true) (ht : In64 t) (hoff : t < 0 ∨ (N : Int) < t) :
    Calls Try.prog 3 #[.int .i64 (N : Int), v, .int .i64 t] w fun e w' => e = .returned (.bool true) ∧ Below w.heap.size w w' := by
  obtain ⟨n, hn⟩ : ∃ n, Keep (zs.length = n) := ⟨_, ⟨rfl⟩⟩
  have hok1 := hok
  unfold okLine at hok1
  rw [Bool.and_eq_true, decide_eq_true_iff] at hok1
  obtain ⟨⟨k1, k2, k3, k4⟩, _⟩ := hok1
  have hN2 : N ≤ 1000 := by omega
  obtain ⟨P, hP⟩ : ∃ P : Int, Keep ((zs.length : Int) * (N : Int) = P) := ⟨_, ⟨rfl⟩⟩
  have hm : N * zs.length ≤ 1000 * 60 := Nat.mul_le_mul hN2 k4
  have hm1 : 1 * 1 ≤ N * zs.length := Nat.mul_le_mul (by omega) k3
  have hPn : P = ((N * zs.length : Nat) : Int) := by rw [← hP.out, Int.mul_comm]; push_cast; rfl
  have hP1 : 1 ≤ P := by omega
  have hP2 : P ≤ 60000 := by omega
  have e1 : IntKind.i64.wrap ((N : Int) * (n : Int)) = P := by rw [← hn.out, Int.mul_comm, hP.out]; exact IntWalk.i64_in _ (by omega)
  have q16 := fun (w : World) (v : Value) (h : IntsAt w v zs) => line_any h hok
  have q20 := fun (w : World) (v : Value) (h : IntsAt w v zs) => refLine_any h hok
  have q18 := fun (w : World) (v : Value) (h : IntsAt w v zs) => points_any (N := (N : Int)) h (by omega)
  rw [hok] at q18
  obtain ⟨x, hx⟩ : ∃ x, Keep (redN (lineW N zs).2 P = x) := ⟨_, ⟨rfl⟩⟩
  obtain ⟨y, hy⟩ : ∃ y, Keep (redD (lineW N zs).2 P = y) := ⟨_, ⟨rfl⟩⟩
  obtain ⟨a, ha⟩ : ∃ a : Int, Keep ((((lineW N zs).1.1 : Nat) : Int) = a) := ⟨_, ⟨rfl⟩⟩
  obtain ⟨l, hlw⟩ : ∃ l, Keep ((lineW N zs).1.2.1 = l) := ⟨_, ⟨rfl⟩⟩
  rw [hP.out, hx.out, hy.out, ha.out, hlw.out] at q16 q20
  have e2 := eqT x y
  have q17 := fun (w : World) (v : Value) (h : IntsAt w v zs) => dev_off h hok ht hoff
  clear ht
  clear hok k1 k2 k3 k4 hm hm1 hPn hP1 hP2 hl
  clear hN2
  have hoff0 : 0 ≤ t → (N : Int) < t := by omega
  have e0 := eqT 0 0
  unfold fracV at *
  go_enter Try.func3, Try.ntmps3
  rcases hoff with hoff | hoff
  case' inr => have hoff1 : ¬ t < 0 := by omega
  all_goals go_wp2_with (first
    | (go_at_call 15; (with_reducible refine hq.mono ?_); rintro e w1 ⟨v', rfl, hi1, hb1⟩
       have hi1k := hi1
       obtain ⟨A, cap, hv, _⟩ := hi1
       rw [hn.out] at hv
       subst hv
       clear hq)
    | (go_at_call 16; refine (q16 _ _ hi1k).mono ?_; rintro e w2 ⟨rfl, hb2⟩
       have hi2 := ints_below hi1k hb2
       have hbw2 : Below w.heap.size w w2 := hb1.trans (hb2.mono hb1.size)
       clear hb2 q16 hi1k hb1)
    | (go_at_call 17; refine (q17 _ _ (ints_below hi2 ((Below.refl _ _).alloc (Nat.le_refl _) _))).mono ?_; rintro e w3 ⟨rfl, hb3⟩
       have D0 : w3.cell? ⟨w2.heap.size, 0, none⟩ = some (.int .i64 x) := cell_below (by go_simp) hb3
       have D1 : w3.cell? ⟨w2.heap.size, 1, none⟩ = some (.int .i64 y) := cell_below (by go_simp) hb3
       have hi3 := ints_below (ints_below hi2 ((Below.refl _ _).alloc (Nat.le_refl _) _)) hb3
       have hs3 : w2.heap.size < w3.heap.size := by have := hb3.size; simp at this; omega
       have hbw3 : Below w.heap.size w w3 := (hbw2.alloc hbw2.size _).trans (hb3.mono (by have := hbw2.size; simp; omega))
       clear hb3 q17 hi2 hbw2)
    | (go_at_call 18; refine (q18 _ _ (ints_below hi3 ((Below.refl _ _).alloc (Nat.le_refl _) _))).mono ?_; rintro e w' ⟨rfl, rfl⟩)
    | (go_at_call 20; refine (q20 _ _ (ints_below hi3 ((Below.refl _ _).alloc (Nat.le_refl _) _))).mono ?_; rintro e w4 ⟨rfl, hb4⟩
       have D0 : w4.cell? ⟨w2.heap.size, 0, none⟩ = some (.int .i64 x) := cell_below (by go_simp) hb4
       have D1 : w4.cell? ⟨w2.heap.size, 1, none⟩ = some (.int .i64 y) := cell_below (by go_simp) hb4
       have F0 : w4.cell? ⟨w3.heap.size, 0, none⟩ = some (.int .i64 0) := cell_below (by go_simp) hb4
       have F1 : w4.cell? ⟨w3.heap.size, 1, none⟩ = some (.int .i64 0) := cell_below (by go_simp) hb4
       have hi4 := ints_below (ints_below hi3 ((Below.refl _ _).alloc (Nat.le_refl _) _)) hb4
       have hs4 : w3.heap.size < w4.heap.size := by have := hb4.size; simp at this; omega
       have hs4a : w2.heap.size < w4.heap.size := by omega
       have hbw4 : Below w.heap.size w w4 := (hbw3.alloc hbw3.size _).trans (hb4.mono (by have := hbw3.size; simp; omega))
       clear hb4 q20 hi3 hbw3)
    | (go_at_call 19; refine (awake_any _).mono ?_; rintro e w9 ⟨rfl, hb9⟩))
  all_goals go_ret
  all_goals exact ⟨rfl, (hbw4.alloc hbw4.size _).trans (hb9.mono (by have := hbw4.size; simp; omega))⟩
set_option maxHeartbeats 2000000 in
set_option maxRecDepth 100000 in
theorem lines_in {N t : Nat} {v : Value} {zs : List Int} {w : World} (hq : Calls Try.prog 15 #[v] w fun e w' => ∃ v', e = .returned v' ∧ IntsAt w' v' zs ∧ Below w.heap.size w w') (hl : zs.length ≤ 61) (hok : okLine N zs = true) (ht : t ≤ N) :
    Calls Try.prog 3 #[.int .i64 (N : Int), v, .int .i64 (t : Int)] w fun e w' => e = .returned (.bool true) ∧ Below w.heap.size w w' := by
  obtain ⟨n, hn⟩ : ∃ n, Keep (zs.length = n) := ⟨_, ⟨rfl⟩⟩
  have hok1 := hok
  unfold okLine at hok1
  rw [Bool.and_eq_true, decide_eq_true_iff] at hok1
  obtain ⟨⟨k1, k2, k3, k4⟩, _⟩ := hok1
  have hN2 : N ≤ 1000 := by omega
  obtain ⟨P, hP⟩ : ∃ P : Int, Keep ((zs.length : Int) * (N : Int) = P) := ⟨_, ⟨rfl⟩⟩
  have hm : N * zs.length ≤ 1000 * 60 := Nat.mul_le_mul hN2 k4
  have hm1 : 1 * 1 ≤ N * zs.length := Nat.mul_le_mul (by omega) k3
  have hPn : P = ((N * zs.length : Nat) : Int) := by rw [← hP.out, Int.mul_comm]; push_cast; rfl
  have hP1 : 1 ≤ P := by omega
  have hP2 : P ≤ 60000 := by omega
  have e1 : IntKind.i64.wrap ((N : Int) * (n : Int)) = P := by rw [← hn.out, Int.mul_comm, hP.out]; exact IntWalk.i64_in _ (by omega)
  have q16 := fun (w : World) (v : Value) (h : IntsAt w v zs) => line_any h hok
  have q20 := fun (w : World) (v : Value) (h : IntsAt w v zs) => refLine_any h hok
  have q18 := fun (w : World) (v : Value) (h : IntsAt w v zs) => points_any (N := (N : Int)) h (by omega)
  rw [hok] at q18
  obtain ⟨x, hx⟩ : ∃ x, Keep (redN (lineW N zs).2 P = x) := ⟨_, ⟨rfl⟩⟩
  obtain ⟨y, hy⟩ : ∃ y, Keep (redD (lineW N zs).2 P = y) := ⟨_, ⟨rfl⟩⟩
  obtain ⟨a, ha⟩ : ∃ a : Int, Keep ((((lineW N zs).1.1 : Nat) : Int) = a) := ⟨_, ⟨rfl⟩⟩
  obtain ⟨l, hlw⟩ : ∃ l, Keep ((lineW N zs).1.2.1 = l) := ⟨_, ⟨rfl⟩⟩
  rw [hP.out, hx.out, hy.out, ha.out, hlw.out] at q16 q20
  have e2 := eqT x y
  have q17 := fun (w : World) (v : Value) (h : IntsAt w v zs) => dev_any h hok ht
  have q21 := fun (w : World) (v : Value) (h : IntsAt w v zs) => refDev_any h hN2 k4 ht
  have hle := dev_le (zs := zs) hN2 k4 k4 ht
  obtain ⟨⟨k, f⟩, hk⟩ : ∃ D, Keep (devOf N zs.length zs t = D) := ⟨_, ⟨rfl⟩⟩
  rw [hk.out] at hle q17 q21
  rw [hP.out] at q17
  simp only at hle q17 q21
  have q22 := fun w => reduced_any (k : Int) P (by omega) (by omega) (by omega) (by omega) w
  obtain ⟨u, hu⟩ : ∃ u, Keep (redN (k : Int) P = u) := ⟨_, ⟨rfl⟩⟩
  obtain ⟨z, hz⟩ : ∃ z, Keep (redD (k : Int) P = z) := ⟨_, ⟨rfl⟩⟩
  rw [hu.out, hz.out] at q17 q22
  have e3 := eqT u z
  clear hle
  clear hok k1 k2 k3 k4 hm hm1 hPn hP1 hP2 hl
  have ht0 : ¬ ((t : Int) < 0) := by omega
  have ht1 : ¬ ((N : Int) < (t : Int)) := by omega
  clear ht hN2
  have e0 := eqT 0 0
  unfold fracV at *
  go_enter Try.func3, Try.ntmps3
  go_wp2_with (first
    | (go_at_call 15; (with_reducible refine hq.mono ?_); rintro e w1 ⟨v', rfl, hi1, hb1⟩
       have hi1k := hi1
       obtain ⟨A, cap, hv, _⟩ := hi1
       rw [hn.out] at hv
       subst hv
       clear hq)
    | (go_at_call 16; refine (q16 _ _ hi1k).mono ?_; rintro e w2 ⟨rfl, hb2⟩
       have hi2 := ints_below hi1k hb2
       have hbw2 : Below w.heap.size w w2 := hb1.trans (hb2.mono hb1.size)
       clear hb2 q16 hi1k hb1)
    | (go_at_call 17; refine (q17 _ _ (ints_below hi2 ((Below.refl _ _).alloc (Nat.le_refl _) _))).mono ?_; rintro e w3 ⟨rfl, hb3⟩
       have D0 : w3.cell? ⟨w2.heap.size, 0, none⟩ = some (.int .i64 x) := cell_below (by go_simp) hb3
       have D1 : w3.cell? ⟨w2.heap.size, 1, none⟩ = some (.int .i64 y) := cell_below (by go_simp) hb3
       have hi3 := ints_below (ints_below hi2 ((Below.refl _ _).alloc (Nat.le_refl _) _)) hb3
       have hs3 : w2.heap.size < w3.heap.size := by have := hb3.size; simp at this; omega
       have hbw3 : Below w.heap.size w w3 := (hbw2.alloc hbw2.size _).trans (hb3.mono (by have := hbw2.size; simp; omega))
       clear hb3 q17 hi2 hbw2)
    | (go_at_call 18; refine (q18 _ _ (ints_below hi3 ((Below.refl _ _).alloc (Nat.le_refl _) _))).mono ?_; rintro e w' ⟨rfl, rfl⟩)
    | (go_at_call 20; refine (q20 _ _ (ints_below hi3 ((Below.refl _ _).alloc (Nat.le_refl _) _))).mono ?_; rintro e w4 ⟨rfl, hb4⟩
       have D0 : w4.cell? ⟨w2.heap.size, 0, none⟩ = some (.int .i64 x) := cell_below (by go_simp) hb4
       have D1 : w4.cell? ⟨w2.heap.size, 1, none⟩ = some (.int .i64 y) := cell_below (by go_simp) hb4
       have F0 : w4.cell? ⟨w3.heap.size, 0, none⟩ = some (.int .i64 u) := cell_below (by go_simp) hb4
       have F1 : w4.cell? ⟨w3.heap.size, 1, none⟩ = some (.int .i64 z) := cell_below (by go_simp) hb4
       have hi4 := ints_below (ints_below hi3 ((Below.refl _ _).alloc (Nat.le_refl _) _)) hb4
       have hs4 : w3.heap.size < w4.heap.size := by have := hb4.size; simp at this; omega
       have hs4a : w2.heap.size < w4.heap.size := by omega
       have hbw4 : Below w.heap.size w w4 := (hbw3.alloc hbw3.size _).trans (hb4.mono (by have := hbw3.size; simp; omega))
       clear hb4 q20 hi3 hbw3)
    | (go_at_call 21; refine (q21 _ _ (ints_below hi4 ((Below.refl _ _).alloc (Nat.le_refl _) _))).mono ?_; rintro e w' ⟨rfl, rfl⟩))
  have F0' : (w4.alloc (.cells #[.int .i64 x, .int .i64 y] 25)).cell? ⟨w3.heap.size, 0, none⟩ = some (.int .i64 u) := by go_simp
  have F1' : (w4.alloc (.cells #[.int .i64 x, .int .i64 y] 25)).cell? ⟨w3.heap.size, 1, none⟩ = some (.int .i64 z) := by go_simp
  have hbw5 : Keep (Below w.heap.size w (w4.alloc (.cells #[.int .i64 x, .int .i64 y] 25))) := ⟨hbw4.alloc hbw4.size _⟩
  clear hbw4 F0 F1 D0 D1 hi4
  obtain ⟨W5, hW5⟩ : ∃ W5, w4.alloc (.cells #[.int .i64 x, .int .i64 y] 25) = W5 := ⟨_, rfl⟩
  rw [hW5] at F0' F1' hbw5 ⊢
  clear hW5
  go_region_held3 (fun w' => w'.cell? ⟨w3.heap.size, 0, none⟩ = some (.int .i64 u) ∧ w'.cell? ⟨w3.heap.size, 1, none⟩ = some (.int .i64 z))
    (first | exact ⟨F0', F1'⟩ | exact ⟨F0, F1⟩ | exact ⟨G0, G1⟩ | go_keep)
    ((first
     | (go_at_call 22; (with_reducible refine (q22 _).mono ?_); rintro e w6 ⟨rfl, hb6⟩
        have F0 : w6.cell? ⟨w3.heap.size, 0, none⟩ = some (.int .i64 u) := cell_below (by exact F0') hb6
        have F1 : w6.cell? ⟨w3.heap.size, 1, none⟩ = some (.int .i64 z) := cell_below (by exact F1') hb6
        have hbw6 : Keep (Below w.heap.size w w6) := ⟨(below_drewN hbw5.out 1).trans (hb6.mono (by have := hbw5.out.size; simpa using this))⟩
        clear hb6)
     | (go_at_call 19; refine (awake_any _).mono ?_; rintro e w9 ⟨rfl, hb9⟩
        have G0 : w9.cell? ⟨w3.heap.size, 0, none⟩ = some (.int .i64 u) := cell_below (by exact F0) hb9
        have G1 : w9.cell? ⟨w3.heap.size, 1, none⟩ = some (.int .i64 z) := cell_below (by exact F1) hb9
        have hbw9 : Keep (Below w.heap.size w w9) := ⟨hbw6.out.trans (hb9.mono hbw6.out.size)⟩
        clear hb9)))
  all_goals go_wp2
  all_goals go_ret
  all_goals exact ⟨rfl, hbw9.out⟩
theorem lines_any {N t : Int} {v : Value} {zs : List Int} {w : World} (hv : ArgInts w v zs) (hN : In64 N) (ht : In64 t) :
    Calls Try.prog 3 #[.int .i64 N, v, .int .i64 t] w fun e w' => e = .returned (.bool true) ∧ Below w.heap.size w w' := by
  have hq : Calls Try.prog 15 #[v] w fun e w' => ∃ v', e = .returned v' ∧ IntsAt w' v' (zs.take 61) ∧ Below w.heap.size w w' :=
    (list_any hv).mono fun e w' ⟨v', he, ho, hb⟩ => ⟨v', he, own_cellz ho, hb⟩
  have hl : (zs.take 61).length ≤ 61 := by rw [List.length_take]; omega
  rcases hok : okLine N (zs.take 61) with _ | _
  · exact lines_no hq hl hN hok
  · have hN1 : 1 ≤ N := by
      have hok1 := hok
      unfold okLine at hok1
      rw [Bool.and_eq_true, decide_eq_true_iff] at hok1
      exact hok1.1.1
    obtain ⟨M, rfl⟩ : ∃ M : Nat, N = (M : Int) := ⟨N.toNat, by omega⟩
    by_cases ho : t < 0 ∨ (M : Int) < t
    · exact lines_off hq hl hok ht ho
    · obtain ⟨s, rfl⟩ : ∃ s : Nat, t = (s : Int) := ⟨t.toNat, by omega⟩
      exact lines_in hq hl hok (by omega)
end Go.Proofs.Ytifbiamfandjnaa
