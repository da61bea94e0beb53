import Derived.Test.YtifbiamfandjnaaAwakeRun
import Derived.Test.YtifbiamfandjnaaLineAny
import Derived.Laws.StructEq
set_option linter.unusedSimpArgs false
set_option linter.unusedVariables false
namespace Go.Proofs.Ytifbiamfandjnaa
open Go Go.Proofs Go.RowKit Go.CRun
theorem eq25 (a b c d : Int) (w : World) : (Op.equalIn 10000 25 (.agg #[.int .i64 a, .int .i64 b]) (.agg #[.int .i64 c, .int .i64 d])).run Try.prog w = .ok (a == c && b == d) w := by
  have u3 := Try.underlying3
  have a3 := Try.isAgg3
  have z3 := Try.sizeOf3
  have hS : Try.prog.underlying 25 = some (.struct (Try.prog.fieldsOf 25)) := by kernel_rfl
  rw [show (10000 : Nat) = 9999 + 1 from rfl, run_equalIn_agg w 9999 25 _ _ hS (by kernel_rfl)]
  simp only [Program.fieldsOf, Try.underlying25]
  go_simp
  by_cases h1 : a = c <;> by_cases h2 : b = d <;> simp [h1, h2]
theorem ints_new (w : World) (zs : List Int) (t : TypeId) : IntsAt (w.alloc (.cells (zs.map vz).toArray t)) (.slice (some ⟨w.heap.size, 0, none⟩) zs.length zs.length) zs := by
  refine ⟨_, _, rfl, fun k hk => ⟨w.heap.size, rfl, ?_⟩⟩
  have h : (w.alloc (.cells (zs.map vz).toArray t)).heap[w.heap.size]? = some (.cells (zs.map vz).toArray t (0, 0)) := World.alloc_heap_new w _
  simp only [World.cell?, h]
  simp [vz, hk]
theorem ints_new' {w : World} {G : Nat} (zs : List Int) (t : TypeId) (h : w.heap.size = G) : IntsAt (w.alloc (.cells (zs.map vz).toArray t)) (.slice (some ⟨G, 0, none⟩) zs.length zs.length) zs := by
  subst h; exact ints_new w zs t
theorem ints_part {B : Nat} {w' : World} {used : List Nat} {zs : List Int} {e : TypeId} {sz cap : Nat} {r : List RC} {x : Value} {xs : List Value} (h : PartsOK B w' used (.sl (zs.map vz) e sz zs.length cap :: r) (x :: xs)) :
    IntsO w' x zs ∧ ∃ used', PartsOK B w' used' r xs := by
  obtain ⟨hf, blk, off, extra, rfl, _, _, hok, hr⟩ := h
  refine ⟨⟨_, _, rfl, fun k hk => ⟨blk, off, rfl, ?_⟩⟩, _, hr⟩
  obtain ⟨_, C, lo, hi, hh, _, _, hc⟩ := hok
  obtain ⟨v', hv', hvr⟩ := hc k (vz (zs.getD k 0)) (by simp [List.getD, hk])
  have := VR.int hvr
  simp [World.cell?, hh, hv', this]
theorem mirror26 (w : World) : Calls Try.prog 34 #[.int .i64 2, .int .i64 6] w fun e w' => e = .returned (.tuple #[.agg #[.int .i64 3, .int .i64 8], .int .i64 0]) ∧ Below w.heap.size w w' := by
  refine (sum_of_run prog_ok (x0_ok 0) r34 (by decide) w glob_nil (Nat.zero_le _)).mono ?_
  rintro e w' ⟨vs, rfl, hb, hp⟩
  refine ⟨?_, hb⟩
  match vs, hp with
  | [x, y], hp => obtain ⟨rfl, _, rfl, _, _⟩ := hp; rfl
theorem series238 (w : World) : Calls Try.prog 40 #[.int .i64 2, .int .i64 3, .int .i64 8] w fun e w' => ∃ v, e = .returned (.tuple #[v, .int .i64 0]) ∧ IntsO w' v [0, 4, 2, 6, 1, 5, 3, 7] ∧ Below w.heap.size w w' := by
  refine (sum_of_run prog_ok (x0_ok 0) r40 (by decide) w glob_nil (Nat.zero_le _)).mono ?_
  rintro e w' ⟨vs, rfl, hb, hp⟩
  match vs, hp with
  | x :: xs, hp =>
    obtain ⟨hi, used', hp'⟩ := ints_part (zs := [0, 4, 2, 6, 1, 5, 3, 7]) hp
    match xs, hp' with
    | [y], hp' => obtain ⟨rfl, _, _⟩ := hp'; exact ⟨x, rfl, hi, hb⟩
theorem best2 (w : World) : Calls Try.prog 44 #[.int .i64 2] w fun e w' => ∃ v, e = .returned (.tuple #[.agg #[.int .i64 1, .int .i64 4], v, .int .i64 0]) ∧ IntsO w' v [1, 3] ∧ Below w.heap.size w w' := by
  refine (sum_of_run prog_ok (x0_ok 0) r44 (by decide) w glob_nil (Nat.zero_le _)).mono ?_
  rintro e w' ⟨vs, rfl, hb, hp⟩
  match vs, hp with
  | z :: x :: xs, hp =>
    obtain ⟨rfl, _, hp⟩ := hp
    obtain ⟨hi, used', hp'⟩ := ints_part (zs := [1, 3]) hp
    match xs, hp' with
    | [y], hp' => obtain ⟨rfl, _, _⟩ := hp'; exact ⟨x, rfl, hi, hb⟩
theorem line01 : okLine ((2 : Nat) : Int) [0, 1] = true ∧ redN (lineW 2 [0, 1]).2 ((([0, 1] : List Int).length : Int) * ((2 : Nat) : Int)) = 1 ∧ redD (lineW 2 [0, 1]).2 ((([0, 1] : List Int).length : Int) * ((2 : Nat) : Int)) = 2 ∧ (lineW 2 [0, 1]).1.1 = 0 := by decide +kernel
set_option maxHeartbeats 1000000 in
set_option maxRecDepth 100000 in
theorem awake_any (w : World) : Calls Try.prog 19 #[] w fun e w' => e = .returned (.bool true) ∧ Below w.heap.size w w' := by
  obtain ⟨l1, l2, l3, l4⟩ := line01
  obtain ⟨low, hlow⟩ : ∃ low, (lineW 2 [0, 1]).1.2.1 = low := ⟨_, rfl⟩
  have hln := line_any (N := 2) (w := w.alloc (.cells (([0, 1] : List Int).map vz).toArray 3)) (ints_new w [0, 1] 3) l1
  rw [l2, l3, l4, hlow] at hln
  have e1 : ∀ w, (Op.equalIn 10000 25 (.agg #[.int .i64 1, .int .i64 2]) (.agg #[.int .i64 1, .int .i64 2])).run Try.prog w = .ok true w := fun w => eq25 1 2 1 2 w
  have e2 : ∀ w, (Op.equalIn 10000 25 (.agg #[.int .i64 3, .int .i64 8]) (.agg #[.int .i64 3, .int .i64 8])).run Try.prog w = .ok true w := fun w => eq25 3 8 3 8 w
  have e3 : ∀ w, (Op.equalIn 10000 25 (.agg #[.int .i64 1, .int .i64 4]) (.agg #[.int .i64 1, .int .i64 4])).run Try.prog w = .ok true w := fun w => eq25 1 4 1 4 w
  go_enter Try.func19, Try.ntmps19
  go_wp2_with (first
    | (go_at_call 16; refine Calls.mono hln ?_; rintro e w1 ⟨rfl, hb1⟩; unfold fracV
       have hbw1 : Below w.heap.size w w1 := ((Below.refl _ w).alloc (Nat.le_refl _) _).trans (hb1.mono (by simp))
       clear hb1 hln)
    | (go_at_call 34; refine (mirror26 _).mono ?_; rintro e w2 ⟨rfl, hb2⟩
       have a0 : w2.cell? ⟨w1.heap.size, 0, none⟩ = some (.int .i64 1) := cell_below (by go_simp) hb2
       have a1 : w2.cell? ⟨w1.heap.size, 1, none⟩ = some (.int .i64 2) := cell_below (by go_simp) hb2
       have hs2 : w1.heap.size < w2.heap.size := by have := hb2.size; rw [World.size_alloc] at this; omega
       have hbw2 : Below w.heap.size w w2 := (hbw1.alloc hbw1.size _).trans (hb2.mono (by have := hbw1.size; rw [World.size_alloc]; omega))
       clear hb2 hbw1)
    | (go_at_call 40; refine (series238 _).mono ?_; rintro e w3 ⟨v3, rfl, hi3, hb3⟩
       have a0 : w3.cell? ⟨w1.heap.size, 0, none⟩ = some (.int .i64 1) := cell_below (by go_simp) hb3
       have a1 : w3.cell? ⟨w1.heap.size, 1, none⟩ = some (.int .i64 2) := cell_below (by go_simp) hb3
       have b0 : w3.cell? ⟨w2.heap.size, 0, none⟩ = some (.int .i64 3) := cell_below (by go_simp) hb3
       have b1 : w3.cell? ⟨w2.heap.size, 1, none⟩ = some (.int .i64 8) := cell_below (by go_simp) hb3
       have hs3 : w2.heap.size < w3.heap.size := by have := hb3.size; rw [World.size_alloc] at this; omega
       have hbw3 : Below w.heap.size w w3 := (hbw2.alloc hbw2.size _).trans (hb3.mono (by have := hbw2.size; rw [World.size_alloc]; omega))
       clear hb3 hbw2)
    | (go_at_call 44; refine (best2 _).mono ?_; rintro e w4 ⟨v4, rfl, hi4, hb4⟩
       have a0 : w4.cell? ⟨w1.heap.size, 0, none⟩ = some (.int .i64 1) := cell_below a0 hb4
       have a1 : w4.cell? ⟨w1.heap.size, 1, none⟩ = some (.int .i64 2) := cell_below a1 hb4
       have b0 : w4.cell? ⟨w2.heap.size, 0, none⟩ = some (.int .i64 3) := cell_below b0 hb4
       have b1 : w4.cell? ⟨w2.heap.size, 1, none⟩ = some (.int .i64 8) := cell_below b1 hb4
       have hs4 : w3.heap.size ≤ w4.heap.size := hb4.size
       have hbw4 : Below w.heap.size w w4 := hbw3.trans (hb4.mono hbw3.size)
       have hi3 := intsO_below hi3 hb4
       have hs14 : w1.heap.size < w4.heap.size := by omega
       have hs24 : w2.heap.size < w4.heap.size := by omega
       clear hb4 hbw3))
  have d1 : decide (([0, 4, 2, 6, 1, 5, 3, 7] : List Int) = [0, 4, 2, 6, 1, 5, 3, 7]) = true := by decide
  refine Calls.mono (ints_any (za := [0, 4, 2, 6, 1, 5, 3, 7]) (zb := [0, 4, 2, 6, 1, 5, 3, 7]) (intsO_below hi3 ?_) (IntsAt.off ?_) (by decide)) ?_
  · exact ((Below.refl _ _).alloc (Nat.le_refl _) _).alloc (by simp) _
  · exact ints_new' [0, 4, 2, 6, 1, 5, 3, 7] 3 (by simp)
  rintro e w5 ⟨rfl, n5, rfl⟩
  rw [d1]
  go_wp2_with (fail)
  refine Calls.mono (ints_any (za := [1, 3]) (zb := [1, 3]) (intsO_below hi4 ?_) (IntsAt.off ?_) (by decide)) ?_
  · exact (below_drewN (((Below.refl _ _).alloc (Nat.le_refl _) _).alloc (by simp) _) n5).alloc (by simp; omega) _
  · exact ints_new' [1, 3] 3 (by simp)
  rintro e w6 ⟨rfl, n6, rfl⟩
  rw [show decide (([1, 3] : List Int) = [1, 3]) = true from by decide]
  go_wp2_with (fail)
  go_ret
  refine ⟨rfl, ?_⟩
  have hs := hbw4.size
  exact below_drewN ((below_drewN ((hbw4.alloc hs _).alloc (by simp; omega) _) n5).alloc (by simp; omega) _) n6
end Go.Proofs.Ytifbiamfandjnaa
