/- The contested garment: the program's. -/
import Derived.Test.YtbocmbhinjkjlaaHeirsNo
import Derived.Test.YtbocmbhinjkjlaaRedMath
set_option linter.unusedSimpArgs false
set_option linter.unusedVariables false
namespace Go.Proofs.Ytbocmbhinjkjlaa
open Go Go.Proofs Go.RowKit Go.Seq
def over (E b : Int) : Int := if 0 < E - b then E - b else 0
theorem over_cases (E b : Int) : (0 < E - b ∧ over E b = E - b) ∨ (¬ 0 < E - b ∧ over E b = 0) := by
  unfold over; split
  · rename_i h; exact .inl ⟨h, rfl⟩
  · rename_i h; exact .inr ⟨h, rfl⟩
def conX (E a b : Int) : Int := 2 * over E b + (E - over E b - over E a)
set_option maxHeartbeats 4000000 in
theorem contested_any {E a b u : Int} (hE : -1000000000000 ≤ E ∧ E ≤ 1000000000000) (ha : -1000000000000 ≤ a ∧ a ≤ 1000000000000) (hb : -1000000000000 ≤ b ∧ b ≤ 1000000000000) (hu : 1 ≤ u ∧ u ≤ 1000000000000) (w : World) :
    Calls Try.prog 68 #[.int .i64 E, .int .i64 a, .int .i64 b, .int .i64 u] w fun r w' => r = .returned (.tuple #[fracV (redN (conX E a b) (2 * u)) (redD (conX E a b) (2 * u)), fracV (redN (conX E b a) (2 * u)) (redD (conX E b a) (2 * u))]) ∧ Below w.heap.size w w' := by
  have hF := over_cases E b
  have hS := over_cases E a
  have hX : conX E a b = 2 * over E b + (E - over E b - over E a) := rfl
  have hY : conX E b a = 2 * over E a + (E - over E b - over E a) := by unfold conX; omega
  rw [hX, hY]
  clear hX hY
  generalize over E b = F at *
  generalize over E a = S at *
  obtain ⟨P, hP⟩ : ∃ P, Keep (E - b = P) := ⟨_, ⟨rfl⟩⟩
  obtain ⟨Q, hQ⟩ : ∃ Q, Keep (E - a = Q) := ⟨_, ⟨rfl⟩⟩
  have eP : IntKind.i64.wrap (E - b) = P := by rw [← hP.out]; exact IntWalk.i64_in _ (by omega)
  have eQ : IntKind.i64.wrap (E - a) = Q := by rw [← hQ.out]; exact IntWalk.i64_in _ (by omega)
  have bF : -2000000000000 ≤ F ∧ F ≤ 2000000000000 := by rcases hF with ⟨_, h⟩ | ⟨_, h⟩ <;> omega
  have bS : -2000000000000 ≤ S ∧ S ≤ 2000000000000 := by rcases hS with ⟨_, h⟩ | ⟨_, h⟩ <;> omega
  have e1 : IntKind.i64.wrap (E - F) = E - F := IntWalk.i64_in _ (by omega)
  have e2 : IntKind.i64.wrap (E - F - S) = E - F - S := IntWalk.i64_in _ (by omega)
  have e3 : IntKind.i64.wrap (2 * F) = 2 * F := IntWalk.i64_in _ (by omega)
  have e4 : IntKind.i64.wrap (2 * S) = 2 * S := IntWalk.i64_in _ (by omega)
  have e5 : IntKind.i64.wrap (2 * u) = 2 * u := IntWalk.i64_in _ (by omega)
  obtain ⟨X, hX⟩ : ∃ X, Keep (2 * F + (E - F - S) = X) := ⟨_, ⟨rfl⟩⟩
  obtain ⟨Y, hY⟩ : ∃ Y, Keep (2 * S + (E - F - S) = Y) := ⟨_, ⟨rfl⟩⟩
  have e6 : IntKind.i64.wrap (2 * F + (E - F - S)) = X := by rw [← hX.out]; exact IntWalk.i64_in _ (by omega)
  have e7 : IntKind.i64.wrap (2 * S + (E - F - S)) = Y := by rw [← hY.out]; exact IntWalk.i64_in _ (by omega)
  have qX := fun w => lowest_any X (2 * u) (by have := hX.out; omega) (by have := hX.out; omega) (by omega) (by omega) w
  have qY := fun w => lowest_any Y (2 * u) (by have := hY.out; omega) (by have := hY.out; omega) (by omega) (by omega) w
  rw [hX.out, hY.out]
  obtain ⟨x0, hx0⟩ : ∃ x, redN X (2 * u) = x := ⟨_, rfl⟩
  obtain ⟨x1, hx1⟩ : ∃ x, redD X (2 * u) = x := ⟨_, rfl⟩
  obtain ⟨y0, hy0⟩ : ∃ x, redN Y (2 * u) = x := ⟨_, rfl⟩
  obtain ⟨y1, hy1⟩ : ∃ x, redD Y (2 * u) = x := ⟨_, rfl⟩
  rw [hx0, hx1] at qX
  rw [hy0, hy1] at qY
  rw [hx0, hx1, hy0, hy1]
  clear hx0 hx1 hy0 hy1 hX hY bF bS hE ha hb hu
  unfold fracV at *
  have iF : (if 0 < P then P else 0) = F := by rw [← hP.out]; rcases hF with ⟨k, h⟩ | ⟨k, h⟩ <;> rw [h] <;> first | rw [if_pos k] | rw [if_neg k]
  have iS : (if 0 < Q then Q else 0) = S := by rw [← hQ.out]; rcases hS with ⟨k, h⟩ | ⟨k, h⟩ <;> rw [h] <;> first | rw [if_pos k] | rw [if_neg k]
  clear hF hS hP hQ
  go_enter Try.func68, Try.ntmps68
  go_wp2_with (first
    | (go_at_call 96; (with_reducible refine (qX _).mono ?_); rintro e w5 ⟨rfl, hb5⟩
       have o8 := (Own2.at (W := w) (g := w.heap.size) rfl (.int .i64 0) (.int .i64 0) 37).below (W' := w.alloc (.cells #[.int .i64 0, .int .i64 0] 37) |>.alloc (.cells #[.int .i64 0, .int .i64 0] 37)) ((Below.refl _ _).alloc (Nat.le_refl _) _) (by simp)
       have o8 := o8.after hb5
       have o9 := (Own2.at (W := w.alloc (.cells #[.int .i64 0, .int .i64 0] 37)) (g := w.heap.size + 1) (by simp) (.int .i64 0) (.int .i64 0) 37).after hb5
       have hbw5 : Below w.heap.size w w5 := (((Below.refl _ w).alloc (Nat.le_refl _) _).alloc (by simp) _).trans (hb5.mono (by simp; omega))
       clear hb5 qX)
    | (go_at_call 96; (with_reducible refine (qY _).mono ?_); rintro e w6 ⟨rfl, hb6⟩
       have o8 := o8.after hb6
       have o9 := o9.after hb6
       obtain ⟨c80, c81, f80, f81⟩ := o8
       obtain ⟨c90, c91, f90, f91⟩ := o9
       have hbw6 : Below w.heap.size w w6 := hbw5.trans (hb6.mono hbw5.size)
       clear hb6 qY))
  refine bodyPost_ret (v := .tuple #[.agg #[.int .i64 x0, .int .i64 x1], .agg #[.int .i64 y0, .int .i64 y1]]) (by simp [results, Try.results68, go_sem]; go_simp) rfl ?_
  exact ⟨rfl, (((hbw6.setCell (p := ⟨w.heap.size, 0, none⟩) (Nat.le_refl _) _).setCell (p := ⟨w.heap.size, 1, none⟩) (Nat.le_refl _) _).setCell (p := ⟨w.heap.size + 1, 0, none⟩) (by simp) _).setCell (p := ⟨w.heap.size + 1, 1, none⟩) (by simp) _⟩
end Go.Proofs.Ytbocmbhinjkjlaa
