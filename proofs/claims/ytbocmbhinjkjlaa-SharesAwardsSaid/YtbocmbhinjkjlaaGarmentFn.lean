/- Garment, in the program. -/
import Derived.Test.YtbocmbhinjkjlaaContest
set_option linter.unusedSimpArgs false
set_option linter.unusedVariables false
namespace Go.Proofs.Ytbocmbhinjkjlaa
open Go Go.Proofs Go.RowKit Go.Seq
theorem intsO_lit2 {W : World} {g : Nat} {a b : Int} {t : TypeId} (h : BlkAt W g #[.int .i64 a, .int .i64 b] t) : IntsO W (.slice (some ⟨g, 0, none⟩) 2 2) [a, b] := by
  refine ⟨_, 2, rfl, fun k hk => ⟨g, 0, rfl, ?_⟩⟩
  rw [h.cell]
  match k, hk with
  | 0, _ => rfl
  | 1, _ => rfl
  | k + 2, hk => simp at hk; omega
theorem heirs2 {a b E : Int} (W : World) (g : Nat) (h : BlkAt W g #[.int .i64 a, .int .i64 b] 3) :
    Calls Try.prog 62 #[.slice (some ⟨g, 0, none⟩) 2 2, .int .i64 E] W fun r w' => ∃ p, r = .returned (.tuple #[.pointer p, .bool (decide (Valid [a, b] ∧ 0 ≤ E ∧ E ≤ [a, b].sum))]) ∧ Below W.heap.size W w' := by
  by_cases hV : Valid [a, b]
  · refine (readHeirs_any (e := E) (intsO_lit2 h) hV).mono ?_
    rintro r w' ⟨rfl, hb, _⟩
    exact ⟨some ⟨W.heap.size, 0, none⟩, by simp [hV], hb⟩
  · refine (readHeirs_no (e := E) (intsO_lit2 h) hV).mono ?_
    rintro r w' ⟨rfl, hb⟩
    exact ⟨none, by simp [hV], hb⟩
theorem claims2 {a b E : Int} (W : World) (g : Nat) (h : BlkAt W g #[.int .i64 a, .int .i64 b] 3) :
    Calls Try.prog 24 #[.slice (some ⟨g, 0, none⟩) 2 2, .int .i64 E] W fun r w' => r = .returned (.bool (decide (Valid [a, b] ∧ 0 ≤ E ∧ E ≤ [a, b].sum))) ∧ w' = W := claims_any (intsO_lit2 h)
def garV (E a b : Int) : Value := fracV (redN (conX E a b) 2) (redD (conX E a b) 2)
theorem valid2_bounds {a b E : Int} (h : decide (Valid [a, b] ∧ 0 ≤ E ∧ E ≤ [a, b].sum) = true) : (0 ≤ a ∧ a ≤ 1000) ∧ (0 ≤ b ∧ b ≤ 1000) ∧ 0 ≤ E ∧ E ≤ a + b := by
  obtain ⟨⟨_, _, h1⟩, h2, h3⟩ := of_decide_eq_true h
  exact ⟨h1 a (by simp), h1 b (by simp), h2, by simpa using h3⟩
set_option maxHeartbeats 2000000 in
theorem garment_no {E a b : Int} (hD : decide (Valid [a, b] ∧ 0 ≤ E ∧ E ≤ [a, b].sum) = false) (w : World) :
    Calls Try.prog 28 #[.int .i64 E, .int .i64 a, .int .i64 b] w fun r w' => r = .returned (.tuple #[fracV 0 0, fracV 0 0, .int .i64 2]) ∧ Below w.heap.size w w' := by
  have q := fun W g h => heirs2 (a := a) (b := b) (E := E) W g h
  rw [hD] at q
  unfold fracV
  go_enter Try.func28, Try.ntmps28
  go_wp2_with (go_at_call 62; (with_reducible refine (q _ _ (BlkAt.at (by simp) _ _)).mono ?_); rintro e w5 ⟨p, rfl, hb5⟩
               have o6 := (Own2.at (W := w) (g := w.heap.size) rfl (.int .i64 0) (.int .i64 0) 37).below (W' := (w.alloc (.cells #[.int .i64 0, .int .i64 0] 37) |>.alloc (.cells #[.int .i64 0, .int .i64 0] 37)).alloc (.cells #[.int .i64 a, .int .i64 b] 3)) (((Below.refl _ _).alloc (Nat.le_refl _) _).alloc (by simp) _) (by simp)
               have o6 := o6.after hb5
               have o7 := (Own2.at (W := w.alloc (.cells #[.int .i64 0, .int .i64 0] 37)) (g := w.heap.size + 1) (by simp) (.int .i64 0) (.int .i64 0) 37).below (W' := (w.alloc (.cells #[.int .i64 0, .int .i64 0] 37) |>.alloc (.cells #[.int .i64 0, .int .i64 0] 37)).alloc (.cells #[.int .i64 a, .int .i64 b] 3)) ((Below.refl _ _).alloc (Nat.le_refl _) _) (by simp)
               have o7 := o7.after hb5
               obtain ⟨c60, c61, f60, f61⟩ := o6
               obtain ⟨c70, c71, f70, f71⟩ := o7
               have hbw5 : Below w.heap.size w w5 := ((((Below.refl _ w).alloc (Nat.le_refl _) _).alloc (by simp) _).alloc (by simp; omega) _).trans (hb5.mono (by simp; omega))
               clear hb5 q)
  refine bodyPost_ret (v := .tuple #[.agg #[.int .i64 0, .int .i64 0], .agg #[.int .i64 0, .int .i64 0], .int .i64 2]) (by simp [results, Try.results28, go_sem]; go_simp) rfl ?_
  exact ⟨rfl, (((hbw5.setCell (p := ⟨w.heap.size, 0, none⟩) (Nat.le_refl _) _).setCell (p := ⟨w.heap.size, 1, none⟩) (Nat.le_refl _) _).setCell (p := ⟨w.heap.size + 1, 0, none⟩) (by simp) _).setCell (p := ⟨w.heap.size + 1, 1, none⟩) (by simp) _⟩
set_option maxHeartbeats 4000000 in
theorem garment_yes {E a b : Int} (hD : decide (Valid [a, b] ∧ 0 ≤ E ∧ E ≤ [a, b].sum) = true) (w : World) :
    Calls Try.prog 28 #[.int .i64 E, .int .i64 a, .int .i64 b] w fun r w' => r = .returned (.tuple #[garV E a b, garV E b a, .int .i64 0]) ∧ Below w.heap.size w w' := by
  have q := fun W g h => heirs2 (a := a) (b := b) (E := E) W g h
  rw [hD] at q
  obtain ⟨⟨a1, a2⟩, ⟨b1, b2⟩, e1, e2⟩ := valid2_bounds hD
  have qc := fun w => contested_any (E := E) (a := a) (b := b) (u := 1) (by omega) (by omega) (by omega) (by omega) w
  rw [show (2 : Int) * 1 = 2 by rfl] at qc
  unfold garV fracV at *
  generalize redN (conX E a b) 2 = x0 at *
  generalize redD (conX E a b) 2 = x1 at *
  generalize redN (conX E b a) 2 = y0 at *
  generalize redD (conX E b a) 2 = y1 at *
  clear a1 a2 b1 b2 e1 e2 hD
  go_enter Try.func28, Try.ntmps28
  go_wp2_with (first
    | (go_at_call 62; (with_reducible refine (q _ _ (BlkAt.at (by simp) _ _)).mono ?_); rintro e w5 ⟨p, rfl, hb5⟩
       have o6 := (Own2.at (W := w) (g := w.heap.size) rfl (.int .i64 0) (.int .i64 0) 37).below (W' := (w.alloc (.cells #[.int .i64 0, .int .i64 0] 37) |>.alloc (.cells #[.int .i64 0, .int .i64 0] 37)).alloc (.cells #[.int .i64 a, .int .i64 b] 3)) (((Below.refl _ _).alloc (Nat.le_refl _) _).alloc (by simp) _) (by simp)
       have o6 := o6.after hb5
       have o7 := (Own2.at (W := w.alloc (.cells #[.int .i64 0, .int .i64 0] 37)) (g := w.heap.size + 1) (by simp) (.int .i64 0) (.int .i64 0) 37).below (W' := (w.alloc (.cells #[.int .i64 0, .int .i64 0] 37) |>.alloc (.cells #[.int .i64 0, .int .i64 0] 37)).alloc (.cells #[.int .i64 a, .int .i64 b] 3)) ((Below.refl _ _).alloc (Nat.le_refl _) _) (by simp)
       have o7 := o7.after hb5
       have hbw5 : Below w.heap.size w w5 := ((((Below.refl _ w).alloc (Nat.le_refl _) _).alloc (by simp) _).alloc (by simp; omega) _).trans (hb5.mono (by simp; omega))
       clear hb5 q)
    | (go_at_call 68; (with_reducible refine (qc _).mono ?_); rintro e w6 ⟨rfl, hb6⟩
       have o6 := o6.after hb6
       have o7 := o7.after hb6
       have l6 := o6.lt
       have l7 := o7.lt
       obtain ⟨c60, c61, f60, f61⟩ := o6
       obtain ⟨c70, c71, f70, f71⟩ := o7
       have hbw6 : Below w.heap.size w w6 := hbw5.trans (hb6.mono hbw5.size)
       have hsz6 := hbw6.size
       clear hb6 qc))
  go_region_with (fail)
  all_goals go_wp2
  all_goals refine bodyPost_ret (v := .tuple #[.agg #[.int .i64 x0, .int .i64 x1], .agg #[.int .i64 y0, .int .i64 y1], .int .i64 0]) (by simp [results, Try.results28, go_sem]; go_simp) rfl ?_
  all_goals first
    | exact ⟨rfl, ((((((hbw6.alloc hsz6 _).alloc (by simp; omega) _).drew).setCell (p := ⟨w.heap.size, 0, none⟩) (Nat.le_refl _) _).setCell (p := ⟨w.heap.size, 1, none⟩) (Nat.le_refl _) _).setCell (p := ⟨w.heap.size + 1, 0, none⟩) (by simp) _).setCell (p := ⟨w.heap.size + 1, 1, none⟩) (by simp) _⟩
    | exact ⟨rfl, ((((((hbw6.setCell (p := ⟨w.heap.size, 0, none⟩) (Nat.le_refl _) _).setCell (p := ⟨w.heap.size, 1, none⟩) (Nat.le_refl _) _).setCell (p := ⟨w.heap.size + 1, 0, none⟩) (by simp) _).setCell (p := ⟨w.heap.size + 1, 1, none⟩) (by simp) _).alloc (by simp [World.setCell]; omega) _).alloc (by simp [World.setCell]; omega) _).drew⟩
end Go.Proofs.Ytbocmbhinjkjlaa
