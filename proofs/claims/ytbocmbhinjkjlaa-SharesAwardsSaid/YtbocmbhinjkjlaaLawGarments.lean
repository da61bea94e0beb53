/- The law SharesGarments: its walk. -/
import Derived.Test.YtbocmbhinjkjlaaRefGar
import Derived.Test.YtbocmbhinjkjlaaGarmentFn
import Derived.Laws.StructEq
set_option linter.unusedSimpArgs false
set_option linter.unusedVariables false
namespace Go.Proofs.Ytbocmbhinjkjlaa
open Go Go.Proofs Go.RowKit Go.Seq
theorem eq37 (a b c d : Int) (w : World) : (Op.equalIn 10000 37 (.agg #[.int .i64 a, .int .i64 b]) (.agg #[.int .i64 c, .int .i64 d])).run Try.prog w = .ok (a == c && b == d) w := by
  have u3 := Try.underlying3
  have a3 := Try.isAgg3
  have z3 := Try.sizeOf3
  have hS : Try.prog.underlying 37 = some (.struct (Try.prog.fieldsOf 37)) := by kernel_rfl
  rw [show (10000 : Nat) = 9999 + 1 from rfl, run_equalIn_agg w 9999 37 _ _ hS (by kernel_rfl)]
  simp only [Program.fieldsOf, Try.underlying37]
  go_simp
  by_cases h1 : a = c <;> by_cases h2 : b = d <;> simp [h1, h2]
theorem eqS (a b : Int) (w : World) : (Op.equalIn 10000 37 (.agg #[.int .i64 a, .int .i64 b]) (.agg #[.int .i64 a, .int .i64 b])).run Try.prog w = .ok true w := by rw [eq37]; simp
set_option maxHeartbeats 4000000 in
set_option maxRecDepth 100000 in
theorem garments_any (E a b : Int) (w : World) : Calls Try.prog 4 #[.int .i64 E, .int .i64 a, .int .i64 b] w fun e w' => e = .returned (.bool true) ∧ Below w.heap.size w w' := by
  have q24 := fun W g h => claims2 (a := a) (b := b) (E := E) W g h
  cases hD : decide (Valid [a, b] ∧ 0 ≤ E ∧ E ≤ [a, b].sum) with
  | false =>
    rw [hD] at q24
    have q28 := fun w => garment_no hD w
    have e0 := eqS 0 0
    unfold fracV at q28
    clear hD
    go_enter Try.func4, Try.ntmps4
    go_wp2_with (first
      | (go_at_call 28; (with_reducible refine (q28 _).mono ?_); rintro e w1 ⟨rfl, hb1⟩
         have o7 := (Own2.new w1 (.int .i64 0) (.int .i64 0) 37).after (W' := w1.alloc (.cells #[.int .i64 0, .int .i64 0] 37) |>.alloc (.cells #[.int .i64 0, .int .i64 0] 37)) ((Below.refl _ _).alloc (Nat.le_refl _) _)
         have o7 := o7.after (W' := (w1.alloc (.cells #[.int .i64 0, .int .i64 0] 37) |>.alloc (.cells #[.int .i64 0, .int .i64 0] 37)).alloc (.cells #[.int .i64 a, .int .i64 b] 3)) ((Below.refl _ _).alloc (Nat.le_refl _) _)
         have o8 := (Own2.at (W := w1.alloc (.cells #[.int .i64 0, .int .i64 0] 37)) (g := w1.heap.size + 1) (by simp) (.int .i64 0) (.int .i64 0) 37).after (W' := (w1.alloc (.cells #[.int .i64 0, .int .i64 0] 37) |>.alloc (.cells #[.int .i64 0, .int .i64 0] 37)).alloc (.cells #[.int .i64 a, .int .i64 b] 3)) ((Below.refl _ _).alloc (Nat.le_refl _) _)
         have hbw : Below w.heap.size w ((w1.alloc (.cells #[.int .i64 0, .int .i64 0] 37) |>.alloc (.cells #[.int .i64 0, .int .i64 0] 37)).alloc (.cells #[.int .i64 a, .int .i64 b] 3)) := ((hb1.alloc hb1.size _).alloc (by have := hb1.size; simp; omega) _).alloc (by have := hb1.size; simp; omega) _
         obtain ⟨c70, c71, f70, f71⟩ := o7
         obtain ⟨c80, c81, f80, f81⟩ := o8
         clear hb1 q28)
      | (go_at_call 24; (with_reducible refine (q24 _ _ (BlkAt.at (by simp) _ _)).mono ?_); rintro e w5 ⟨rfl, rfl⟩)
      | (go_at_call 25; refine (awake_any _).mono ?_; rintro e w9 ⟨rfl, hb9⟩))
    go_ret
    exact ⟨rfl, hbw.trans (hb9.mono hbw.size)⟩
  | true =>
    rw [hD] at q24
    have q28 := fun w => garment_yes hD w
    obtain ⟨⟨a1, a2⟩, ⟨b1, b2⟩, e1, e2⟩ := valid2_bounds hD
    have hE1 : Bd E 1 := ⟨by omega, by omega, by omega, by omega⟩
    have qa := fun w => refGarment_any hE1 (by omega) (by omega) ⟨a1, a2⟩ ⟨b1, b2⟩ w
    have qb := fun w => refGarment_any hE1 (by omega) (by omega) ⟨b1, b2⟩ ⟨a1, a2⟩ w
    have q29 := fun w => refWhole_any E w
    simp only [redV_one, Int.mul_one] at qa qb
    clear hD a1 a2 b1 b2 e1 e2 hE1
    unfold redV garV fracV at *
    generalize redN (conX E a b) 2 = x0 at *
    generalize redD (conX E a b) 2 = x1 at *
    generalize redN (conX E b a) 2 = y0 at *
    generalize redD (conX E b a) 2 = y1 at *
    have e1 := eqS x0 x1
    have e2 := eqS y0 y1
    go_enter Try.func4, Try.ntmps4
    go_wp2_with (first
      | (go_at_call 28; (with_reducible refine (q28 _).mono ?_); rintro e w1 ⟨rfl, hb1⟩
         obtain ⟨w2, hw2⟩ : ∃ w2, (w1.alloc (.cells #[.int .i64 x0, .int .i64 x1] 37)).alloc (.cells #[.int .i64 y0, .int .i64 y1] 37) = w2 := ⟨_, rfl⟩
         obtain ⟨w3, hw3⟩ : ∃ w3, w2.alloc (.cells #[.int .i64 a, .int .i64 b] 3) = w3 := ⟨_, rfl⟩
         have o7 : Own2 w2 w1.heap.size (.int .i64 x0) (.int .i64 x1) := by rw [← hw2]; exact (Own2.new _ _ _ _).after ((Below.refl _ _).alloc (Nat.le_refl _) _)
         have o8 : Own2 w2 (w1.heap.size + 1) (.int .i64 y0) (.int .i64 y1) := by rw [← hw2]; exact Own2.at (by simp) _ _ _
         have hb3 : Below w2.heap.size w2 w3 := by rw [← hw3]; exact (Below.refl _ _).alloc (Nat.le_refl _) _
         have hbw : Below w.heap.size w w3 := (show Below w.heap.size w w2 by rw [← hw2]; exact (hb1.alloc hb1.size _).alloc (by have := hb1.size; simp; omega) _).trans (hb3.mono (by rw [← hw2]; have := hb1.size; simp; omega))
         have o7 := o7.after hb3
         have o8 := o8.after hb3
         have hg3 : BlkAt w3 w2.heap.size #[.int .i64 a, .int .i64 b] 3 := by rw [← hw3]; exact BlkAt.new _ _ _
         have hsz2 : w2.heap.size = w1.heap.size + 1 + 1 := by rw [← hw2]; simp
         rw [hsz2] at hg3
         clear hb1 q28 hb3)
      | (go_at_call 24; (with_reducible refine (q24 _ _ hg3).mono ?_); rintro e w5 ⟨rfl, hw5⟩; rw [hw5]; clear hw5)
      | (go_at_call 29; (with_reducible refine (q29 _).mono ?_); rintro e w4 ⟨rfl, hb4⟩
         obtain ⟨w5, hw5⟩ : ∃ w5, w4.alloc (.cells #[.int .i64 E, .int .i64 1] 37) = w5 := ⟨_, rfl⟩
         have hb5 : Below w4.heap.size w4 w5 := by rw [← hw5]; exact (Below.refl _ _).alloc (Nat.le_refl _) _
         have o10 : Own2 w5 w4.heap.size (.int .i64 E) (.int .i64 1) := by rw [← hw5]; exact Own2.new _ _ _ _
         have o7 := (o7.after hb4).after hb5
         have o8 := (o8.after hb4).after hb5
         have hbw := (hbw.trans (hb4.mono hbw.size))
         have hbw := hbw.trans (hb5.mono hbw.size)
         clear hb4 hb5))
    try rw [hw5]
    refine (wpIn_wide (n := 0)).1 ?_
    refine Many.region_many (Cb w5) mixed_ok (by kernel_rfl) (fun _ _ _ _ h => h) (fun s _ => Cb.start w5 s) ?_
    refine Many.lex_want (by rfl) (rdb (v := .agg #[.int .i64 x0, .int .i64 x1]) (fun w hb => by (obtain ⟨c0, c1, f0, f1⟩ := o7.after hb; go_simp; try rfl))) ?_
    simp only [Act.put, List.setIfInBounds_toArray, List.set_cons_succ, List.set_cons_zero, Nat.reduceAdd]
    refine Many.lex_want (by rfl) (rdb (v := .agg #[.int .i64 E, .int .i64 1]) (fun w hb => by (obtain ⟨c0, c1, f0, f1⟩ := o10.after hb; go_simp; try rfl))) ?_
    simp only [Act.put, List.setIfInBounds_toArray, List.set_cons_succ, List.set_cons_zero, Nat.reduceAdd]
    refine Many.lex_want (by rfl) (rdb (fun w hb => by (go_simp; try rfl))) ?_
    simp only [Act.put, List.setIfInBounds_toArray, List.set_cons_succ, List.set_cons_zero, Nat.reduceAdd]
    refine Many.lex_want (by rfl) (rdb (fun w hb => by (go_simp; try rfl))) ?_
    simp only [Act.put, List.setIfInBounds_toArray, List.set_cons_succ, List.set_cons_zero, Nat.reduceAdd]
    refine Many.lex_want (by rfl) (clb qa (fun w hb => by (go_simp; try rfl))) ?_
    simp only [Act.put, List.setIfInBounds_toArray, List.set_cons_succ, List.set_cons_zero, Nat.reduceAdd]
    refine Many.lex_want (by rfl) (rdb (v := .bool true) (fun w hb => by (have e := e1; go_simp; try rfl))) ?_
    simp only [Act.put, List.setIfInBounds_toArray, List.set_cons_succ, List.set_cons_zero, Nat.reduceAdd]
    refine Many.lex_want (by rfl) (rdb (fun w hb => by (go_simp; try rfl))) ?_
    simp only [Act.put, List.setIfInBounds_toArray, List.set_cons_succ, List.set_cons_zero, Nat.reduceAdd]
    refine Many.lex_want (by rfl) (rdb (v := .agg #[.int .i64 y0, .int .i64 y1]) (fun w hb => by (obtain ⟨c0, c1, f0, f1⟩ := o8.after hb; go_simp; try rfl))) ?_
    simp only [Act.put, List.setIfInBounds_toArray, List.set_cons_succ, List.set_cons_zero, Nat.reduceAdd]
    refine Many.lex_want (by rfl) (rdb (v := .agg #[.int .i64 E, .int .i64 1]) (fun w hb => by (obtain ⟨c0, c1, f0, f1⟩ := o10.after hb; go_simp; try rfl))) ?_
    simp only [Act.put, List.setIfInBounds_toArray, List.set_cons_succ, List.set_cons_zero, Nat.reduceAdd]
    refine Many.lex_want (by rfl) (rdb (fun w hb => by (go_simp; try rfl))) ?_
    simp only [Act.put, List.setIfInBounds_toArray, List.set_cons_succ, List.set_cons_zero, Nat.reduceAdd]
    refine Many.lex_want (by rfl) (rdb (fun w hb => by (go_simp; try rfl))) ?_
    simp only [Act.put, List.setIfInBounds_toArray, List.set_cons_succ, List.set_cons_zero, Nat.reduceAdd]
    refine Many.lex_want (by rfl) (clb qb (fun w hb => by (go_simp; try rfl))) ?_
    simp only [Act.put, List.setIfInBounds_toArray, List.set_cons_succ, List.set_cons_zero, Nat.reduceAdd]
    refine Many.lex_want (by rfl) (rdb (v := .bool true) (fun w hb => by (have e := e2; go_simp; try rfl))) ?_
    simp only [Act.put, List.setIfInBounds_toArray, List.set_cons_succ, List.set_cons_zero, Nat.reduceAdd]
    refine Many.lex_want (by rfl) (rdb (fun w hb => by (go_simp; try rfl))) ?_
    simp only [Act.put, List.setIfInBounds_toArray, List.set_cons_succ, List.set_cons_zero, Nat.reduceAdd]
    refine Many.lex_want (by rfl) (rdb (fun w hb => by (go_simp; try rfl))) ?_
    simp only [Act.put, List.setIfInBounds_toArray, List.set_cons_succ, List.set_cons_zero, Nat.reduceAdd]
    refine Many.lex_want (by rfl) (rdb (fun w hb => by (go_simp; try rfl))) ?_
    simp only [Act.put, List.setIfInBounds_toArray, List.set_cons_succ, List.set_cons_zero, Nat.reduceAdd]
    refine Many.lex_want (by rfl) (rdb (fun w hb => by (go_simp; try rfl))) ?_
    simp only [Act.put, List.setIfInBounds_toArray, List.set_cons_succ, List.set_cons_zero, Nat.reduceAdd]
    refine Many.lex_want (by rfl) (rdb (fun w hb => by (go_simp; try rfl))) ?_
    simp only [Act.put, List.setIfInBounds_toArray, List.set_cons_succ, List.set_cons_zero, Nat.reduceAdd]
    refine Many.lex_want (by rfl) (rdb (fun w hb => by (go_simp; try rfl))) ?_
    simp only [Act.put, List.setIfInBounds_toArray, List.set_cons_succ, List.set_cons_zero, Nat.reduceAdd]
    refine Many.lex_want (by rfl) (clb awake_any (fun w hb => by (go_simp; try rfl))) ?_
    simp only [Act.put, List.setIfInBounds_toArray, List.set_cons_succ, List.set_cons_zero, Nat.reduceAdd]
    refine Many.lex_want (by rfl) (rdb (fun w hb => by (go_simp; try rfl))) ?_
    simp only [Act.put, List.setIfInBounds_toArray, List.set_cons_succ, List.set_cons_zero, Nat.reduceAdd]
    refine Many.lex_want (by rfl) (rdb (fun w hb => by (go_simp; try rfl))) ?_
    simp only [Act.put, List.setIfInBounds_toArray, List.set_cons_succ, List.set_cons_zero, Nat.reduceAdd]
    refine Many.lex_nil fun s W9 hs hC => ?_
    have hC : Below w5.heap.size w5 W9 := hC
    have hbw := hbw.trans (hC.mono hbw.size)
    go_wp2
    go_ret
    exact ⟨rfl, hbw⟩
end Go.Proofs.Ytbocmbhinjkjlaa
