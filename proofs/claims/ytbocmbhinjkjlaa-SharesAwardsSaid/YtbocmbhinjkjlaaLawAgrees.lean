/- The law SharesAgrees: its walk. -/
import Derived.Test.YtbocmbhinjkjlaaRefAgrees
import Derived.ChangeKeysEq
set_option linter.unusedSimpArgs false
set_option linter.unusedVariables false
namespace Go.Proofs.Ytbocmbhinjkjlaa
open Go Go.Proofs Go.RowKit Go.Seq
theorem ty22 : Try.prog.underlying 22 = some (.array 2 3) := by kernel_rfl
theorem eq22 (a b c d : Int) (w : World) : (Op.equalIn 10000 22 (.agg #[.int .i64 a, .int .i64 b]) (.agg #[.int .i64 c, .int .i64 d])).run Try.prog w = .ok (a == c && b == d) w := by
  have u3 := Try.underlying3
  have a3 := Try.isAgg3
  have z3 := Try.sizeOf3
  obtain ⟨i0, hi, _⟩ := info_parts info3
  rw [show (10000 : Nat) = 9999 + 1 from rfl, run_equalIn_array w 9999 _ _ ty22 hi, cells3, show List.range 2 = [0, 1] from rfl]
  simp only [Op.eqItems]
  go_simp
  by_cases h1 : a = c <;> by_cases h2 : b = d <;> simp [h1, h2]
theorem eq22s (a b : Int) (w : World) : (Op.equalIn 10000 22 (.agg #[.int .i64 a, .int .i64 b]) (.agg #[.int .i64 a, .int .i64 b])).run Try.prog w = .ok true w := by rw [eq22]; simp
theorem take_wide {l : Pts} (h : ∀ z ∈ l, In64 z.1 ∧ In64 z.2) : Wide (l.take 11) := fun z hz => h z (List.mem_of_mem_take hz)
theorem take_len11 {α : Type} (l : List α) : (l.take 11).length ≤ 1000 := by rw [List.length_take]; omega
set_option maxHeartbeats 8000000 in
set_option maxRecDepth 100000 in
theorem agreesLaw_any {E : Int} {v u : Value} {zs0 : List Int} {l0 : Pts} {w : World} (hv : ArgInts w v zs0) (hu : ArgFracs w u l0) (hw0 : ∀ z ∈ l0, In64 z.1 ∧ In64 z.2) :
    Calls Try.prog 5 #[.int .i64 E, v, u] w fun e w' => e = .returned (.bool true) ∧ Below w.heap.size w w' := by
  have q20 := list_any hv
  have q21 : ∀ w1, Below w.heap.size w w1 → Calls Try.prog 21 #[u] w1 fun e w' => ∃ v', e = .returned v' ∧ FracsO w' v' (l0.take 11) ∧ Below w1.heap.size w1 w' := fun w1 hb => by
    have hu1 : ArgFracs w1 u l0 := by
      rcases hu with h | h | ⟨b, o, cap, h1, h2, h3, h4, h5⟩
      · exact .inl h
      · exact .inr (.inl h)
      · exact .inr (.inr ⟨b, o, cap, h1, h2, h3, Nat.lt_of_lt_of_le h4 hb.size, fun i hi => ⟨cell_below (h5 i hi).1 hb, cell_below (h5 i hi).2 hb⟩⟩)
    exact (fracs_any hu1).mono fun e w' ⟨v', h1, h2, h3⟩ => ⟨v', h1, own_fracs h2, h3⟩
  have hw := take_wide hw0
  have hl := take_len11 l0
  generalize hzs : zs0.take 11 = zs at *
  generalize l0.take 11 = l at *
  have q20 : Calls Try.prog 20 #[v] w fun e w' => ∃ v', e = .returned v' ∧ IntsO w' v' zs ∧ Below w.heap.size w w' := q20.mono fun e w' ⟨v', h1, h2, h3⟩ => ⟨v', h1, own_ints h2, h3⟩
  clear hzs hv hu hw0
  cases hD : decide (Valid zs ∧ 0 ≤ E ∧ E ≤ zs.sum) with
  | false =>
    have q31 := fun w v u h => agrees_no1 (E := E) (v := v) (u := u) (w := w) h hD
    have q24 := fun w v h => claims_any (e := E) (v := v) (zs := zs) (w := w) h
    rw [hD] at q24
    have e1 := eq22s 0 0
    clear hD
    go_enter Try.func5, Try.ntmps5
    go_wp2_with (first
      | (go_at_call 20; (with_reducible refine q20.mono ?_); rintro e w1 ⟨v1, rfl, hc1, hb1⟩)
      | (go_at_call 21; (with_reducible refine (q21 _ hb1).mono ?_); rintro e w2 ⟨u2, rfl, hu2, hb2⟩
         have hc2 := intsO_below hc1 hb2
         have hbw2 := hb1.trans (hb2.mono hb1.size)
         clear hc1 q20 q21)
      | (go_at_call 31; (with_reducible refine (q31 _ _ _ hc2).mono ?_); rintro e w3 ⟨rfl, hb3⟩
         obtain ⟨w4, hw4⟩ : ∃ w4, Keep (w3.alloc (.cells #[.int .i64 0, .int .i64 0] 22) = w4) := ⟨_, ⟨rfl⟩⟩
         have hb4 : Below w3.heap.size w3 w4 := by rw [← hw4.out]; exact (Below.refl _ _).alloc (Nat.le_refl _) _
         have o9 : Own2 w4 w3.heap.size (.int .i64 0) (.int .i64 0) := by rw [← hw4.out]; exact Own2.new _ _ _ _
         have hb24 := hb3.trans (hb4.mono hb3.size)
         have hc4 := intsO_below hc2 hb24
         have hbw4 := hbw2.trans (hb24.mono hbw2.size)
         obtain ⟨c0, c1, f0, f1⟩ := o9
         clear hc2 hb3 hb4 hb24 hbw2)
      | (go_at_call 24; (try rw [hw4.out]); (with_reducible refine (q24 _ _ hc4).mono ?_); rintro e w5 ⟨rfl, hw5⟩; rw [hw5]; clear hw5)
      | (go_at_call 25; refine (awake_any _).mono ?_; rintro e w9 ⟨rfl, hb9⟩))
    go_ret
    exact ⟨rfl, hbw4.trans (hb9.mono hbw4.size)⟩
  | true =>
    have q24 := fun w v h => claims_any (e := E) (v := v) (zs := zs) (w := w) h
    rw [hD] at q24
    obtain ⟨hV, hE⟩ := of_decide_eq_true hD
    cases hA : awB zs E l with
    | false =>
      have q31 := fun w v u h h2 => agrees_no2 (E := E) (v := v) (u := u) (w := w) h hD h2 hw hl hA
      have q32 := fun w v u h h2 => divides_any (E := E) (sl := v) (v := u) (w := w) (zs := zs) (l := l) h hV.2.2 hV.2.1 h2 hw hl
      rw [hA] at q32
      have e1 := eq22s 0 0
      clear hD hV hE hA
      go_enter Try.func5, Try.ntmps5
      go_wp2_with (first
        | (go_at_call 20; (with_reducible refine q20.mono ?_); rintro e w1 ⟨v1, rfl, hc1, hb1⟩)
        | (go_at_call 21; (with_reducible refine (q21 _ hb1).mono ?_); rintro e w2 ⟨u2, rfl, hu2, hb2⟩
           have hc2 := intsO_below hc1 hb2
           have hbw2 := hb1.trans (hb2.mono hb1.size)
           clear hc1 q20 q21)
        | (go_at_call 31; (with_reducible refine (q31 _ _ _ hc2 hu2).mono ?_); rintro e w3 ⟨rfl, hb3⟩
           obtain ⟨w4, hw4⟩ : ∃ w4, Keep (w3.alloc (.cells #[.int .i64 0, .int .i64 0] 22) = w4) := ⟨_, ⟨rfl⟩⟩
           have hb4 : Below w3.heap.size w3 w4 := by rw [← hw4.out]; exact (Below.refl _ _).alloc (Nat.le_refl _) _
           have o9 : Own2 w4 w3.heap.size (.int .i64 0) (.int .i64 0) := by rw [← hw4.out]; exact Own2.new _ _ _ _
           have hb24 := hb3.trans (hb4.mono hb3.size)
           have hc4 := intsO_below hc2 hb24
           have hu4 := fracsO_below hu2 hb24
           have hbw4 := hbw2.trans (hb24.mono hbw2.size)
           clear hc2 hu2 hb3 hb4 hb24 hbw2)
        | (go_at_call 24; (try rw [hw4.out]); (with_reducible refine (q24 _ _ hc4).mono ?_); rintro e w5 ⟨rfl, hw5⟩; rw [hw5]; clear hw5)
        | (go_at_call 32; (try rw [hw4.out]); (with_reducible refine (q32 _ _ _ hc4 hu4).mono ?_); rintro e w6 ⟨rfl, hb6⟩
           obtain ⟨c0, c1, f0, f1⟩ := o9.after hb6
           have hbw6 := hbw4.trans (hb6.mono hbw4.size)
           clear hb6)
        | (go_at_call 25; refine (awake_any _).mono ?_; rintro e w9 ⟨rfl, hb9⟩))
      go_ret
      exact ⟨rfl, hbw6.trans (hb9.mono hbw6.size)⟩
    | true =>
      obtain ⟨x, y, is, hF⟩ := Fst.exists (agP zs l) l.length
      have q31 := fun w v u h h2 => agrees_yes (E := E) (v := v) (u := u) (w := w) h hD h2 hw hl hA hF
      have q32 := fun w v u h h2 => divides_any (E := E) (sl := v) (v := u) (w := w) (zs := zs) (l := l) h hV.2.2 hV.2.1 h2 hw hl
      have q33 := fun w v u h h2 => refAgrees_any (E := E) (v := v) (u := u) (w := w) h hD h2 hl hA hF
      rw [hA] at q32
      have e1 := eq22s x y
      clear hD hV hE hA hF
      go_enter Try.func5, Try.ntmps5
      go_wp2_with (first
        | (go_at_call 20; (with_reducible refine q20.mono ?_); rintro e w1 ⟨v1, rfl, hc1, hb1⟩)
        | (go_at_call 21; (with_reducible refine (q21 _ hb1).mono ?_); rintro e w2 ⟨u2, rfl, hu2, hb2⟩
           have hc2 := intsO_below hc1 hb2
           have hbw2 := hb1.trans (hb2.mono hb1.size)
           clear hc1 q20 q21)
        | (go_at_call 31; (with_reducible refine (q31 _ _ _ hc2 hu2).mono ?_); rintro e w3 ⟨rfl, hb3⟩
           obtain ⟨w4, hw4⟩ : ∃ w4, Keep (w3.alloc (.cells #[.int .i64 x, .int .i64 y] 22) = w4) := ⟨_, ⟨rfl⟩⟩
           have hb4 : Below w3.heap.size w3 w4 := by rw [← hw4.out]; exact (Below.refl _ _).alloc (Nat.le_refl _) _
           have o9 : Own2 w4 w3.heap.size (.int .i64 x) (.int .i64 y) := by rw [← hw4.out]; exact Own2.new _ _ _ _
           have hb24 := hb3.trans (hb4.mono hb3.size)
           have hc4 := intsO_below hc2 hb24
           have hu4 := fracsO_below hu2 hb24
           have hbw4 := hbw2.trans (hb24.mono hbw2.size)
           clear hc2 hu2 hb3 hb4 hb24 hbw2)
        | (go_at_call 24; (try rw [hw4.out]); (with_reducible refine (q24 _ _ hc4).mono ?_); rintro e w5 ⟨rfl, hw5⟩; rw [hw5]; clear hw5)
        | (go_at_call 32; (try rw [hw4.out]); (with_reducible refine (q32 _ _ _ hc4 hu4).mono ?_); rintro e w6 ⟨rfl, hb6⟩
           have o96 := o9.after hb6
           have hc6 := intsO_below hc4 hb6
           have hu6 := fracsO_below hu4 hb6
           have hbw6 := hbw4.trans (hb6.mono hbw4.size)
           clear hb6)
        | (go_at_call 33; (with_reducible refine (q33 _ _ _ hc6 hu6).mono ?_); rintro e w7 ⟨rfl, hb7⟩
           have o97 := (o96.after hb7).after (W' := w7.alloc (.cells #[.int .i64 x, .int .i64 y] 22)) ((Below.refl _ _).alloc (Nat.le_refl _) _)
           have hbw7 := (hbw6.trans (hb7.mono hbw6.size)).alloc (Nat.le_trans hbw6.size hb7.size) (.cells #[.int .i64 x, .int .i64 y] 22)
           obtain ⟨c0, c1, f0, f1⟩ := o97
           clear hb7)
        | (go_at_call 25; refine (awake_any _).mono ?_; rintro e w9 ⟨rfl, hb9⟩))
      go_ret
      exact ⟨by cases is <;> rfl, hbw7.trans (hb9.mono hbw7.size)⟩
end Go.Proofs.Ytbocmbhinjkjlaa
