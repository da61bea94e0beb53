/- Fractions that may be added: areTerms and Sum of the program. -/
import Derived.Test.YtbocmbhinjkjlaaLists
import Derived.Test.YtbocmbhinjkjlaaRedCalc
import Derived.Test.YtbocmbhinjkjlaaRefGar0
set_option linter.unusedSimpArgs false
set_option linter.unusedVariables false
namespace Go.Proofs.Ytbocmbhinjkjlaa
open Go Go.Proofs Go.RowKit Go.Seq
def okT (z : Int × Int) : Bool := withinB z.1 z.2 (-1000000) 1000000 20
def okTs (l : Pts) : Bool := decide (l.length ≤ 10 ∧ ∀ z ∈ l, okT z = true)
theorem okT_valid (z : Int × Int) : okT z = (validB z.1 z.2 && decide (-1000000 ≤ z.1) && decide (z.1 ≤ 1000000) && decide (z.2 ≤ 20)) := by
  unfold okT withinB validB
  by_cases h1 : 1 ≤ z.2 <;> by_cases h2 : Int.gcd z.1 z.2 = 1 <;> by_cases h3 : -1000000 ≤ z.1 <;> by_cases h4 : z.1 ≤ 1000000 <;> by_cases h5 : z.2 ≤ 20 <;> simp [h1, h2, h3, h4, h5]
theorem okT_bounds {z : Int × Int} (h : okT z = true) : 1 ≤ z.2 ∧ z.2 ≤ 20 ∧ -1000000 ≤ z.1 ∧ z.1 ≤ 1000000 ∧ Int.gcd z.1 z.2 = 1 := of_decide_eq_true h
abbrev Wide (l : Pts) : Prop := ∀ z ∈ l, In64 z.1 ∧ In64 z.2
set_option maxHeartbeats 2000000 in
set_option maxRecDepth 100000 in
theorem areTerms_any {v : Value} {l : Pts} {w : World} (hv : FracsO w v l) (hw : Wide l) (hlen : l.length ≤ 1000) :
    Calls Try.prog 83 #[v] w fun r w' => r = .returned (.bool (okTs l)) ∧ Below w.heap.size w w' := by
  obtain ⟨D, hD⟩ : ∃ D, Keep (okTs l = D) := ⟨_, ⟨rfl⟩⟩
  rw [hD.out]
  obtain ⟨A, cap, rfl, hcell⟩ := hv
  go_enter Try.func83, Try.ntmps83
  go_wp2
  go_loopw [7] (fun i wr => ∃ k : Nat, k ≤ l.length ∧ i = .int .i64 k ∧ Below w.heap.size w wr ∧ Keep (∀ i, i < k → okT (l.getD i (0, 0)) = true)) (fun i _ => l.length - (intOf i).toNat)
  case atStart => exact ⟨0, by omega, rfl, Below.refl _ _, ⟨fun i hi => by omega⟩⟩
  case round =>
    obtain ⟨k, hk, rfl, hbw, hall⟩ := hrel
    by_cases hlt : k < l.length
    · obtain ⟨g, o, rfl, hz1, hz2⟩ := hcell k hlt
      have hz1 := cell_below hz1 hbw
      have hz2 := cell_below hz2 hbw
      obtain ⟨i1, i2⟩ := hw _ (getp hlt)
      have q := fun w => isValid_any i1 i2 w
      have hok := okT_valid (l.getD k (0, 0))
      have hbz := hbw.size
      have hall2 : okT (l.getD k (0, 0)) = true → Keep (∀ i, i < k + 1 → okT (l.getD i (0, 0)) = true) := fun h => ⟨fun i hi => by
        rcases Nat.lt_or_ge i k with h' | h'
        · exact hall.out i h'
        · obtain rfl : i = k := by omega
          exact h⟩
      have hbad : okT (l.getD k (0, 0)) = false → Keep (D = false) := fun h => ⟨by
        rw [← hD.out]
        exact decide_eq_false fun hh => by rw [hh.2 _ (getp hlt)] at h; cases h⟩
      generalize l.getD k (0, 0) = z at hz1 hz2 q hok hall2 hbad i1 i2
      obtain ⟨n, d⟩ := z
      simp only at hz1 hz2 q hok i1 i2
      unfold fracV at q
      clear hall hcell hw
      have step : ∀ w5, Below wr.heap.size wr w5 → Own2 w5 wr.heap.size (.int .i64 n) (.int .i64 d) → True := fun _ _ _ => trivial
      cases hV : validB n d with
      | false =>
        rw [hV] at q hok
        have hb := hbad (by rw [hok]; rfl)
        clear hall2 hbad hok
        go_wp2_with (go_at_call 97; (with_reducible refine (q _).mono ?_); rintro e w5 ⟨rfl, hb5⟩)
        go_ret
        exact ⟨by rw [hb.out]; rfl, (hbw.alloc hbz _).trans (hb5.mono (by simp; omega))⟩
      | true =>
        rw [hV, Bool.true_and] at hok
        rw [hV] at q
        by_cases k1 : -1000000 ≤ n
        case neg =>
          have hb := hbad (by rw [hok, decide_eq_false k1]; rfl)
          have k1' : n < -1000000 := by omega
          clear hall2 hbad hok
          go_wp2_with (go_at_call 97; (with_reducible refine (q _).mono ?_); rintro e w5 ⟨rfl, hb5⟩
                       obtain ⟨c0, c1, f0, f1⟩ := (Own2.new wr (.int .i64 n) (.int .i64 d) 37).after hb5
                       have hbw5 : Below w.heap.size w w5 := (hbw.alloc hbz _).trans (hb5.mono (by simp; omega))
                       clear hb5)
          go_ret
          exact ⟨by rw [hb.out]; rfl, hbw5⟩
        by_cases k2 : n ≤ 1000000
        case neg =>
          have hb := hbad (by rw [hok, decide_eq_false k2, Bool.and_false]; rfl)
          have k1' : ¬ n < -1000000 := by omega
          have k2' : 1000000 < n := by omega
          clear hall2 hbad hok
          go_wp2_with (go_at_call 97; (with_reducible refine (q _).mono ?_); rintro e w5 ⟨rfl, hb5⟩
                       obtain ⟨c0, c1, f0, f1⟩ := (Own2.new wr (.int .i64 n) (.int .i64 d) 37).after hb5
                       have hbw5 : Below w.heap.size w w5 := (hbw.alloc hbz _).trans (hb5.mono (by simp; omega))
                       clear hb5)
          go_ret
          exact ⟨by rw [hb.out]; rfl, hbw5⟩
        by_cases k3 : d ≤ 20
        case neg =>
          have hb := hbad (by rw [hok, decide_eq_false k3, Bool.and_false])
          have k1' : ¬ n < -1000000 := by omega
          have k2' : ¬ 1000000 < n := by omega
          have k3' : 20 < d := by omega
          clear hall2 hbad hok
          go_wp2_with (go_at_call 97; (with_reducible refine (q _).mono ?_); rintro e w5 ⟨rfl, hb5⟩
                       obtain ⟨c0, c1, f0, f1⟩ := (Own2.new wr (.int .i64 n) (.int .i64 d) 37).after hb5
                       have hbw5 : Below w.heap.size w w5 := (hbw.alloc hbz _).trans (hb5.mono (by simp; omega))
                       clear hb5)
          go_ret
          exact ⟨by rw [hb.out]; rfl, hbw5⟩
        have hb := hall2 (by rw [hok, decide_eq_true k1, decide_eq_true k2, decide_eq_true k3]; rfl)
        have k1' : ¬ n < -1000000 := by omega
        have k2' : ¬ 1000000 < n := by omega
        have k3' : ¬ 20 < d := by omega
        clear hall2 hbad hok
        go_wp2_with (go_at_call 97; (with_reducible refine (q _).mono ?_); rintro e w5 ⟨rfl, hb5⟩
                     obtain ⟨c0, c1, f0, f1⟩ := (Own2.new wr (.int .i64 n) (.int .i64 d) 37).after hb5
                     have hbw5 : Below w.heap.size w w5 := (hbw.alloc hbz _).trans (hb5.mono (by simp; omega))
                     clear hb5)
        exact ⟨⟨k + 1, by omega, by go_num, hbw5, hb⟩, by simp [intOf]; omega⟩
    · obtain rfl : k = l.length := by omega
      have hA := all_of_getp (p := fun z => okT z = true) hall.out
      have hDG : Keep (decide ((l.length : Int) ≤ 10) = D) := ⟨by
        rw [← hD.out]; unfold okTs
        rw [decide_eq_decide]
        exact ⟨fun h => ⟨by omega, hA⟩, fun h => by omega⟩⟩
      clear hall hcell hA hw
      go_wp2
      go_ret
      exact ⟨by rw [← hDG.out]; rfl, hbw⟩
/-! sums of such fractions, over one denominator -/
def MM : Int := 232792560
theorem mm_dvd {d : Int} (h1 : 1 ≤ d) (h2 : d ≤ 20) : d * (MM / d) = MM := by
  have h : ∀ k : Fin 21, k.1 = 0 ∨ ((k.1 : Nat) : Int) * (MM / ((k.1 : Nat) : Int)) = MM := by decide
  have := h ⟨d.toNat, by omega⟩
  simp only [Int.toNat_of_nonneg (show 0 ≤ d by omega)] at this
  rcases this with h | h
  · omega
  · exact h
def sumT (l : Pts) : Int := (l.map fun z => z.1 * (MM / z.2)).sum
theorem sumT_take {l : Pts} {k : Nat} (h : k < l.length) : sumT (l.take (k + 1)) = sumT (l.take k) + (l.getD k (0, 0)).1 * (MM / (l.getD k (0, 0)).2) := by
  have e : l.take (k + 1) = l.take k ++ [l.getD k (0, 0)] := by
    rw [List.take_add_one, List.getElem?_eq_getElem h, List.getD_eq_getElem?_getD, List.getElem?_eq_getElem h]; rfl
  rw [e]
  unfold sumT
  rw [List.map_append, List.sum_append]
  simp
theorem term_bound {z : Int × Int} (h : okT z = true) : -232792560000000 ≤ z.1 * (MM / z.2) ∧ z.1 * (MM / z.2) ≤ 232792560000000 := by
  obtain ⟨h1, h2, h3, h4, _⟩ := okT_bounds h
  have e := mm_dvd h1 h2
  have m0 : 0 ≤ MM / z.2 := Int.ediv_nonneg (by decide) (by omega)
  have m1 : MM / z.2 ≤ 232792560 := Int.ediv_le_self _ (by decide)
  have a1 : z.1 * (MM / z.2) ≤ 1000000 * (MM / z.2) := Int.mul_le_mul_of_nonneg_right h4 m0
  have a2 : -1000000 * (MM / z.2) ≤ z.1 * (MM / z.2) := Int.mul_le_mul_of_nonneg_right h3 m0
  omega
theorem sumT_bound {l : Pts} (h : ∀ z ∈ l, okT z = true) : ∀ k : Nat, -232792560000000 * (k : Int) ≤ sumT (l.take k) ∧ sumT (l.take k) ≤ 232792560000000 * (k : Int) := by
  intro k
  induction k with
  | zero => simp [sumT]
  | succ k ih =>
    rcases Nat.lt_or_ge k l.length with hk | hk
    · rw [sumT_take hk]; have := term_bound (h _ (getp hk)); omega
    · rw [List.take_of_length_le (by omega)]; rw [List.take_of_length_le hk] at ih; omega
theorem sum_step_math {S n d : Int} (h1 : 1 ≤ d) (h2 : d ≤ 20) : redV (redN S MM * d + n * redD S MM) (redD S MM * d) = redV (S + n * (MM / d)) MM := by
  have hM : (1 : Int) ≤ MM := by decide
  obtain ⟨g, g1, p1, p2, p3, p4⟩ := red_parts S hM
  refine redV_same (mul_pos1 p3 h1) hM ?_
  have e := mm_dvd h1 h2
  generalize redN S MM = a at *
  generalize redD S MM = b at *
  generalize MM / d = m at *
  have l1 : (a * d + n * b) * MM = (a * d) * MM + (n * b) * MM := Int.add_mul ..
  have r1 : (S + n * m) * (b * d) = S * (b * d) + (n * m) * (b * d) := Int.add_mul ..
  have x1 : (a * d) * MM = S * (b * d) := by rw [← p1, ← p2]; ac_rfl
  have x2 : (n * b) * MM = (n * m) * (b * d) := by
    have : (n * b) * (d * m) = (n * m) * (b * d) := by ac_rfl
    rw [e] at this; exact this
  rw [l1, r1, x1, x2]
theorem sum_step_ok {S n d : Int} (hS : -2327925600000000 ≤ S ∧ S ≤ 2327925600000000) (h1 : 1 ≤ d) (h2 : d ≤ 20) (h3 : -1000000 ≤ n) (h4 : n ≤ 1000000) : SumOk (redN S MM) (redD S MM) n d := by
  have hM : (1 : Int) ≤ MM := by decide
  obtain ⟨g, g1, p1, p2, p3, p4⟩ := red_parts S hM
  obtain ⟨b1, b2, b3⟩ := red_le S hM
  have hMM : MM = 232792560 := rfl
  generalize redN S MM = a at *
  generalize redD S MM = b at *
  have a1 : a ≤ 2327925600000000 := by omega
  have a2 : -2327925600000000 ≤ a := by omega
  have m1 : a * d ≤ 2327925600000000 * d := Int.mul_le_mul_of_nonneg_right a1 (by omega)
  have m2 : -2327925600000000 * d ≤ a * d := Int.mul_le_mul_of_nonneg_right a2 (by omega)
  have m3 : n * b ≤ 1000000 * b := Int.mul_le_mul_of_nonneg_right h4 (by omega)
  have m4 : -1000000 * b ≤ n * b := Int.mul_le_mul_of_nonneg_right h3 (by omega)
  have m5 := mul_pos1 p3 h1
  have m6 : b * d ≤ b * 20 := Int.mul_le_mul_of_nonneg_left h2 (by omega)
  exact ⟨⟨by omega, by omega⟩, ⟨by omega, by omega⟩, by omega, by omega, m5, by omega⟩
theorem sum_step {S n d : Int} (hS : -2327925600000000 ≤ S ∧ S ≤ 2327925600000000) (hz : okT (n, d) = true) (w : World) :
    Calls Try.prog 85 #[redV S MM, fracV n d] w fun e w' => e = .returned (redV (S + n * (MM / d)) MM) ∧ Below w.heap.size w w' := by
  obtain ⟨h1, h2, h3, h4, _⟩ := okT_bounds hz
  rw [← sum_step_math h1 h2]
  exact sum_any (sum_step_ok hS h1 h2 h3 h4) w
theorem refAdd_step {S n d : Int} (hS : -2327925600000000 ≤ S ∧ S ≤ 2327925600000000) (hz : okT (n, d) = true) (w : World) :
    Calls Try.prog 52 #[redV S MM, fracV n d] w fun e w' => e = .returned (redV (S + n * (MM / d)) MM) ∧ Below w.heap.size w w' := by
  obtain ⟨h1, h2, h3, h4, _⟩ := okT_bounds hz
  rw [← sum_step_math h1 h2]
  exact refAdd_any (sum_step_ok hS h1 h2 h3 h4) w
end Go.Proofs.Ytbocmbhinjkjlaa
