import Derived.Test.YtbmfipjnfbnjgaaLawFalls
import Derived.Test.YtbmfipjnfbnjgaaCurtailFn
set_option linter.unusedSimpArgs false
set_option linter.unusedVariables false
namespace Go.Proofs.Ytbmfipjnfbnjgaa
open Go Go.Proofs Go.RowKit Go.Sample Go.Seq
set_option maxRecDepth 100000 in
theorem curtail_no {N n c : Int} (hno : ¬ PlanOk N n c) (w : World) :
    Calls Try.prog 42 #[.int .i64 N, .int .i64 n, .int .i64 c] w fun e w' => e = .returned (.tuple #[.agg #[.slice none 0 0, .slice none 0 0], .int .i64 2]) ∧ Below w.heap.size w w' := by
  have hr := fun w => readSingle_bad hno w
  unfold planV at hr
  go_enter Try.func42, Try.ntmps42
  go_wp2_with (go_at_call 53; refine (hr _).mono ?_; rintro e w5 ⟨rfl, hb⟩
               obtain ⟨x0, x1, y0, y1⟩ := (Own2.new w (.slice none 0 0) (.slice none 0 0) 42).after hb
               have hs := (Own2.new w (.slice none 0 0) (.slice none 0 0) 42).after hb |>.lt
               have hb' : Below w.heap.size w w5 := ((Below.refl _ w).alloc (Nat.le_refl _) _).trans (hb.mono (by simp))
               clear hb)
  all_goals refine bodyPost_ret (v := .tuple #[.agg #[.slice none 0 0, .slice none 0 0], .int .i64 2]) (by simp [results, Try.results42, go_sem]; try go_simp) rfl ?_
  all_goals exact ⟨rfl, ((hb'.setCell (p := ⟨w.heap.size, 0, none⟩) (Nat.le_refl _) _).setCell (p := ⟨w.heap.size, 1, none⟩) (Nat.le_refl _) _).alloc (by simpa [World.setCell] using hb'.size) _⟩
structure CnR (w : World) (g : Nat) (x y : Value) (W : World) : Prop where
  o : Own2 W g x y
  bw : Below w.heap.size w W
theorem CnR.after {w W W' : World} {g : Nat} {x y : Value} (h : CnR w g x y W) (hb : Below W.heap.size W W') : CnR w g x y W' := ⟨h.o.after hb, h.bw.trans (hb.mono h.bw.size)⟩
theorem CnR.new {w W : World} (hb : Below w.heap.size w W) (x y : Value) (t : TypeId) : CnR w W.heap.size x y (W.alloc (.cells #[x, y] t)) := ⟨Own2.new _ _ _ _, hb.alloc hb.size _⟩
set_option maxHeartbeats 1000000 in
set_option maxRecDepth 100000 in
theorem curves_no {N n c : Int} (hno : ¬ PlanOk N n c) (w : World) : Calls Try.prog 7 #[.int .i64 N, .int .i64 n, .int .i64 c] w fun e w' => e = .returned (.bool true) ∧ Below w.heap.size w w' := by
  have q40 := fun w => curve_no hno w
  have q41 := fun w => leftFn_no hno w
  have q42 := fun w => curtail_no hno w
  have q22 := fun w => refPlan_any (N := N) (n := n) (c := c) w
  have e0 : ∀ w, (Op.equalIn 10000 27 (.agg #[.int .i64 0, .int .i64 0]) (.agg #[.int .i64 0, .int .i64 0])).run Try.prog w = .ok true w := fun w => eq27 0 0 0 0 w
  unfold fracV at q41
  have hcs : N < 1 ∨ (¬ N < 1 ∧ 36 < N) ∨ (¬ N < 1 ∧ ¬ 36 < N ∧ decide (0 ≤ c ∧ c < n ∧ n ≤ N) = false) := by
    by_cases h1 : N < 1
    · exact .inl h1
    · by_cases h2 : 36 < N
      · exact .inr (.inl ⟨h1, h2⟩)
      · exact .inr (.inr ⟨h1, h2, decide_eq_false (fun h => hno ⟨by omega, by omega, h.1, h.2.1, h.2.2⟩)⟩)
  rcases hcs with h1 | ⟨h1, h2⟩ | ⟨h1, h2, h3⟩
  · go_enter Try.func7, Try.ntmps7
    go_wp2_with (first
      | (go_at_call 40; (with_reducible refine (q40 _).mono ?_); rintro e w1 ⟨rfl, hb1⟩)
      | (go_at_call 41; (with_reducible refine (q41 _).mono ?_); rintro e w2 ⟨rfl, hb2⟩
         have hbw2 := hb1.trans (hb2.mono hb1.size)
         have hR : CnR w w2.heap.size (.int .i64 0) (.int .i64 0) (w2.alloc (.cells #[.int .i64 0, .int .i64 0] 27)) := CnR.new hbw2 _ _ _
         clear hb1 hb2)
      | (go_at_call 42; (with_reducible refine (q42 _).mono ?_); rintro e w4 ⟨rfl, hb4⟩
         have hR := hR.after hb4
         obtain ⟨⟨o0, o1, o2, o3⟩, hbw4⟩ := id hR
         have gl := hR.o.lt
         have hR5 := hR.after ((Below.refl w4.heap.size w4).alloc (Nat.le_refl _) (.cells #[.slice none 0 0, .slice none 0 0] 42))
         clear hb4)
      | (go_at_call 22; (with_reducible refine (q22 _).mono ?_); rintro e w9 ⟨rfl, rfl⟩)
      | (go_at_call 20; refine (awake_any _).mono ?_; rintro e wz ⟨rfl, hbz⟩
         have hR := hR5.after hbz
         clear hbz))
    go_ret
    exact ⟨rfl, hR.bw⟩
  · go_enter Try.func7, Try.ntmps7
    go_wp2_with (first
      | (go_at_call 40; (with_reducible refine (q40 _).mono ?_); rintro e w1 ⟨rfl, hb1⟩)
      | (go_at_call 41; (with_reducible refine (q41 _).mono ?_); rintro e w2 ⟨rfl, hb2⟩
         have hbw2 := hb1.trans (hb2.mono hb1.size)
         have hR : CnR w w2.heap.size (.int .i64 0) (.int .i64 0) (w2.alloc (.cells #[.int .i64 0, .int .i64 0] 27)) := CnR.new hbw2 _ _ _
         clear hb1 hb2)
      | (go_at_call 42; (with_reducible refine (q42 _).mono ?_); rintro e w4 ⟨rfl, hb4⟩
         have hR := hR.after hb4
         obtain ⟨⟨o0, o1, o2, o3⟩, hbw4⟩ := id hR
         have gl := hR.o.lt
         have hR5 := hR.after ((Below.refl w4.heap.size w4).alloc (Nat.le_refl _) (.cells #[.slice none 0 0, .slice none 0 0] 42))
         clear hb4)
      | (go_at_call 22; (with_reducible refine (q22 _).mono ?_); rintro e w9 ⟨rfl, rfl⟩)
      | (go_at_call 20; refine (awake_any _).mono ?_; rintro e wz ⟨rfl, hbz⟩
         have hR := hR5.after hbz
         clear hbz))
    go_ret
    exact ⟨rfl, hR.bw⟩
  · simp only [h3] at q22
    clear h3
    go_enter Try.func7, Try.ntmps7
    go_wp2_with (first
      | (go_at_call 40; (with_reducible refine (q40 _).mono ?_); rintro e w1 ⟨rfl, hb1⟩)
      | (go_at_call 41; (with_reducible refine (q41 _).mono ?_); rintro e w2 ⟨rfl, hb2⟩
         have hbw2 := hb1.trans (hb2.mono hb1.size)
         have hR : CnR w w2.heap.size (.int .i64 0) (.int .i64 0) (w2.alloc (.cells #[.int .i64 0, .int .i64 0] 27)) := CnR.new hbw2 _ _ _
         clear hb1 hb2)
      | (go_at_call 42; (with_reducible refine (q42 _).mono ?_); rintro e w4 ⟨rfl, hb4⟩
         have hR := hR.after hb4
         obtain ⟨⟨o0, o1, o2, o3⟩, hbw4⟩ := id hR
         have gl := hR.o.lt
         have hR5 := hR.after ((Below.refl w4.heap.size w4).alloc (Nat.le_refl _) (.cells #[.slice none 0 0, .slice none 0 0] 42))
         clear hb4)
      | (go_at_call 22; (with_reducible refine (q22 _).mono ?_); rintro e w9 ⟨rfl, rfl⟩)
      | (go_at_call 20; refine (awake_any _).mono ?_; rintro e wz ⟨rfl, hbz⟩
         have hR := hR5.after hbz
         clear hbz))
    go_ret
    exact ⟨rfl, hR.bw⟩
end Go.Proofs.Ytbmfipjnfbnjgaa
