import Derived.Test.YtbmfipjnfbnjgaaPlanFn
import Derived.Test.YtbmfipjnfbnjgaaSingle2
import Derived.Test.YtbmfipjnfbnjgaaInts
import Derived.Test.YtbmfipjnfbnjgaaCourseFn
import Derived.Test.YtbmfipjnfbnjgaaCurtailFn
set_option linter.unusedSimpArgs false
set_option linter.unusedVariables false
namespace Go.Proofs.Ytbmfipjnfbnjgaa
open Go Go.Proofs Go.RowKit Go.Sample
theorem plan10 : PlanIs 10 0 5 1 1 1 10 3 0 0 := by
  refine .found (by decide) (by decide) (by decide) ⟨by unfold Much; decide, by unfold Fewer; decide⟩ ?_
  intro n' c' h1 h2 h3
  have : (n' = 1 ∧ c' = 0) ∨ (n' = 2 ∧ c' = 0) ∨ (n' = 2 ∧ c' = 1) := by omega
  rcases this with ⟨rfl, rfl⟩ | ⟨rfl, rfl⟩ | ⟨rfl, rfl⟩ <;> exact fun h => h.1 (by unfold Much; decide)
theorem ints_crs {W : World} {c : Crs} (h : CrsIn W c) : IntsO W c.sa ((List.range c.L).map c.A) ∧ IntsO W c.sr ((List.range c.L).map c.R) := by
  constructor
  · refine ⟨_, c.ca, by simp [Crs.sa], fun k hk => ⟨c.ga, c.oa, rfl, ?_⟩⟩
    have hk' : k < c.L := by simpa using hk
    rw [h.las k hk']; simp [List.getD, hk']
  · refine ⟨_, c.cr, by simp [Crs.sr], fun k hk => ⟨c.gr, c.ro, rfl, ?_⟩⟩
    have hk' : k < c.L := by simpa using hk
    rw [h.lrs k hk']; simp [List.getD, hk']
theorem ints_lit2 {W : World} {g : Nat} {a b : Int} (h : Own2 W g (.int .i64 a) (.int .i64 b)) : IntsO W (.slice (some ⟨g, 0, none⟩) 2 2) [a, b] := by
  refine ⟨_, 2, rfl, fun k hk => ⟨g, 0, rfl, ?_⟩⟩
  match k, hk with
  | 0, _ => simpa using h.c0
  | 1, _ => simpa using h.c1
  | k + 2, hk => simp at hk; omega
theorem own2_at {w : World} {g : Nat} {x y : Value} {t : TypeId} (h : w.heap.size = g) : Own2 (w.alloc (.cells #[x, y] t)) g x y := by subst h; exact Own2.new _ _ _ _
theorem lit_ok (g1 g2 : Nat) : CrsOk ⟨g1, 0, 2, g2, 0, 2, 2, curA 2 0, curR 0⟩ 4 := by
  refine ⟨?_, ?_, ?_, ?_⟩
  · show 1 ≤ 2; decide
  · show 2 ≤ 4; decide
  · intro k hk
    show -1 ≤ curA 2 0 k ∧ curA 2 0 k < curR 0 k ∧ curR 0 k ≤ ((2 : Nat) : Int) + 1
    match k, hk with
    | 0, _ => decide
    | 1, _ => decide
    | k + 2, hk => exact absurd hk (by show ¬ k + 2 < 2; omega)
  · show curR 0 1 = curA 2 0 1 + 1; decide
set_option maxHeartbeats 1000000 in
set_option maxRecDepth 100000 in
theorem awake_any (w : World) : Calls Try.prog 20 #[] w fun e w' => e = .returned (.bool true) ∧ Below w.heap.size w w' := by
  have q1 := fun w => single_any (N := 4) (d := 2) (n := 2) (c := 0) (by decide) (by decide) (by decide) (by decide) (by decide) w
  rw [show acc 2 (4 - 2) 2 (0 + 1) = 1 by decide, show ch 4 2 = 6 by decide] at q1
  have q2 := fun w => curtail_any (N := 4) (n := 2) (c := 0) (by decide) (by decide) (by decide) (by decide) w
  have q3 := fun w => plan_any (N := 10) (good := 0) (bad := 5) (by decide) (by decide) (by decide) (by decide) (by decide) (by decide) plan10 w
  have q4 := fun (W : World) (g1 g2 : Nat) (h1 : Own2 W g1 (.int .i64 (-1)) (.int .i64 0)) (h2 : Own2 W g2 (.int .i64 1) (.int .i64 1)) =>
    course_any (N := 4) (d := 2) (c := ⟨g1, 0, 2, g2, 0, 2, 2, curA 2 0, curR 0⟩) (w := W) (by decide) (by decide) (by decide)
      ⟨fun k hk => by
          match k, hk with
          | 0, _ => exact h1.c0
          | 1, _ => exact h1.c1
          | k + 2, hk => simp at hk; omega,
        fun k hk => by
          match k, hk with
          | 0, _ => exact h2.c0
          | 1, _ => exact h2.c1
          | k + 2, hk => simp at hk; omega⟩
      (lit_ok g1 g2)
  have ex : exAll 4 2 (curA 2 0) (curR 0) 2 = 9 := by decide +kernel
  simp only [ex, show ch 4 2 = 6 by decide] at q4
  obtain ⟨AC, hAC⟩ : ∃ AC, accAll 4 2 (curA 2 0) (curR 0) 2 = AC := ⟨_, rfl⟩
  simp only [hAC] at q4
  unfold redV rN rD fracV at q1
  unfold fracV at q3
  unfold Crs.val Crs.sa Crs.sr redV fracV at q4
  simp only [show rN 9 6 = 3 by decide, show rD 9 6 = 2 by decide] at q4
  have e1 : ∀ w, (Op.equalIn 10000 27 (.agg #[.int .i64 1, .int .i64 6]) (.agg #[.int .i64 1, .int .i64 6])).run Try.prog w = .ok true w := fun w => eq27 1 6 1 6 w
  have e2 : ∀ w, (Op.equalIn 10000 27 (.agg #[.int .i64 3, .int .i64 2]) (.agg #[.int .i64 3, .int .i64 2])).run Try.prog w = .ok true w := fun w => eq27 3 2 3 2 w
  go_enter Try.func20, Try.ntmps20
  go_wp2_with (first
    | (go_at_call 18; refine (q1 _).mono ?_; rintro e w1 ⟨rfl, hb1⟩
       clear q1)
    | (go_at_call 42; refine (q2 _).mono ?_; rintro e w2 ⟨x, rfl, hx2, xL, xA, xR, hb2⟩
       have F2 := (Own2.new w1 (.int .i64 1) (.int .i64 6) 27).after hb2
       have hbw2 : Below w.heap.size w w2 := (hb1.alloc hb1.size _).trans (hb2.mono (by rw [World.size_alloc]; have := hb1.size; omega))
       have g12 := F2.lt
       unfold Crs.val Crs.sa Crs.sr
       have xLk := Keep.mk xL
       have xAk := Keep.mk xA
       have xRk := Keep.mk xR
       clear hb2 q2 hb1 xL xA xR)
    | (go_at_call 37; refine (q3 _).mono ?_; rintro e w3 ⟨rfl, hb3⟩
       have hb23 : Below w2.heap.size w2 w3 := ((Below.refl _ w2).alloc (Nat.le_refl _) _).trans (hb3.mono (by simp))
       have F3 := F2.after hb23
       have C3 := (Own2.new w2 (.slice (some ⟨x.ga, x.oa, none⟩) x.L x.ca) (.slice (some ⟨x.gr, x.ro, none⟩) x.L x.cr) 42).after hb3
       have hx3 := hx2.after hb23
       have hbw3 := hbw2.trans (hb23.mono hbw2.size)
       have g13 := F3.lt
       have g23 := C3.lt
       clear hb3 hb23 q3 F2 hx2 hbw2)
    | (go_at_call 33; refine (q4 _ _ _ ((Own2.new w3 (.int .i64 (-1)) (.int .i64 0) 3).after ((Below.refl _ _).alloc (Nat.le_refl _) _)) (own2_at (by simp))).mono ?_; rintro e w4 ⟨rfl, hb4⟩
       have hb34 : Below w3.heap.size w3 w4 := (((Below.refl _ w3).alloc (Nat.le_refl _) _).alloc (by simp) _).trans (hb4.mono (by simp; omega))
       have hx4 := hx3.after hb34
       have hi4 := ints_crs hx4
       obtain ⟨f0, f1, _, _⟩ := F3.after hb34
       obtain ⟨c0, c1, _, _⟩ := C3.after hb34
       have hbw4 := hbw3.trans (hb34.mono hbw3.size)
       have g14 := Nat.lt_of_lt_of_le g13 hb34.size
       have g24 := Nat.lt_of_lt_of_le g23 hb34.size
       clear hb4 hb34 q4 F3 C3 hx3 hbw3))
  rw [xLk.out, xAk.out, xRk.out] at hi4
  have g1a : w1.heap.size < w4.heap.size + 1 := by omega
  have g1b : w1.heap.size < w4.heap.size + 1 + 1 := by omega
  have g2a : w2.heap.size < w4.heap.size + 1 := by omega
  have g2b : w2.heap.size < w4.heap.size + 1 + 1 := by omega
  have l1 : (List.range 2).map (curA 2 0) = [-1, 0] := by decide
  have l2 : (List.range 2).map (curR 0) = [1, 1] := by decide
  rw [l1, l2] at hi4
  obtain ⟨hiA, hiR⟩ := hi4
  unfold Crs.sa at hiA
  unfold Crs.sr at hiR
  refine Calls.mono (ints_any (za := [-1, 0]) (zb := [-1, 0]) (intsO_below hiA ?_) (ints_lit2 (own2_at ?_)) (by decide)) ?_
  · exact (((Below.refl _ _).alloc (Nat.le_refl _) _).alloc (by simp) _).alloc (by simp; omega) _
  · simp
  rintro e w5 ⟨rfl, n5, rfl⟩
  rw [show decide (([-1, 0] : List Int) = [-1, 0]) = true from by decide]
  go_wp2_with (fail)
  refine Calls.mono (ints_any (za := [1, 1]) (zb := [1, 1]) (intsO_below hiR ?_) (ints_lit2 (own2_at ?_)) (by decide)) ?_
  · exact (below_drewN ((((Below.refl _ _).alloc (Nat.le_refl _) _).alloc (by simp) _).alloc (by simp; omega) _) n5).alloc (by simp; omega) _
  · simp
  rintro e w6 ⟨rfl, n6, rfl⟩
  rw [show decide (([1, 1] : List Int) = [1, 1]) = true from by decide]
  go_wp2_with (fail)
  go_ret
  refine ⟨rfl, ?_⟩
  have hs := hbw4.size
  exact below_drewN ((below_drewN (((hbw4.alloc hs _).alloc (by simp; omega) _).alloc (by simp; omega) _) n5).alloc (by simp; omega) _) n6
end Go.Proofs.Ytbmfipjnfbnjgaa
