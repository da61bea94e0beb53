import Derived.Test.YtbmfipjnfbnjgaaChance
set_option linter.unusedSimpArgs false
set_option linter.unusedVariables false
namespace Go.Proofs.Ytbmfipjnfbnjgaa
open Go Go.Proofs Go.RowKit Go.Sample
/-- A lot and a single plan for it. -/
def PlanOk (N n c : Int) : Prop := 1 ≤ N ∧ N ≤ 36 ∧ 0 ≤ c ∧ c < n ∧ n ≤ N
theorem readSingle_bad {N n c : Int} (hno : ¬ PlanOk N n c) (w : World) :
    Calls Try.prog 53 #[.int .i64 N, .int .i64 n, .int .i64 c] w fun e w' => e = .returned (.tuple #[.pointer none, planV 0 0, .bool false]) ∧ Below w.heap.size w w' := by
  by_cases h : N < 1 ∨ 36 < N
  · exact readSingle_lot h w
  · obtain ⟨k, rfl⟩ : ∃ k : Nat, N = (k : Int) := ⟨N.toNat, by omega⟩
    exact readSingle_no (by omega) (by omega) (fun e => hno ⟨by omega, by omega, e.1, e.2.1, e.2.2⟩) w
set_option maxRecDepth 100000 in
theorem single_no {N z n c : Int} (hno : ¬ PlanOk N n c) (w : World) :
    Calls Try.prog 18 #[.int .i64 N, .int .i64 z, .int .i64 n, .int .i64 c] w fun e w' => e = .returned (.tuple #[fracV 0 0, .int .i64 2]) ∧ Below w.heap.size w w' := by
  have hr := fun w => readSingle_bad hno w
  unfold planV at hr
  unfold fracV
  go_enter Try.func18, Try.ntmps18
  go_wp2_with (go_at_call 53; refine (hr _).mono ?_; rintro e w5 ⟨rfl, hb⟩
               obtain ⟨x0, x1, y0, y1⟩ := (Own2.new w (.int .i64 0) (.int .i64 0) 27).after hb
               have hs := (Own2.new w (.int .i64 0) (.int .i64 0) 27).after hb |>.lt
               have hb' : Below w.heap.size w w5 := ((Below.refl _ w).alloc (Nat.le_refl _) _).trans (hb.mono (by simp))
               clear hb)
  all_goals refine bodyPost_ret (v := .tuple #[.agg #[.int .i64 0, .int .i64 0], .int .i64 2]) (by simp [results, Try.results18, go_sem]; try go_simp) rfl ?_
  all_goals exact ⟨rfl, ((hb'.setCell (p := ⟨w.heap.size, 0, none⟩) (Nat.le_refl _) _).setCell (p := ⟨w.heap.size, 1, none⟩) (Nat.le_refl _) _).alloc (by simpa [World.setCell] using hb'.size) _⟩
set_option maxRecDepth 100000 in
theorem single_bad {N n c : Nat} {z : Int} (h1 : 1 ≤ N) (h2 : N ≤ 36) (hc : c < n) (hn : n ≤ N) (hz : In64 z) (hno : ¬ (0 ≤ z ∧ z ≤ (N : Int))) (w : World) :
    Calls Try.prog 18 #[.int .i64 N, .int .i64 z, .int .i64 n, .int .i64 c] w fun e w' => e = .returned (.tuple #[fracV 0 0, .int .i64 2]) ∧ Below w.heap.size w w' := by
  have hr := fun w => readSingle_any h1 h2 hc hn w
  have hh := fun W b (h : Pieces W b N) => has_any (z := z) h hz
  simp only [decide_eq_false hno] at hh
  unfold planV at hr
  unfold fracV
  go_enter Try.func18, Try.ntmps18
  go_wp2_with (first
    | (go_at_call 53; refine (hr _).mono ?_; rintro e w5 ⟨rfl, hb, hP⟩
       obtain ⟨x0, x1, y0, y1⟩ := (Own2.new w (.int .i64 0) (.int .i64 0) 27).after hb
       have hs := (Own2.new w (.int .i64 0) (.int .i64 0) 27).after hb |>.lt
       have hb' : Below w.heap.size w w5 := ((Below.refl _ w).alloc (Nat.le_refl _) _).trans (hb.mono (by simp))
       rw [World.size_alloc] at hP ⊢
       have hP6 := hP.below ((Below.refl _ w5).alloc (Nat.le_refl _) (.cells #[.int .i64 n, .int .i64 c] 96)) hP.lt
       clear hb)
    | (go_at_call 54; refine (hh _ _ hP6).mono ?_; rintro e w6 ⟨rfl, rfl⟩))
  all_goals refine bodyPost_ret (v := .tuple #[.agg #[.int .i64 0, .int .i64 0], .int .i64 2]) (by simp [results, Try.results18, go_sem]; try go_simp) rfl ?_
  all_goals exact ⟨rfl, ((hb'.setCell (p := ⟨w.heap.size, 0, none⟩) (Nat.le_refl _) _).setCell (p := ⟨w.heap.size, 1, none⟩) (Nat.le_refl _) _).alloc (by simpa [World.setCell] using hb'.size) _⟩
set_option maxRecDepth 100000 in
theorem single_any {N d n c : Nat} (h1 : 1 ≤ N) (h2 : N ≤ 36) (hc : c < n) (hn : n ≤ N) (hd : d ≤ N) (w : World) :
    Calls Try.prog 18 #[.int .i64 N, .int .i64 d, .int .i64 n, .int .i64 c] w fun e w' => e = .returned (.tuple #[redV (acc n (N - n) d (c + 1)) (ch N d), .int .i64 0]) ∧ Below w.heap.size w w' := by
  have hr := fun w => readSingle_any h1 h2 hc hn w
  have hh := fun W b (h : Pieces W b N) => has_any (z := (d : Int)) h ⟨by omega, by omega⟩
  simp only [show decide ((0 : Int) ≤ (d : Int) ∧ (d : Int) ≤ (N : Int)) = true from decide_eq_true (by omega)] at hh
  have hch := fun W b (h : Pieces W b N) => chance_any h hc hn hd
  obtain ⟨A, hA⟩ : ∃ A, Keep (acc n (N - n) d (c + 1) = A) := ⟨_, ⟨rfl⟩⟩
  obtain ⟨X, hX⟩ : ∃ X, Keep (ch N d = X) := ⟨_, ⟨rfl⟩⟩
  simp only [hA.out, hX.out] at hch
  rw [hA.out, hX.out]
  unfold planV at hr hch
  unfold redV fracV at *
  go_enter Try.func18, Try.ntmps18
  go_wp2_with (first
    | (go_at_call 53; refine (hr _).mono ?_; rintro e w5 ⟨rfl, hb, hP⟩
       obtain ⟨x0, x1, y0, y1⟩ := (Own2.new w (.int .i64 0) (.int .i64 0) 27).after hb
       have hO : Own2 w5 w.heap.size (.int .i64 0) (.int .i64 0) := ⟨x0, x1, y0, y1⟩
       have hs := hO.lt
       have hb' : Below w.heap.size w w5 := ((Below.refl _ w).alloc (Nat.le_refl _) _).trans (hb.mono (by simp))
       rw [World.size_alloc] at hP ⊢
       have hP6 := hP.below ((Below.refl _ w5).alloc (Nat.le_refl _) (.cells #[.int .i64 n, .int .i64 c] 96)) hP.lt
       have hO6 := hO.after ((Below.refl _ w5).alloc (Nat.le_refl _) (.cells #[.int .i64 n, .int .i64 c] 96))
       have hb6 := hb'.trans (((Below.refl _ w5).alloc (Nat.le_refl _) (.cells #[.int .i64 n, .int .i64 c] 96)).mono hb'.size)
       clear hb)
    | (go_at_call 54; refine (hh _ _ hP6).mono ?_; rintro e w6 ⟨rfl, rfl⟩)
    | (go_at_call 55; refine (hch _ _ hP6).mono ?_; rintro e w7 ⟨rfl, hb7⟩
       obtain ⟨x0, x1, y0, y1⟩ := hO6.after hb7
       have hbw7 := hb6.trans (hb7.mono hb6.size)
       clear hb7))
  all_goals refine bodyPost_ret (v := .tuple #[.agg #[.int .i64 (rN A X : Nat), .int .i64 (rD A X : Nat)], .int .i64 0]) (by simp [results, Try.results18, go_sem]; try go_simp) rfl ?_
  all_goals exact ⟨rfl, (hbw7.setCell (p := ⟨w.heap.size, 0, none⟩) (Nat.le_refl _) _).setCell (p := ⟨w.heap.size, 1, none⟩) (Nat.le_refl _) _⟩
end Go.Proofs.Ytbmfipjnfbnjgaa
