import Derived.Test.YtbmfipjnfbnjgaaSingle2
import Derived.Test.YtbmfipjnfbnjgaaLeft
import Derived.Test.YtbmfipjnfbnjgaaLess
import Derived.Test.YtbmfipjnfbnjgaaPlanFn
import Derived.Test.YtbmfipjnfbnjgaaGrow
set_option linter.unusedSimpArgs false
set_option linter.unusedVariables false
namespace Go.Sample
/-- The greatest quotient lef / ch of the numbers of bad pieces below k, and the first number that has it. -/
def bestTo (N n c : Nat) : Nat → Nat
  | 0 => 0
  | k + 1 => let b := bestTo N n c k; if lef n (N - n) b (c + 1) * ch N k < lef n (N - n) k (c + 1) * ch N b then k else b
theorem bestTo_le (N n c : Nat) : ∀ k, bestTo N n c k ≤ k - 1 ∨ bestTo N n c k = 0
  | 0 => .inr rfl
  | k + 1 => by
    have h := bestTo_le N n c k
    simp only [bestTo]
    split
    · left; omega
    · rcases h with h | h
      · left; omega
      · right; exact h
theorem bestTo_bound (N n c : Nat) {k : Nat} (h : k ≤ N + 1) : bestTo N n c k ≤ N := by
  rcases bestTo_le N n c k with h' | h' <;> omega
end Go.Sample
namespace Go.Proofs.Ytbmfipjnfbnjgaa
open Go Go.Proofs Go.RowKit Go.Sample
set_option maxRecDepth 100000 in
theorem leftFn_no {N n c : Int} (hno : ¬ PlanOk N n c) (w : World) :
    Calls Try.prog 41 #[.int .i64 N, .int .i64 n, .int .i64 c] w fun e w' => e = .returned (.tuple #[fracV 0 0, .int .i64 0, .int .i64 2]) ∧ Below w.heap.size w w' := by
  have hr := fun w => readSingle_bad hno w
  unfold planV at hr
  unfold fracV
  go_enter Try.func41, Try.ntmps41
  go_wp2_with (go_at_call 53; refine (hr _).mono ?_; rintro e w5 ⟨rfl, hb⟩
               obtain ⟨x0, x1, y0, y1⟩ := (Own2.new w (.int .i64 0) (.int .i64 0) 27).after hb
               have hs := (Own2.new w (.int .i64 0) (.int .i64 0) 27).after hb |>.lt
               have hb' : Below w.heap.size w w5 := ((Below.refl _ w).alloc (Nat.le_refl _) _).trans (hb.mono (by simp))
               clear hb)
  all_goals refine bodyPost_ret (v := .tuple #[.agg #[.int .i64 0, .int .i64 0], .int .i64 0, .int .i64 2]) (by simp [results, Try.results41, go_sem]; try go_simp) rfl ?_
  all_goals exact ⟨rfl, ((hb'.setCell (p := ⟨w.heap.size, 0, none⟩) (Nat.le_refl _) _).setCell (p := ⟨w.heap.size, 1, none⟩) (Nat.le_refl _) _).alloc (by simpa [World.setCell] using hb'.size) _⟩
structure LfR (w : World) (N g1 g2 : Nat) (n c : Int) (f1 f2 : Int) (W : World) : Prop where
  P : Pieces W (w.heap.size + 1 + 1) N
  o : Own2 W w.heap.size (.int .i64 0) (.int .i64 0)
  p : Own2 W g1 (.int .i64 n) (.int .i64 c)
  f : Own2 W g2 (.int .i64 f1) (.int .i64 f2)
  bw : Below w.heap.size w W
theorem LfR.after {w W W' : World} {N g1 g2 : Nat} {n c f1 f2 : Int} (h : LfR w N g1 g2 n c f1 f2 W) (hb : Below W.heap.size W W') : LfR w N g1 g2 n c f1 f2 W' :=
  ⟨h.P.below hb h.P.lt, h.o.after hb, h.p.after hb, h.f.after hb, h.bw.trans (hb.mono h.bw.size)⟩
theorem less_red {A D X Y : Nat} (hD : 1 ≤ D) (hY : 1 ≤ Y) (h1 : A < 9223372036854775808) (h2 : D < 9223372036854775808) (h3 : X < 9223372036854775808) (h4 : Y < 9223372036854775808) (w : World) :
    Calls Try.prog 68 #[redV A D, redV X Y] w fun e w' => e = .returned (.bool (decide (A * Y < X * D))) ∧ Below w.heap.size w w' := by
  obtain ⟨z1, z2⟩ := red_le A D
  obtain ⟨z3, z4⟩ := red_le X Y
  have h := less_any (a := rN A D) (b := rD A D) (c := rN X Y) (d := rD X Y) (by omega) (by omega) (by omega) (by omega) w
  have e : decide (rN A D * rD X Y < rN X Y * rD A D) = decide (A * Y < X * D) := by
    apply decide_eq_decide.2
    rw [red_less_left (p := rN X Y) (q := rD X Y) hD]
    exact red_less_right hY
  rw [e] at h
  exact h
set_option maxHeartbeats 2000000 in
set_option maxRecDepth 100000 in
theorem leftFn_any {N n c : Nat} (h1 : 1 ≤ N) (h36 : N ≤ 36) (hcn : c < n) (hnN : n ≤ N) (w : World) :
    Calls Try.prog 41 #[.int .i64 N, .int .i64 n, .int .i64 c] w fun e w' => e = .returned (.tuple #[redV (lef n (N - n) (bestTo N n c (N + 1)) (c + 1)) (ch N (bestTo N n c (N + 1))), .int .i64 (bestTo N n c (N + 1) : Nat), .int .i64 0]) ∧ Below w.heap.size w w' := by
  have hr := fun w => readSingle_any h1 h36 hcn hnN w
  have hl := fun W (d : Nat) (hd : d ≤ N) (h : Pieces W (w.heap.size + 1 + 1) N) => left_any h hcn hnN hd
  have hlef : ∀ d, d ≤ N → lef n (N - n) d (c + 1) < 9223372036854775808 := fun d hd => by
    have h1 := lef_le n (N - n) d (c + 1)
    have h2 := acc_le n (N - n) d (c + 1)
    rw [show n + (N - n) = N by omega] at h2
    have h3 := ch_le h36 d
    have h4 : acc n (N - n) d (c + 1) * d ≤ 9075135300 * 36 := Nat.mul_le_mul (by omega) (by omega)
    omega
  have hlefk := Keep.mk hlef
  clear hlef
  unfold planV at hr hl
  have hO := Own2.new w (.int .i64 0) (.int .i64 0) 27
  go_enter Try.func41, Try.ntmps41
  go_wp2_with (first
    | (go_at_call 53; refine (hr _).mono ?_; rintro e w5 ⟨rfl, hb, hP⟩
       obtain ⟨x0, x1, y0, y1⟩ := hO.after hb
       have hO5 : Own2 w5 w.heap.size (.int .i64 0) (.int .i64 0) := ⟨x0, x1, y0, y1⟩
       have hb' : Below w.heap.size w w5 := ((Below.refl _ w).alloc (Nat.le_refl _) _).trans (hb.mono (by simp))
       rw [World.size_alloc] at hP ⊢
       clear hb hr hO)
    | (go_at_call 69; refine (hl _ 0 (by omega) (hP.below ((Below.refl _ w5).alloc (Nat.le_refl _) _) hP.lt)).mono ?_; rintro e w6 ⟨rfl, hb6⟩
       have hb56 : Below w5.heap.size w5 w6 := ((Below.refl _ w5).alloc (Nat.le_refl _) _).trans (hb6.mono (by simp))
       have hP6 := hP.below hb56 hP.lt
       have hO6 := hO5.after hb56
       have p6 := (Own2.new w5 (.int .i64 n) (.int .i64 c) 96).after hb6
       have hbw6 := hb'.trans (hb56.mono hb'.size)
       unfold redV fracV
       have c6 := hP6.tab.size
       have g56 := p6.lt
       have hPl := hP6.lt
       have g5 : w.heap.size + 1 + 1 < w5.heap.size := hP.lt
       clear hb6 hb56 hP hO5 hb'))
  obtain ⟨g1, hg1⟩ : ∃ g1, w5.heap.size = g1 := ⟨_, rfl⟩
  obtain ⟨g2, hg2⟩ : ∃ g2, w6.heap.size = g2 := ⟨_, rfl⟩
  have hLR : LfR w N g1 g2 n c (rN (lef n (N - n) 0 (c + 1)) (ch N 0) : Nat) (rD (lef n (N - n) 0 (c + 1)) (ch N 0) : Nat) (w6.alloc (.cells #[.int .i64 (rN (lef n (N - n) 0 (c + 1)) (ch N 0) : Nat), .int .i64 (rD (lef n (N - n) 0 (c + 1)) (ch N 0) : Nat)] 27)) := by
    have hb7 : Below w6.heap.size w6 (w6.alloc (.cells #[.int .i64 (rN (lef n (N - n) 0 (c + 1)) (ch N 0) : Nat), .int .i64 (rD (lef n (N - n) 0 (c + 1)) (ch N 0) : Nat)] 27)) := (Below.refl _ _).alloc (Nat.le_refl _) _
    exact ⟨hP6.below hb7 hP6.lt, hO6.after hb7, by rw [← hg1]; exact p6.after hb7, by rw [← hg2]; exact Own2.new _ _ _ _, hbw6.trans (hb7.mono hbw6.size)⟩
  have hg12 : Keep (w.heap.size + 1 + 1 < g1 ∧ g1 < g2) := ⟨by
    omega⟩
  rw [hg1, hg2]
  clear hg1 hg2 hP6 hO6 p6 hbw6 c6 g56 hPl g5
  go_loopw [13, 35] (fun t i wr => ∃ k : Nat, k ≤ N + 1 ∧ i = .int .i64 k ∧ t = .int .i64 (bestTo N n c k : Nat) ∧ LfR w N g1 g2 n c (rN (lef n (N - n) (bestTo N n c k) (c + 1)) (ch N (bestTo N n c k)) : Nat) (rD (lef n (N - n) (bestTo N n c k) (c + 1)) (ch N (bestTo N n c k)) : Nat) wr) (fun _ i _ => N + 1 - (intOf i).toNat)
  case atStart => exact ⟨0, by omega, rfl, rfl, by simpa [bestTo] using hLR⟩
  case round =>
    obtain ⟨k, hk, rfl, rfl, hR⟩ := hrel
    have hbb := bestTo_bound N n c hk
    have hstep : Keep (bestTo N n c (k + 1) = if lef n (N - n) (bestTo N n c k) (c + 1) * ch N k < lef n (N - n) k (c + 1) * ch N (bestTo N n c k) then k else bestTo N n c k) := ⟨rfl⟩
    obtain ⟨b, hb⟩ : ∃ b, Keep (bestTo N n c k = b) := ⟨_, ⟨rfl⟩⟩
    rw [hb.out] at hbb hstep hR ⊢
    by_cases hlt : k < N + 1
    · have hlt' : (k : Int) < (N : Int) + 1 := by omega
      have hkN : k ≤ N := by omega
      have p1 := ch_pos hbb
      have p2 := ch_pos hkN
      have q1 := ch_le h36 b
      have q2 := ch_le h36 k
      have l1 := hlefk.out b hbb
      have l2 := hlefk.out k hkN
      have hll := fun W (h : Pieces W (w.heap.size + 1 + 1) N) => hl W k hkN h
      obtain ⟨A, hA⟩ : ∃ A, Keep (lef n (N - n) b (c + 1) = A) := ⟨_, ⟨rfl⟩⟩
      obtain ⟨X, hX⟩ : ∃ X, Keep (lef n (N - n) k (c + 1) = X) := ⟨_, ⟨rfl⟩⟩
      obtain ⟨D, hD⟩ : ∃ D, Keep (ch N b = D) := ⟨_, ⟨rfl⟩⟩
      obtain ⟨Y, hY⟩ : ∃ Y, Keep (ch N k = Y) := ⟨_, ⟨rfl⟩⟩
      rw [hD.out] at p1 q1 hR hstep
      rw [hY.out] at p2 q2 hstep
      rw [hA.out] at l1 hR hstep
      rw [hX.out] at l2 hstep
      simp only [hX.out, hY.out] at hll
      have hls := fun W => less_red (A := A) (D := D) (X := X) (Y := Y) p1 p2 l1 (by omega) l2 (by omega) W
      unfold redV fracV at hll hls
      have c0 := hR.P.tab.size
      obtain ⟨x0, x1, x2, x3⟩ := hR.p
      obtain ⟨y0, y1, y2, y3⟩ := hR.f
      have hg2w : w.heap.size ≤ g2 := by have := hg12.out; omega
      clear p1 p2 q1 q2 l1 l2
      by_cases hless : A * Y < X * D
      · rw [if_pos hless] at hstep
        simp only [decide_eq_true hless] at hls
        clear hless
        go_wp2_with (first
          | (go_at_call 69; refine (hll _ hR.P).mono ?_; rintro e w7 ⟨rfl, hb7⟩
             have hR7 := hR.after hb7
             obtain ⟨x0, x1, x2, x3⟩ := hR7.p
             obtain ⟨y0, y1, y2, y3⟩ := hR7.f
             have g27 := hR7.f.lt
             have hR8 := hR7.after ((Below.refl _ w7).alloc (Nat.le_refl _) (.cells #[.int .i64 (rN X Y : Nat), .int .i64 (rD X Y : Nat)] 27))
             clear hb7 hll hR)
          | (go_at_call 68; refine (hls _).mono ?_; rintro e w8 ⟨rfl, hb8⟩
             have hR9 := hR8.after hb8
             obtain ⟨z0, z1, z2, z3⟩ := (Own2.new w7 (.int .i64 (rN X Y : Nat)) (.int .i64 (rD X Y : Nat)) 27).after hb8
             obtain ⟨y0, y1, y2, y3⟩ := hR9.f
             have g28 := hR9.f.lt
             clear hb8 hls hR8))
        refine ⟨⟨k + 1, by omega, by go_num, by rw [hstep.out], ?_⟩, by simp [intOf]; omega⟩
        rw [hstep.out, hX.out, hY.out]
        obtain ⟨a1, a2, a3, a4, a5⟩ := hR9
        have hpn := a3.lt
        have ne1 : g1 ≠ g2 := by have := hg12.out; omega
        have ne2 : w.heap.size ≠ g2 := by have := hg12.out; omega
        have ne3 : w.heap.size + 1 + 1 ≠ g2 := by have := hg12.out; omega
        have hO2 : Own2 w8 g2 (.int .i64 (rN A D : Nat)) (.int .i64 (rD A D : Nat)) := a4
        exact ⟨(a1.same (Below.heap_setCell w8 ⟨g2, 0, none⟩ _ _ ne3)).same (Below.heap_setCell _ ⟨g2, 1, none⟩ _ _ ne3), (a2.other ne2).other ne2, (a3.other ne1).other ne1, (hO2.set0).set1, (a5.setCell (p := ⟨g2, 0, none⟩) hg2w _).setCell (p := ⟨g2, 1, none⟩) hg2w _⟩
      · rw [if_neg hless] at hstep
        simp only [decide_eq_false hless] at hls
        clear hless
        go_wp2_with (first
          | (go_at_call 69; refine (hll _ hR.P).mono ?_; rintro e w7 ⟨rfl, hb7⟩
             have hR7 := hR.after hb7
             obtain ⟨x0, x1, x2, x3⟩ := hR7.p
             obtain ⟨y0, y1, y2, y3⟩ := hR7.f
             have g27 := hR7.f.lt
             have hR8 := hR7.after ((Below.refl _ w7).alloc (Nat.le_refl _) (.cells #[.int .i64 (rN X Y : Nat), .int .i64 (rD X Y : Nat)] 27))
             clear hb7 hll hR)
          | (go_at_call 68; refine (hls _).mono ?_; rintro e w8 ⟨rfl, hb8⟩
             have hR9 := hR8.after hb8
             clear hb8 hls hR8))
        refine ⟨⟨k + 1, by omega, by go_num, by rw [hstep.out], ?_⟩, by simp [intOf]; omega⟩
        rw [hstep.out, hA.out, hD.out]
        exact hR9
    · obtain rfl : k = N + 1 := by omega
      have hlt' : ¬ ((N + 1 : Nat) : Int) < (N : Int) + 1 := by omega
      obtain ⟨A, hA⟩ : ∃ A, Keep (lef n (N - n) b (c + 1) = A) := ⟨_, ⟨rfl⟩⟩
      obtain ⟨D, hD⟩ : ∃ D, Keep (ch N b = D) := ⟨_, ⟨rfl⟩⟩
      rw [hA.out, hD.out] at hR
      obtain ⟨hP, ⟨x0, x1, x2, x3⟩, _, ⟨y0, y1, y2, y3⟩, hbw⟩ := hR
      have c0 := hP.tab.size
      have ne2 : ¬ w.heap.size = g2 := by have := hg12.out; omega
      clear hstep hl hLR
      go_wp2
      refine bodyPost_ret (v := .tuple #[redV A D, .int .i64 b, .int .i64 0]) (by unfold redV fracV; simp [results, Try.results41, go_sem]; try go_simp) rfl ?_
      refine ⟨by rw [hb.out, hA.out, hD.out], ?_⟩
      exact (hbw.setCell (p := ⟨w.heap.size, 0, none⟩) (Nat.le_refl _) _).setCell (p := ⟨w.heap.size, 1, none⟩) (Nat.le_refl _) _
end Go.Proofs.Ytbmfipjnfbnjgaa
