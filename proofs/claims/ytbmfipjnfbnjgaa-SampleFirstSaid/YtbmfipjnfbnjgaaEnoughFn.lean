import Derived.Test.YtbmfipjnfbnjgaaLawSingles
import Derived.Test.YtbmfipjnfbnjgaaPlanFn
set_option linter.unusedSimpArgs false
set_option linter.unusedVariables false
namespace Go.Proofs.Ytbmfipjnfbnjgaa
open Go Go.Proofs Go.RowKit Go.Sample Go.Seq
set_option maxHeartbeats 1000000 in
set_option maxRecDepth 100000 in
theorem refShare_any {n d : Int} (w : World) :
    Calls Try.prog 38 #[fracV n d] w fun e w' => e = .returned (.bool (decide (ShareOk n d))) ∧ Below w.heap.size w w' := by
  obtain ⟨D, hD⟩ : ∃ D, Keep (decide (ShareOk n d) = D) := ⟨_, ⟨rfl⟩⟩
  rw [hD.out]
  unfold fracV
  by_cases v3 : 1 ≤ d
  · by_cases v4 : d ≤ 1000
    · by_cases v1 : 0 ≤ n
      · by_cases v2 : n ≤ d
        · obtain ⟨a, rfl⟩ : ∃ a : Nat, n = (a : Int) := ⟨n.toNat, by omega⟩
          obtain ⟨b, rfl⟩ : ∃ b : Nat, d = (b : Int) := ⟨d.toNat, by omega⟩
          obtain ⟨G, hG⟩ : ∃ G, Keep (Nat.gcd a b = G) := ⟨_, ⟨rfl⟩⟩
          have hDG : Keep (((G : Int) == 1) = D) := ⟨by
            rw [← hD.out]
            have hdec : decide (ShareOk (a : Int) (b : Int)) = decide (G = 1) := by
              apply decide_eq_decide.2
              unfold ShareOk
              rw [← hG.out]
              exact ⟨fun h => h.2.2.2.2, fun h => ⟨v1, v2, v3, v4, h⟩⟩
            rw [hdec]
            by_cases h : G = 1
            · rw [decide_eq_true h, h]; rfl
            · rw [decide_eq_false h, beq_eq_false_iff_ne]; omega⟩
          have hq := fun w => refgcd_any a b (by omega) (by omega) w
          simp only [hG.out] at hq
          go_enter Try.func38, Try.ntmps38
          go_wp2_with (go_at_call 56; refine (hq _).mono ?_; rintro e w5 ⟨rfl, rfl⟩)
          go_ret
          exact ⟨by rw [← hDG.out]; rfl, (Below.refl _ _).alloc (Nat.le_refl _) _⟩
        · have hDf : Keep (D = false) := ⟨by rw [← hD.out]; exact decide_eq_false (fun h => v2 h.2.1)⟩
          go_enter Try.func38, Try.ntmps38
          go_wp2
          all_goals go_ret
          all_goals exact ⟨by rw [hDf.out]; rfl, (Below.refl _ _).alloc (Nat.le_refl _) _⟩
      · have hDf : Keep (D = false) := ⟨by rw [← hD.out]; exact decide_eq_false (fun h => v1 h.1)⟩
        go_enter Try.func38, Try.ntmps38
        go_wp2
        all_goals go_ret
        all_goals exact ⟨by rw [hDf.out]; rfl, (Below.refl _ _).alloc (Nat.le_refl _) _⟩
    · have hDf : Keep (D = false) := ⟨by rw [← hD.out]; exact decide_eq_false (fun h => v4 h.2.2.2.1)⟩
      go_enter Try.func38, Try.ntmps38
      go_wp2
      all_goals go_ret
      all_goals exact ⟨by rw [hDf.out]; rfl, (Below.refl _ _).alloc (Nat.le_refl _) _⟩
  · have hDf : Keep (D = false) := ⟨by rw [← hD.out]; exact decide_eq_false (fun h => v3 h.2.2.1)⟩
    go_enter Try.func38, Try.ntmps38
    go_wp2
    all_goals go_ret
    all_goals exact ⟨by rw [hDf.out]; rfl, (Below.refl _ _).alloc (Nat.le_refl _) _⟩
structure EnR (w : World) (a1 b1 a2 b2 : Int) (W : World) : Prop where
  o1 : Own2 W w.heap.size (.int .i64 a1) (.int .i64 b1)
  o2 : Own2 W (w.heap.size + 1) (.int .i64 a2) (.int .i64 b2)
  bw : Below w.heap.size w W
theorem EnR.drewN {w W : World} {a1 b1 a2 b2 : Int} (h : EnR w a1 b1 a2 b2 W) (n : Nat) : EnR w a1 b1 a2 b2 (W.drewN n) := ⟨⟨h.o1.c0, h.o1.c1, h.o1.f0, h.o1.f1⟩, ⟨h.o2.c0, h.o2.c1, h.o2.f0, h.o2.f1⟩, below_drewN h.bw n⟩
set_option maxHeartbeats 1000000 in
set_option maxRecDepth 100000 in
theorem enough_any {N good bad a1 b1 a2 b2 n c : Nat} (h36 : N ≤ 36) (hg : good ≤ N) (hb : bad ≤ N) (hs1 : ShareOk a1 b1) (hs2 : ShareOk a2 b2) (hcn : c < n) (hnN : n ≤ N) {E : Bool} (hE : E = true ↔ Enuf N good bad a1 b1 a2 b2 n c) (w : World) :
    Calls Try.prog 39 #[.int .i64 N, .int .i64 good, .int .i64 bad, fracV a1 b1, fracV a2 b2, .int .i64 n, .int .i64 c] w fun e w' => e = .returned (.bool E) ∧ Below w.heap.size w w' := by
  have A1 : (b1 : Int) ≤ 1000 := hs1.2.2.2.1
  have A2 : (b2 : Int) ≤ 1000 := hs2.2.2.2.1
  have A3 : (a1 : Int) ≤ (b1 : Int) := hs1.2.1
  have A4 : (a2 : Int) ≤ (b2 : Int) := hs2.2.1
  have qa := fun w => accepts_any h36 hnN (c := c) (by omega) hg w
  have qb := fun w => accepts_any h36 hnN (c := c) (by omega) hb w
  have qc := fun w => binom_any (n := N) (z := (good : Int)) h36 ⟨by omega, by omega⟩ w
  have qd := fun w => binom_any (n := N) (z := (bad : Int)) h36 ⟨by omega, by omega⟩ w
  simp only [chZ_nat] at qc qd
  have hX := acc_le n (N - n) bad (c + 1)
  have hY := acc_le n (N - n) good (c + 1)
  rw [show n + (N - n) = N by omega] at hX hY
  have p1 := ch_le h36 bad
  have p2 := ch_le h36 good
  have hmuch : Keep (Much N bad a2 b2 n c ↔ a2 * ch N bad < acc n (N - n) bad (c + 1) * b2) := ⟨Iff.rfl⟩
  have hfew : Keep (Fewer N good a1 b1 n c ↔ acc n (N - n) good (c + 1) * b1 < a1 * ch N good) := ⟨Iff.rfl⟩
  generalize acc n (N - n) bad (c + 1) = X at *
  generalize acc n (N - n) good (c + 1) = Y at *
  generalize ch N bad = D2 at *
  generalize ch N good = D1 at *
  have m1 : Y * b1 ≤ 9075135300 * 1000 := Nat.mul_le_mul (by omega) (by omega)
  have m2 : a1 * D1 ≤ 1000 * 9075135300 := Nat.mul_le_mul (by omega) (by omega)
  have m3 : X * b2 ≤ 9075135300 * 1000 := Nat.mul_le_mul (by omega) (by omega)
  have m4 : a2 * D2 ≤ 1000 * 9075135300 := Nat.mul_le_mul (by omega) (by omega)
  obtain ⟨P1, hP1⟩ : ∃ P1, Keep (Y * b1 = P1) := ⟨_, ⟨rfl⟩⟩
  obtain ⟨P2, hP2⟩ : ∃ P2, Keep (a1 * D1 = P2) := ⟨_, ⟨rfl⟩⟩
  obtain ⟨P3, hP3⟩ : ∃ P3, Keep (X * b2 = P3) := ⟨_, ⟨rfl⟩⟩
  obtain ⟨P4, hP4⟩ : ∃ P4, Keep (a2 * D2 = P4) := ⟨_, ⟨rfl⟩⟩
  rw [hP1.out] at m1 hfew
  rw [hP2.out] at m2 hfew
  rw [hP3.out] at m3 hmuch
  rw [hP4.out] at m4 hmuch
  have w1 : IntKind.i64.wrap ((Y : Int) * (b1 : Int)) = (P1 : Int) := by rw [← Int.natCast_mul, hP1.out, IntWalk.i64_in _ (by omega)]
  have w2 : IntKind.i64.wrap ((a1 : Int) * (D1 : Int)) = (P2 : Int) := by rw [← Int.natCast_mul, hP2.out, IntWalk.i64_in _ (by omega)]
  have w3 : IntKind.i64.wrap ((X : Int) * (b2 : Int)) = (P3 : Int) := by rw [← Int.natCast_mul, hP3.out, IntWalk.i64_in _ (by omega)]
  have w4 : IntKind.i64.wrap ((a2 : Int) * (D2 : Int)) = (P4 : Int) := by rw [← Int.natCast_mul, hP4.out, IntWalk.i64_in _ (by omega)]
  have hEk : Keep (E = true ↔ (P2 ≤ P1 ∧ P3 ≤ P4)) := ⟨by rw [hE]; unfold Enuf; rw [hmuch.out, hfew.out]; omega⟩
  clear hX hY p1 p2 m1 m2 m3 m4 A1 A2 A3 A4 hmuch hfew
  obtain ⟨w0, hw0⟩ : ∃ w0, (w.alloc (.cells #[.int .i64 a1, .int .i64 b1] 27)).alloc (.cells #[.int .i64 a2, .int .i64 b2] 27) = w0 := ⟨_, rfl⟩
  have hbw0 : Below w.heap.size w w0 := by rw [← hw0]; exact ((Below.refl _ w).alloc (Nat.le_refl _) _).alloc (by simp) _
  obtain ⟨u0, u1, u2, u3⟩ : Own2 w0 w.heap.size (.int .i64 a1) (.int .i64 b1) := by rw [← hw0]; exact (Own2.new w _ _ _).after ((Below.refl _ _).alloc (Nat.le_refl _) _)
  obtain ⟨v0, v1, v2, v3⟩ : Own2 w0 (w.heap.size + 1) (.int .i64 a2) (.int .i64 b2) := by
    rw [← hw0]; have := Own2.new (w.alloc (.cells #[.int .i64 a1, .int .i64 b1] 27)) (.int .i64 a2) (.int .i64 b2) 27; rwa [World.size_alloc] at this
  have qc2 : ∀ m, Calls Try.prog 21 #[.int .i64 N, .int .i64 good] (w0.drewN m) fun e w' => e = .returned (.int .i64 D1) ∧ ∃ m', w' = w0.drewN m' := fun m => (qc _).mono fun e w' h => ⟨h.1, m, h.2⟩
  have qd2 : ∀ m, Calls Try.prog 21 #[.int .i64 N, .int .i64 bad] (w0.drewN m) fun e w' => e = .returned (.int .i64 D2) ∧ ∃ m', w' = w0.drewN m' := fun m => (qd _).mono fun e w' h => ⟨h.1, m, h.2⟩
  unfold fracV
  by_cases hc1 : P2 ≤ P1
  · have k1 : (P2 : Int) ≤ (P1 : Int) := by omega
    have hE2 : Keep (decide (P3 ≤ P4) = E) := ⟨by
      by_cases h : P3 ≤ P4
      · rw [hEk.out.2 ⟨hc1, h⟩]; exact decide_eq_true h
      · have : ¬ E = true := fun e => h (hEk.out.1 e).2
        rw [show E = false by simpa using this]; exact decide_eq_false h⟩
    go_enter Try.func39, Try.ntmps39
    go_wp2_with (first
      | (go_at_call 24; with_reducible refine (qa _).mono ?_; rintro e w5 ⟨rfl, rfl⟩)
      | (go_at_call 24; with_reducible refine (qb _).mono ?_; rintro e w6 ⟨rfl, rfl⟩))
    go_quiet (first | (go_at_call 21; with_reducible exact qc2 _) | (go_at_call 21; with_reducible exact qd2 _))
    go_wp2
    go_ret
    exact ⟨congrArg (fun z => Ending.returned (Value.bool z)) hE2.out, below_drewN hbw0 _⟩
  · have k1 : ¬ (P2 : Int) ≤ (P1 : Int) := by omega
    have hE2 : Keep (E = false) := ⟨by
      have : ¬ E = true := fun e => hc1 (hEk.out.1 e).1
      simpa using this⟩
    go_enter Try.func39, Try.ntmps39
    go_wp2_with (first
      | (go_at_call 24; with_reducible refine (qa _).mono ?_; rintro e w5 ⟨rfl, rfl⟩)
      | (go_at_call 24; with_reducible refine (qb _).mono ?_; rintro e w6 ⟨rfl, rfl⟩))
    go_quiet (first | (go_at_call 21; with_reducible exact qc2 _) | (go_at_call 21; with_reducible exact qd2 _))
    go_wp2
    go_ret
    exact ⟨congrArg (fun z => Ending.returned (Value.bool z)) hE2.out.symm, below_drewN hbw0 _⟩
end Go.Proofs.Ytbmfipjnfbnjgaa
