import Derived.Test.YtbmfipjnfbnjgaaPlanNo
import Derived.Test.YtbmfipjnfbnjgaaArgW
set_option linter.unusedSimpArgs false
set_option linter.unusedVariables false
namespace Go.Proofs.Ytbmfipjnfbnjgaa
open Go Go.Proofs Go.RowKit Go.Sample Go.Seq
theorem plan_ex (N good bad a1 b1 a2 b2 : Nat) : ∃ rn rc re, PlanIs N good bad a1 b1 a2 b2 rn rc re := by
  have key : ∀ n, 1 ≤ n → n ≤ N + 1 → Before N good bad a1 b1 a2 b2 n 0 ∨ ∃ rn rc re, PlanIs N good bad a1 b1 a2 b2 rn rc re := by
    intro n h1 h2
    induction n with
    | zero => omega
    | succ n ih =>
      by_cases hn : n = 0
      · subst hn; exact .inl (fun n' c' h1 h2 h3 => by omega)
      · rcases ih (by omega) (by omega) with hb | h
        · have key2 : ∀ c, c ≤ n → Before N good bad a1 b1 a2 b2 n c ∨ ∃ rn rc re, PlanIs N good bad a1 b1 a2 b2 rn rc re := by
            intro c hc
            induction c with
            | zero => exact .inl hb
            | succ c ihc =>
              rcases ihc (by omega) with hb2 | h
              · by_cases he : Enuf N good bad a1 b1 a2 b2 n c
                · exact .inr ⟨n, c, 0, .found (by omega) (by omega) (by omega) he hb2⟩
                · exact .inl (hb2.next he)
              · exact .inr h
          rcases key2 n (Nat.le_refl _) with hb2 | h
          · exact .inl hb2.row
          · exact .inr h
        · exact .inr h
  rcases key (N + 1) (by omega) (Nat.le_refl _) with h | h
  · exact ⟨0, 0, 6, .none h⟩
  · exact h
structure PlQ (w : World) (a1 b1 a2 b2 : Int) (W : World) : Prop where
  o : Own2 W (w.heap.size + 1) (.int .i64 a1) (.int .i64 b1)
  p : Own2 W (w.heap.size + 1 + 1) (.int .i64 a2) (.int .i64 b2)
  bw : Below w.heap.size w W
theorem PlQ.after {w W W' : World} {a1 b1 a2 b2 : Int} (h : PlQ w a1 b1 a2 b2 W) (hb : Below W.heap.size W W') : PlQ w a1 b1 a2 b2 W' := ⟨h.o.after hb, h.p.after hb, h.bw.trans (hb.mono h.bw.size)⟩
theorem PlQ.new (w : World) (x : Array Value) (t : Nat) (a1 b1 a2 b2 : Int) (n : Nat) : PlQ w a1 b1 a2 b2 ((((w.alloc (.cells x t)).alloc (.cells #[.int .i64 a1, .int .i64 b1] 27)).alloc (.cells #[.int .i64 a2, .int .i64 b2] 27)).drewN n) := by
  have hb1 : Below w.heap.size w (w.alloc (.cells x t)) := (Below.refl _ _).alloc (Nat.le_refl _) _
  have h1 := Own2.new (w.alloc (.cells x t)) (.int .i64 a1) (.int .i64 b1) 27
  rw [World.size_alloc] at h1
  have hb2 : Below (w.heap.size + 1) (w.alloc (.cells x t)) ((w.alloc (.cells x t)).alloc (.cells #[.int .i64 a1, .int .i64 b1] 27)) := (Below.refl _ _).alloc (by simp) _
  generalize hv : (w.alloc (.cells x t)).alloc (.cells #[.int .i64 a1, .int .i64 b1] 27) = v at *
  have sv : v.heap.size = w.heap.size + 1 + 1 := by rw [← hv]; simp
  have h2 := Own2.new v (.int .i64 a2) (.int .i64 b2) 27
  have hb3 : Below v.heap.size v (v.alloc (.cells #[.int .i64 a2, .int .i64 b2] 27)) := (Below.refl _ _).alloc (Nat.le_refl _) _
  have h1' := h1.after hb3
  rw [sv] at h2
  have hbw : Below w.heap.size w (v.alloc (.cells #[.int .i64 a2, .int .i64 b2] 27)) := (hb1.trans (hb2.mono (by omega))).trans (hb3.mono (by omega))
  exact ⟨h1'.after (below_drewN (Below.refl _ _) n), h2.after (below_drewN (Below.refl _ _) n), below_drewN hbw n⟩
set_option maxHeartbeats 1000000 in
set_option maxRecDepth 100000 in
theorem plans_no {N good bad a1 b1 a2 b2 : Int} (hzb : In64 bad) (hzg : In64 good) (hn1 : In64 a1) (hd1 : In64 b1) (hn2 : In64 a2) (hd2 : In64 b2) (hno : ¬ (LotOk N good ∧ LotOk N bad ∧ ShareOk a1 b1 ∧ ShareOk a2 b2)) (w : World) :
    Calls Try.prog 6 #[.agg #[.int .i64 N, .int .i64 good, .int .i64 bad], fracV a1 b1, fracV a2 b2] w fun e w' => e = .returned (.bool true) ∧ Below w.heap.size w w' := by
  have q1 := fun w => plan_none hzb hzg hn1 hd1 hn2 hd2 hno w
  have q2 := fun w => lot_any (N := N) (z := good) w
  have q3 := fun w => lot_any (N := N) (z := bad) w
  have q4 := fun w => refShare_any (n := a1) (d := b1) w
  have q5 := fun w => refShare_any (n := a2) (d := b2) w
  obtain ⟨L1, hL1⟩ : ∃ L1, Keep (decide (1 ≤ N ∧ N ≤ 36 ∧ 0 ≤ good ∧ good ≤ N) = L1) := ⟨_, ⟨rfl⟩⟩
  obtain ⟨L2, hL2⟩ : ∃ L2, Keep (decide (1 ≤ N ∧ N ≤ 36 ∧ 0 ≤ bad ∧ bad ≤ N) = L2) := ⟨_, ⟨rfl⟩⟩
  obtain ⟨S1, hS1⟩ : ∃ S1, Keep (decide (ShareOk a1 b1) = S1) := ⟨_, ⟨rfl⟩⟩
  obtain ⟨S2, hS2⟩ : ∃ S2, Keep (decide (ShareOk a2 b2) = S2) := ⟨_, ⟨rfl⟩⟩
  have hall : ¬ (L1 = true ∧ L2 = true ∧ S1 = true ∧ S2 = true) := by
    rintro ⟨h1, h2, h3, h4⟩
    have e1 := of_decide_eq_true (hL1.out.trans h1)
    have e2 := of_decide_eq_true (hL2.out.trans h2)
    exact hno ⟨e1, e2, of_decide_eq_true (hS1.out.trans h3), of_decide_eq_true (hS2.out.trans h4)⟩
  simp only [hL1.out] at q2
  simp only [hL2.out] at q3
  simp only [hS1.out] at q4
  simp only [hS2.out] at q5
  clear hL1 hL2 hS1 hS2 hno hzb hzg hn1 hd1 hn2 hd2
  unfold fracV at *
  go_enter Try.func6, Try.ntmps6
  go_wp2
  go_quiet (fail)
  have hQ := PlQ.new w #[.int .i64 N, .int .i64 good, .int .i64 bad] 61 a1 b1 a2 b2 nq
  generalize (((w.alloc (.cells #[.int .i64 N, .int .i64 good, .int .i64 bad] 61)).alloc (.cells #[.int .i64 a1, .int .i64 b1] 27)).alloc (.cells #[.int .i64 a2, .int .i64 b2] 27)).drewN nq = wq at *
  obtain ⟨⟨o0, o1, o2, o3⟩, ⟨p0, p1, p2, p3⟩, _⟩ := id hQ
  cases L1 with
  | false =>
    go_wp2_with (first
      | (go_at_call 37; (with_reducible refine (q1 _).mono ?_); rintro e w1 ⟨rfl, hb1⟩; have hQ := hQ.after hb1; obtain ⟨⟨o0, o1, o2, o3⟩, ⟨p0, p1, p2, p3⟩, _⟩ := id hQ; clear hb1)
      | (go_at_call 19; (with_reducible refine (q2 _).mono ?_); rintro e w2 ⟨rfl, rfl⟩)
      | (go_at_call 19; (with_reducible refine (q3 _).mono ?_); rintro e w3 ⟨rfl, rfl⟩)
      | (go_at_call 38; (with_reducible refine (q4 _).mono ?_); rintro e w4 ⟨rfl, hb1⟩; have hQ := hQ.after hb1; obtain ⟨⟨o0, o1, o2, o3⟩, ⟨p0, p1, p2, p3⟩, _⟩ := id hQ; clear hb1)
      | (go_at_call 38; (with_reducible refine (q5 _).mono ?_); rintro e w5 ⟨rfl, hb1⟩; have hQ := hQ.after hb1; obtain ⟨⟨o0, o1, o2, o3⟩, ⟨p0, p1, p2, p3⟩, _⟩ := id hQ; clear hb1)
      | (go_at_call 20; (with_reducible refine (awake_any _).mono ?_); rintro e w9 ⟨rfl, hb1⟩; have hQ := hQ.after hb1; obtain ⟨⟨o0, o1, o2, o3⟩, ⟨p0, p1, p2, p3⟩, _⟩ := id hQ; clear hb1))
    go_ret
    exact ⟨rfl, hQ.bw⟩
  | true =>
    cases L2 with
    | false =>
      go_wp2_with (first
        | (go_at_call 37; (with_reducible refine (q1 _).mono ?_); rintro e w1 ⟨rfl, hb1⟩; have hQ := hQ.after hb1; obtain ⟨⟨o0, o1, o2, o3⟩, ⟨p0, p1, p2, p3⟩, _⟩ := id hQ; clear hb1)
        | (go_at_call 19; (with_reducible refine (q2 _).mono ?_); rintro e w2 ⟨rfl, rfl⟩)
        | (go_at_call 19; (with_reducible refine (q3 _).mono ?_); rintro e w3 ⟨rfl, rfl⟩)
        | (go_at_call 38; (with_reducible refine (q4 _).mono ?_); rintro e w4 ⟨rfl, hb1⟩; have hQ := hQ.after hb1; obtain ⟨⟨o0, o1, o2, o3⟩, ⟨p0, p1, p2, p3⟩, _⟩ := id hQ; clear hb1)
        | (go_at_call 38; (with_reducible refine (q5 _).mono ?_); rintro e w5 ⟨rfl, hb1⟩; have hQ := hQ.after hb1; obtain ⟨⟨o0, o1, o2, o3⟩, ⟨p0, p1, p2, p3⟩, _⟩ := id hQ; clear hb1)
        | (go_at_call 20; (with_reducible refine (awake_any _).mono ?_); rintro e w9 ⟨rfl, hb1⟩; have hQ := hQ.after hb1; obtain ⟨⟨o0, o1, o2, o3⟩, ⟨p0, p1, p2, p3⟩, _⟩ := id hQ; clear hb1))
      go_ret
      exact ⟨rfl, hQ.bw⟩
    | true =>
      cases S1 with
      | false =>
        go_wp2_with (first
          | (go_at_call 37; (with_reducible refine (q1 _).mono ?_); rintro e w1 ⟨rfl, hb1⟩; have hQ := hQ.after hb1; obtain ⟨⟨o0, o1, o2, o3⟩, ⟨p0, p1, p2, p3⟩, _⟩ := id hQ; clear hb1)
          | (go_at_call 19; (with_reducible refine (q2 _).mono ?_); rintro e w2 ⟨rfl, rfl⟩)
          | (go_at_call 19; (with_reducible refine (q3 _).mono ?_); rintro e w3 ⟨rfl, rfl⟩)
          | (go_at_call 38; (with_reducible refine (q4 _).mono ?_); rintro e w4 ⟨rfl, hb1⟩; have hQ := hQ.after hb1; obtain ⟨⟨o0, o1, o2, o3⟩, ⟨p0, p1, p2, p3⟩, _⟩ := id hQ; clear hb1)
          | (go_at_call 38; (with_reducible refine (q5 _).mono ?_); rintro e w5 ⟨rfl, hb1⟩; have hQ := hQ.after hb1; obtain ⟨⟨o0, o1, o2, o3⟩, ⟨p0, p1, p2, p3⟩, _⟩ := id hQ; clear hb1)
          | (go_at_call 20; (with_reducible refine (awake_any _).mono ?_); rintro e w9 ⟨rfl, hb1⟩; have hQ := hQ.after hb1; obtain ⟨⟨o0, o1, o2, o3⟩, ⟨p0, p1, p2, p3⟩, _⟩ := id hQ; clear hb1))
        go_ret
        exact ⟨rfl, hQ.bw⟩
      | true =>
        cases S2 with
        | false =>
          go_wp2_with (first
            | (go_at_call 37; (with_reducible refine (q1 _).mono ?_); rintro e w1 ⟨rfl, hb1⟩; have hQ := hQ.after hb1; obtain ⟨⟨o0, o1, o2, o3⟩, ⟨p0, p1, p2, p3⟩, _⟩ := id hQ; clear hb1)
            | (go_at_call 19; (with_reducible refine (q2 _).mono ?_); rintro e w2 ⟨rfl, rfl⟩)
            | (go_at_call 19; (with_reducible refine (q3 _).mono ?_); rintro e w3 ⟨rfl, rfl⟩)
            | (go_at_call 38; (with_reducible refine (q4 _).mono ?_); rintro e w4 ⟨rfl, hb1⟩; have hQ := hQ.after hb1; obtain ⟨⟨o0, o1, o2, o3⟩, ⟨p0, p1, p2, p3⟩, _⟩ := id hQ; clear hb1)
            | (go_at_call 38; (with_reducible refine (q5 _).mono ?_); rintro e w5 ⟨rfl, hb1⟩; have hQ := hQ.after hb1; obtain ⟨⟨o0, o1, o2, o3⟩, ⟨p0, p1, p2, p3⟩, _⟩ := id hQ; clear hb1)
            | (go_at_call 20; (with_reducible refine (awake_any _).mono ?_); rintro e w9 ⟨rfl, hb1⟩; have hQ := hQ.after hb1; obtain ⟨⟨o0, o1, o2, o3⟩, ⟨p0, p1, p2, p3⟩, _⟩ := id hQ; clear hb1))
          go_ret
          exact ⟨rfl, hQ.bw⟩
        | true => exact absurd ⟨rfl, rfl, rfl, rfl⟩ hall
set_option maxHeartbeats 2000000 in
set_option maxRecDepth 100000 in
theorem plans_yes {N good bad a1 b1 a2 b2 : Nat} (h1 : 1 ≤ N) (h36 : N ≤ 36) (hg : good ≤ N) (hb : bad ≤ N) (hs1 : ShareOk a1 b1) (hs2 : ShareOk a2 b2) (w : World) :
    Calls Try.prog 6 #[.agg #[.int .i64 N, .int .i64 good, .int .i64 bad], fracV a1 b1, fracV a2 b2] w fun e w' => e = .returned (.bool true) ∧ Below w.heap.size w w' := by
  obtain ⟨rn, rc, re, hres⟩ := plan_ex N good bad a1 b1 a2 b2
  have q1 := fun w => plan_any h1 h36 hg hb hs1 hs2 hres w
  have q2 := fun w => lot_any (N := (N : Int)) (z := (good : Int)) w
  have q3 := fun w => lot_any (N := (N : Int)) (z := (bad : Int)) w
  have q4 := fun w => refShare_any (n := (a1 : Int)) (d := (b1 : Int)) w
  have q5 := fun w => refShare_any (n := (a2 : Int)) (d := (b2 : Int)) w
  have d1 : decide ((1 : Int) ≤ (N : Int) ∧ (N : Int) ≤ 36 ∧ 0 ≤ (good : Int) ∧ (good : Int) ≤ (N : Int)) = true := decide_eq_true (by omega)
  have d2 : decide ((1 : Int) ≤ (N : Int) ∧ (N : Int) ≤ 36 ∧ 0 ≤ (bad : Int) ∧ (bad : Int) ≤ (N : Int)) = true := decide_eq_true (by omega)
  have d3 : decide (ShareOk (a1 : Int) (b1 : Int)) = true := decide_eq_true hs1
  have d4 : decide (ShareOk (a2 : Int) (b2 : Int)) = true := decide_eq_true hs2
  simp only [d1] at q2
  simp only [d2] at q3
  simp only [d3] at q4
  simp only [d4] at q5
  clear d1 d2 d3 d4
  unfold fracV at *
  go_enter Try.func6, Try.ntmps6
  go_wp2
  go_quiet (fail)
  have hQ := PlQ.new w #[.int .i64 N, .int .i64 good, .int .i64 bad] 61 a1 b1 a2 b2 nq
  generalize (((w.alloc (.cells #[.int .i64 N, .int .i64 good, .int .i64 bad] 61)).alloc (.cells #[.int .i64 a1, .int .i64 b1] 27)).alloc (.cells #[.int .i64 a2, .int .i64 b2] 27)).drewN nq = wq at *
  obtain ⟨⟨o0, o1, o2, o3⟩, ⟨p0, p1, p2, p3⟩, _⟩ := id hQ
  go_wp2_with (first
    | (go_at_call 37; (with_reducible refine (q1 _).mono ?_); rintro e w1 ⟨rfl, hb1⟩; have hQ := hQ.after hb1; obtain ⟨⟨o0, o1, o2, o3⟩, ⟨p0, p1, p2, p3⟩, _⟩ := id hQ; clear hb1)
    | (go_at_call 19; (with_reducible refine (q2 _).mono ?_); rintro e w2 ⟨rfl, rfl⟩)
    | (go_at_call 19; (with_reducible refine (q3 _).mono ?_); rintro e w3 ⟨rfl, rfl⟩)
    | (go_at_call 38; (with_reducible refine (q4 _).mono ?_); rintro e w4 ⟨rfl, hb1⟩; have hQ := hQ.after hb1; obtain ⟨⟨o0, o1, o2, o3⟩, ⟨p0, p1, p2, p3⟩, _⟩ := id hQ; clear hb1)
    | (go_at_call 38; (with_reducible refine (q5 _).mono ?_); rintro e w5 ⟨rfl, hb1⟩; have hQ := hQ.after hb1; obtain ⟨⟨o0, o1, o2, o3⟩, ⟨p0, p1, p2, p3⟩, _⟩ := id hQ; clear hb1)
    | (go_at_call 20; (with_reducible refine (awake_any _).mono ?_); rintro e w9 ⟨rfl, hb1⟩; have hQ := hQ.after hb1; obtain ⟨⟨o0, o1, o2, o3⟩, ⟨p0, p1, p2, p3⟩, _⟩ := id hQ; clear hb1))
  have hresk := Keep.mk hres
  clear hres q1 q2 q3 q4 q5 o0 o1 o2 o3 p0 p1 p2 p3
  go_loopw [13] (fun t wr => ∃ n : Nat, 1 ≤ n ∧ n ≤ N + 1 ∧ t = .int .i64 n ∧ Keep (Before N good bad a1 b1 a2 b2 n 0) ∧ PlQ w a1 b1 a2 b2 wr) (fun t _ => N + 1 - (intOf t).toNat)
  case atStart => exact ⟨1, by omega, by omega, rfl, ⟨fun n' c' h1 h2 h3 => by omega⟩, hQ⟩
  case round =>
    obtain ⟨n, hn1, hn2, rfl, hbef, hR⟩ := hrel
    by_cases hnN : n ≤ N
    · have hnN' : (n : Int) ≤ (N : Int) := by omega
      go_wp2
      go_loopw [14] (fun t wr => ∃ c : Nat, c ≤ n ∧ t = .int .i64 c ∧ Keep (Before N good bad a1 b1 a2 b2 n c) ∧ PlQ w a1 b1 a2 b2 wr) (fun t _ => n - (intOf t).toNat)
      case atStart => exact ⟨0, by omega, rfl, hbef, hR⟩
      case round =>
        obtain ⟨c, hc, rfl, hbef2, hR2⟩ := hrel
        by_cases hcn : c < n
        · have hcn' : (c : Int) < (n : Int) := by omega
          obtain ⟨E, hE⟩ : ∃ E : Bool, Keep (E = true ↔ Enuf N good bad a1 b1 a2 b2 n c) := by
            by_cases h : Enuf N good bad a1 b1 a2 b2 n c
            · exact ⟨true, ⟨by simp [h]⟩⟩
            · exact ⟨false, ⟨by simp [h]⟩⟩
          have q6 := fun w => enough_any h36 hg hb hs1 hs2 hcn hnN hE.out w
          unfold fracV at q6
          obtain ⟨⟨o0, o1, o2, o3⟩, ⟨p0, p1, p2, p3⟩, _⟩ := id hR2
          have hQ := hR2
          cases E with
          | true =>
            have hfin := hresk.out.eq_found hn1 hnN hcn (hE.out.1 rfl) hbef2.out
            obtain ⟨rfl, rfl, rfl⟩ := hfin
            go_wp2_with (first
              | (go_at_call 39; (with_reducible refine (q6 _).mono ?_); rintro e w6 ⟨rfl, hb1⟩; have hQ := hQ.after hb1; obtain ⟨⟨o0, o1, o2, o3⟩, ⟨p0, p1, p2, p3⟩, _⟩ := id hQ; clear hb1)
              | (go_at_call 20; (with_reducible refine (awake_any _).mono ?_); rintro e w9 ⟨rfl, hb1⟩; have hQ := hQ.after hb1; obtain ⟨⟨o0, o1, o2, o3⟩, ⟨p0, p1, p2, p3⟩, _⟩ := id hQ; clear hb1))
            go_ret
            exact ⟨rfl, hQ.bw⟩
          | false =>
            have hno : Keep (¬ Enuf N good bad a1 b1 a2 b2 n c) := ⟨fun h => by have h2 := hE.out.2 h; cases h2⟩
            go_wp2_with ((go_at_call 39; (with_reducible refine (q6 _).mono ?_); rintro e w6 ⟨rfl, hb1⟩; have hQ := hQ.after hb1; obtain ⟨⟨o0, o1, o2, o3⟩, ⟨p0, p1, p2, p3⟩, _⟩ := id hQ; clear hb1))
            exact ⟨⟨c + 1, by omega, by go_num, ⟨hbef2.out.next hno.out⟩, hQ⟩, by simp [intOf]; omega⟩
        · obtain rfl : c = n := by omega
          go_wp2
          exact ⟨⟨c + 1, by omega, by omega, by go_num, ⟨hbef2.out.row⟩, hR2⟩, by simp [intOf]; omega⟩
    · obtain rfl : n = N + 1 := by omega
      have hnN' : ¬ ((N + 1 : Nat) : Int) ≤ (N : Int) := by omega
      have hfin := hresk.out.eq_none hbef.out
      obtain ⟨rfl, rfl, rfl⟩ := hfin
      have hQ := hR
      obtain ⟨⟨o0, o1, o2, o3⟩, ⟨p0, p1, p2, p3⟩, _⟩ := id hQ
      go_wp2_with ((go_at_call 20; (with_reducible refine (awake_any _).mono ?_); rintro e w9 ⟨rfl, hb1⟩; have hQ := hQ.after hb1; obtain ⟨⟨o0, o1, o2, o3⟩, ⟨p0, p1, p2, p3⟩, _⟩ := id hQ; clear hb1))
      go_ret
      exact ⟨rfl, hQ.bw⟩
theorem plans_all {N good bad a1 b1 a2 b2 : Int} (hzb : In64 bad) (hzg : In64 good) (hn1 : In64 a1) (hd1 : In64 b1) (hn2 : In64 a2) (hd2 : In64 b2) (w : World) :
    Calls Try.prog 6 #[.agg #[.int .i64 N, .int .i64 good, .int .i64 bad], fracV a1 b1, fracV a2 b2] w fun e w' => e = .returned (.bool true) ∧ Below w.heap.size w w' := by
  by_cases h : LotOk N good ∧ LotOk N bad ∧ ShareOk a1 b1 ∧ ShareOk a2 b2
  · obtain ⟨⟨k1, k2, k3, k4⟩, ⟨k5, k6, k7, k8⟩, hs1, hs2⟩ := h
    have m1 := hs1.1
    have m2 := hs1.2.2.1
    have m3 := hs2.1
    have m4 := hs2.2.2.1
    obtain ⟨N', rfl⟩ : ∃ k : Nat, N = (k : Int) := ⟨N.toNat, by omega⟩
    obtain ⟨g', rfl⟩ : ∃ k : Nat, good = (k : Int) := ⟨good.toNat, by omega⟩
    obtain ⟨b', rfl⟩ : ∃ k : Nat, bad = (k : Int) := ⟨bad.toNat, by omega⟩
    obtain ⟨a1', rfl⟩ : ∃ k : Nat, a1 = (k : Int) := ⟨a1.toNat, by omega⟩
    obtain ⟨b1', rfl⟩ : ∃ k : Nat, b1 = (k : Int) := ⟨b1.toNat, by omega⟩
    obtain ⟨a2', rfl⟩ : ∃ k : Nat, a2 = (k : Int) := ⟨a2.toNat, by omega⟩
    obtain ⟨b2', rfl⟩ : ∃ k : Nat, b2 = (k : Int) := ⟨b2.toNat, by omega⟩
    exact plans_yes (by omega) (by omega) (by omega) (by omega) hs1 hs2 w
  · exact plans_no hzb hzg hn1 hd1 hn2 hd2 h w
end Go.Proofs.Ytbmfipjnfbnjgaa
