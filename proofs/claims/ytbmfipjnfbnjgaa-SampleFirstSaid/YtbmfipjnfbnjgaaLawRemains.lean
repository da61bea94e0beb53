import Derived.Test.YtbmfipjnfbnjgaaRemMath
import Derived.Test.YtbmfipjnfbnjgaaLessRef
import Derived.Test.YtbmfipjnfbnjgaaValidFn
import Derived.Test.YtbmfipjnfbnjgaaLawSingles
import Derived.Test.YtbmfipjnfbnjgaaLawSure
import Derived.Test.YtbmfipjnfbnjgaaRef2
set_option linter.unusedSimpArgs false
set_option linter.unusedVariables false
namespace Go.Proofs.Ytbmfipjnfbnjgaa
open Go Go.Proofs Go.RowKit Go.Sample Go.Seq
structure RmR (w : World) (g : Nat) (a b : Nat) (W : World) : Prop where
  o : Own2 W g (.int .i64 a) (.int .i64 b)
  bw : Below w.heap.size w W
theorem RmR.after {w W W' : World} {g a b : Nat} (h : RmR w g a b W) (hb : Below W.heap.size W W') : RmR w g a b W' := ⟨h.o.after hb, h.bw.trans (hb.mono h.bw.size)⟩
theorem RmR.new {w W : World} (hb : Below w.heap.size w W) (a b : Nat) : RmR w W.heap.size a b (W.alloc (.cells #[.int .i64 a, .int .i64 b] 27)) := ⟨Own2.new _ _ _ _, hb.alloc hb.size _⟩
theorem refLess_red {a b c d : Nat} (ha : a < 4611686018427387904) (hb : b < 4611686018427387904) (hc : c < 4611686018427387904) (hd : d < 4611686018427387904) (hb1 : 1 ≤ b) (hd1 : 1 ≤ d) (h : c * b ≤ a * d) (w : World) :
    Calls Try.prog 46 #[redV a b, redV c d] w fun e w' => e = .returned (.bool false) ∧ Below w.heap.size w w' := by
  obtain ⟨z1, z2⟩ := red_le a b
  obtain ⟨z3, z4⟩ := red_le c d
  have hm1 := red_mul (a := a) hb1
  have hm2 := red_mul (a := c) hd1
  have h2 := refLess_any (a := rN a b) (b := rD a b) (c := rN c d) (d := rD c d) (by omega) (by omega) (by omega) (by omega) hm1.2.2.2 hm2.2.2.2 w
  have e : decide (rN a b * rD c d < rN c d * rD a b) = false := by
    apply decide_eq_false
    rw [red_less_left (p := rN c d) (q := rD c d) hb1, red_less_right hd1]
    omega
  rw [e] at h2
  exact h2
theorem lef_small {N n d : Nat} (h36 : N ≤ 36) (hn : n ≤ N) (hd : d ≤ N) (c : Nat) : lef n (N - n) d c ≤ 326704870800 := by
  have h1 := lef_le n (N - n) d c
  have h2 := acc_le n (N - n) d c
  rw [show n + (N - n) = N by omega] at h2
  have h3 := ch_le h36 d
  have h4 : acc n (N - n) d c * d ≤ 9075135300 * 36 := Nat.mul_le_mul (by omega) (by omega)
  omega
set_option maxHeartbeats 2000000 in
set_option maxRecDepth 100000 in
theorem remains_any (x y z bad : Int) (w : World) : Calls Try.prog 14 #[.agg #[.int .i64 x, .int .i64 y, .int .i64 z], .int .i64 bad] w fun e w' => e = .returned (.bool true) ∧ Below w.heap.size w w' := by
  obtain ⟨N, n, c, ⟨h1, h36, hcn, hnN⟩, hmk⟩ := mkSingle x y z
  have hk := modN_lt bad (m := N + 1) (by omega)
  have q48 := fun w => mod_any bad (m := N + 1) (by omega) (by omega) w
  obtain ⟨k, hkk⟩ : ∃ k, Keep (modN bad (N + 1) = k) := ⟨_, ⟨rfl⟩⟩
  simp only [hkk.out, Int.natCast_add, Int.cast_ofNat_Int] at q48
  rw [hkk.out] at hk
  have q41 := fun w => leftFn_any h1 h36 hcn hnN w
  have hb := bestTo_bound N n c (k := N + 1) (Nat.le_refl _)
  have hmax := best_max N n c (N + 1) (Nat.le_refl _) k hk
  have hfirst := best_first N n c (N + 1) (Nat.le_refl _) k
  obtain ⟨b, hbk⟩ : ∃ b, Keep (bestTo N n c (N + 1) = b) := ⟨_, ⟨rfl⟩⟩
  have hmore := Keep.mk (best_more N n c)
  simp only [hbk.out] at q41 hb hmax hfirst hmore
  have r45 := fun w => refLeft_any h36 hnN (c := c) (by omega) hb w
  have s45 := fun w => refLeft_any h36 hnN (c := c) (d := k) (by omega) (by omega) w
  have r21 := fun w => binom_any (n := N) (z := (b : Int)) h36 ⟨by omega, by omega⟩ w
  have s21 := fun w => binom_any (n := N) (z := (k : Int)) h36 ⟨by omega, by omega⟩ w
  simp only [chZ_nat] at r21 s21
  have hfull : Keep (n = N → lef n (N - n) b (c + 1) = 0) := ⟨by rintro rfl; rw [Nat.sub_self]; exact lef_full _ _ _⟩
  have l1 := lef_small h36 hnN hb (c + 1)
  have l2 := lef_small h36 hnN (d := k) (by omega) (c + 1)
  have d1 := ch_le h36 b
  have d2 := ch_le h36 k
  have p1 := ch_pos hb
  have p2 := ch_pos (show k ≤ N by omega)
  have hL3 : Keep (lef n (N - n) (bestTo N n (c + 1) (N + 1)) (c + 1 + 1) ≤ 326704870800) := ⟨lef_small h36 hnN (bestTo_bound N n (c + 1) (Nat.le_refl _)) _⟩
  have hD3 : Keep (ch N (bestTo N n (c + 1) (N + 1)) ≤ 9075135300 ∧ 1 ≤ ch N (bestTo N n (c + 1) (N + 1))) := ⟨ch_le h36 _, ch_pos (bestTo_bound N n (c + 1) (Nat.le_refl _))⟩
  have q41m : ∀ (h : c + 1 < n) (w : World), _ := fun h w => leftFn_any h1 h36 h hnN w
  generalize lef n (N - n) (bestTo N n (c + 1) (N + 1)) (c + 1 + 1) = L3 at *
  generalize ch N (bestTo N n (c + 1) (N + 1)) = D3 at *
  generalize bestTo N n (c + 1) (N + 1) = b3 at *
  generalize lef n (N - n) b (c + 1) = L at *
  generalize lef n (N - n) k (c + 1) = L2 at *
  generalize hDD : ch N b = D at *
  generalize hDK : ch N k = D2 at *
  have v1 := fun w => valid_any (a := L) (b := D) (by omega) (by omega) p1 w
  have v3 := fun w => valid_any (a := L3) (b := D3) (by have := hL3.out; omega) (by have := hD3.out; omega) hD3.out.2 w
  have r23 := fun w => reduced_any L D (by omega) p1 (by omega) w
  have s23 := fun w => reduced_any L2 D2 (by omega) p2 (by omega) w
  have q46 := fun w => refLess_red (a := L) (b := D) (c := L2) (d := D2) (by omega) (by omega) (by omega) (by omega) p1 p2 hmax w
  have m46 := fun w => refLess_red (a := L3) (b := D3) (c := L) (d := D) (by have := hL3.out; omega) (by have := hD3.out; omega) (by omega) (by omega) hD3.out.2 p1 hmore.out w
  have e1 : ∀ w, (Op.equalIn 10000 27 (.agg #[.int .i64 (rN L D : Nat), .int .i64 (rD L D : Nat)]) (.agg #[.int .i64 (rN L D : Nat), .int .i64 (rD L D : Nat)])).run Try.prog w = .ok true w := fun w => by rw [eq27]; simp
  have e2 := fun w => eq27 (rN L2 D2 : Nat) (rD L2 D2 : Nat) (rN L D : Nat) (rD L D : Nat) w
  obtain ⟨B, hB⟩ : ∃ B, Keep ((((rN L2 D2 : Nat) : Int) == ((rN L D : Nat) : Int) && ((rD L2 D2 : Nat) : Int) == ((rD L D : Nat) : Int)) = B) := ⟨_, ⟨rfl⟩⟩
  simp only [hB.out] at e2
  have hBk : B = true → ¬ (k : Int) < (b : Int) := by
    intro hBt hkb
    have hs := hfirst (by omega)
    rw [hBt] at hB
    have hb2 := hB.out
    simp only [Bool.and_eq_true, beq_iff_eq] at hb2
    have m1 := red_mul (a := L) p1
    have m2 := red_mul (a := L2) p2
    have t1 : rN L2 D2 = rN L D := by omega
    have t2 : rD L2 D2 = rD L D := by omega
    rw [t1, t2] at m2
    have hLL : L2 * D = L * D2 := by
      obtain ⟨m11, m12, _⟩ := m1
      obtain ⟨m21, m22, _⟩ := m2
      generalize rN L D = r at *
      generalize rD L D = s at *
      generalize Nat.gcd L D = g at *
      generalize Nat.gcd L2 D2 = g2 at *
      rw [← m11, ← m12, ← m21, ← m22]
      ac_rfl
    omega
  have hz : n = N → rN L D = 0 ∧ rD L D = 1 := fun h => by
    rw [hfull.out h]
    unfold rN rD
    rw [Nat.gcd_zero_left]
    exact ⟨Nat.zero_div _, Nat.div_self p1⟩
  clear hB hmax hfirst hmore hbk hkk p2 d1 d2 l1 l2 hDD hDK hL3 hD3 hfull
  have wN : IntKind.i64.wrap ((N : Int) + 1) = (N : Int) + 1 := IntWalk.i64_in _ (by omega)
  have wc : IntKind.i64.wrap ((c : Int) + 1) = (c : Int) + 1 := IntWalk.i64_in _ (by omega)
  simp only [Int.natCast_add, Int.cast_ofNat_Int] at q41m
  clear p1
  have walk : ∀ (hnE : n = N ∨ ((n : Int) == (N : Int)) = false) (hcE : (c : Int) + 1 < (n : Int) ∨ ¬ (c : Int) + 1 < (n : Int)) (hBE : B = false ∨ (B = true ∧ ¬ (k : Int) < (b : Int))), Calls Try.prog 14 #[.agg #[.int .i64 x, .int .i64 y, .int .i64 z], .int .i64 bad] w fun e w' => e = .returned (.bool true) ∧ Below w.heap.size w w' := by
    intro hnE hcE hBE
    have e3 : n = N → ∀ w, (Op.equalIn 10000 27 (.agg #[.int .i64 (rN L D : Nat), .int .i64 (rD L D : Nat)]) (.agg #[.int .i64 0, .int .i64 1])).run Try.prog w = .ok true w := fun h w => by
      rw [eq27, (hz h).1, (hz h).2]; rfl
    clear hz hBk
    unfold redV fracV at *
    rcases hcE with hc1 | hc1
    · have q41n := q41m (by omega)
      clear q41m
      rcases hnE with hnE | hnE
      · have e3 := e3 hnE
        subst hnE
        rcases hBE with rfl | ⟨rfl, hBE⟩
        · go_enter Try.func14, Try.ntmps14
          go_wp2_with (first
            | (go_at_call 47; (with_reducible refine (hmk _).mono ?_); rintro e w1 ⟨rfl, hb1⟩
               have hbw1 : Below w.heap.size w w1 := ((Below.refl _ w).alloc (Nat.le_refl _) _).trans (hb1.mono (by simp))
               clear hb1 hmk)
            | (go_at_call 48; (with_reducible refine (q48 _).mono ?_); rintro e w9 ⟨rfl, rfl⟩)
            | (go_at_call 41; (with_reducible refine (q41 _).mono ?_); rintro e w2 ⟨rfl, hb2⟩
               have hbw2 := hbw1.trans (hb2.mono hbw1.size)
               obtain ⟨w3, hw3⟩ : ∃ w3, w2.alloc (.cells #[.int .i64 (rN L D : Nat), .int .i64 (rD L D : Nat)] 27) = w3 := ⟨_, rfl⟩
               have hR : RmR w w2.heap.size (rN L D) (rD L D) w3 := by rw [← hw3]; exact RmR.new hbw2 _ _
               obtain ⟨⟨o0, o1, o2, o3⟩, hbw3⟩ := id hR
               clear hb2 q41)
            | (go_at_call 49; (with_reducible refine (v1 _).mono ?_); rintro e w4 ⟨rfl, hb4⟩
               have hR := hR.after hb4
               obtain ⟨⟨o0, o1, o2, o3⟩, hbw4⟩ := id hR
               clear hb4 v1)
            | (go_at_call 45; (with_reducible refine (r45 _).mono ?_); rintro e w9 ⟨rfl, rfl⟩)
            | (go_at_call 21; (with_reducible refine (r21 _).mono ?_); rintro e w9 ⟨rfl, rfl⟩)
            | (go_at_call 45; (with_reducible refine (s45 _).mono ?_); rintro e w9 ⟨rfl, rfl⟩)
            | (go_at_call 21; (with_reducible refine (s21 _).mono ?_); rintro e w9 ⟨rfl, rfl⟩)
            | (go_at_call 23; (with_reducible refine (r23 _).mono ?_); rintro e w5 ⟨rfl, hb5⟩
               have hR := hR.after hb5
               obtain ⟨w6, hw6⟩ : ∃ w6, w5.alloc (.cells #[.int .i64 (rN L D : Nat), .int .i64 (rD L D : Nat)] 27) = w6 := ⟨_, rfl⟩
               have hS : RmR w w5.heap.size (rN L D) (rD L D) w6 := by rw [← hw6]; exact RmR.new hR.bw _ _
               have hR : RmR w w2.heap.size (rN L D) (rD L D) w6 := by rw [← hw6]; exact hR.after ((Below.refl _ _).alloc (Nat.le_refl _) _)
               clear hb5 r23)
            | (go_at_call 23; (with_reducible refine (s23 _).mono ?_); rintro e w7 ⟨rfl, hb7⟩
               have hR := hR.after hb7
               have hS := hS.after hb7
               obtain ⟨w8, hw8⟩ : ∃ w8, w7.alloc (.cells #[.int .i64 (rN L2 D2 : Nat), .int .i64 (rD L2 D2 : Nat)] 27) = w8 := ⟨_, rfl⟩
               have hT : RmR w w7.heap.size (rN L2 D2) (rD L2 D2) w8 := by rw [← hw8]; exact RmR.new hR.bw _ _
               have hR : RmR w w2.heap.size (rN L D) (rD L D) w8 := by rw [← hw8]; exact hR.after ((Below.refl _ _).alloc (Nat.le_refl _) _)
               have hS : RmR w w5.heap.size (rN L D) (rD L D) w8 := by rw [← hw8]; exact hS.after ((Below.refl _ _).alloc (Nat.le_refl _) _)
               obtain ⟨⟨o0, o1, o2, o3⟩, hbw8⟩ := id hR
               obtain ⟨⟨s0, s1, s2, s3⟩, _⟩ := id hS
               obtain ⟨⟨t0, t1, t2, t3⟩, _⟩ := id hT
               clear hb7 s23)
            | (go_at_call 46; (with_reducible refine (q46 _).mono ?_); rintro e wa ⟨rfl, hba⟩
               have hR := hR.after hba
               have hT := hT.after hba
               obtain ⟨⟨o0, o1, o2, o3⟩, hbwa⟩ := id hR
               obtain ⟨⟨t0, t1, t2, t3⟩, _⟩ := id hT
               clear hba q46)
            | (go_at_call 41; (with_reducible refine (q41n _).mono ?_); rintro e wb ⟨rfl, hbb⟩
               have hR := hR.after hbb
               obtain ⟨wc, hwc⟩ : ∃ wc, wb.alloc (.cells #[.int .i64 (rN L3 D3 : Nat), .int .i64 (rD L3 D3 : Nat)] 27) = wc := ⟨_, rfl⟩
               have hU : RmR w wb.heap.size (rN L3 D3) (rD L3 D3) wc := by rw [← hwc]; exact RmR.new hR.bw _ _
               have hR : RmR w w2.heap.size (rN L D) (rD L D) wc := by rw [← hwc]; exact hR.after ((Below.refl _ _).alloc (Nat.le_refl _) _)
               obtain ⟨⟨o0, o1, o2, o3⟩, hbwc⟩ := id hR
               obtain ⟨⟨t0, t1, t2, t3⟩, _⟩ := id hU
               clear hbb q41n)
            | (go_at_call 49; (with_reducible refine (v3 _).mono ?_); rintro e wd ⟨rfl, hbd⟩
               have hR := hR.after hbd
               have hU := hU.after hbd
               obtain ⟨⟨o0, o1, o2, o3⟩, hbwd⟩ := id hR
               obtain ⟨⟨t0, t1, t2, t3⟩, _⟩ := id hU
               clear hbd v3)
            | (go_at_call 46; (with_reducible refine (m46 _).mono ?_); rintro e we ⟨rfl, hbe⟩
               have hR := hR.after hbe
               clear hbe m46)
            | (go_at_call 20; refine (awake_any _).mono ?_; rintro e wz ⟨rfl, hbz⟩
               have hR := hR.after hbz
               clear hbz))
          go_ret
          exact ⟨rfl, hR.bw⟩
        · go_enter Try.func14, Try.ntmps14
          go_wp2_with (first
            | (go_at_call 47; (with_reducible refine (hmk _).mono ?_); rintro e w1 ⟨rfl, hb1⟩
               have hbw1 : Below w.heap.size w w1 := ((Below.refl _ w).alloc (Nat.le_refl _) _).trans (hb1.mono (by simp))
               clear hb1 hmk)
            | (go_at_call 48; (with_reducible refine (q48 _).mono ?_); rintro e w9 ⟨rfl, rfl⟩)
            | (go_at_call 41; (with_reducible refine (q41 _).mono ?_); rintro e w2 ⟨rfl, hb2⟩
               have hbw2 := hbw1.trans (hb2.mono hbw1.size)
               obtain ⟨w3, hw3⟩ : ∃ w3, w2.alloc (.cells #[.int .i64 (rN L D : Nat), .int .i64 (rD L D : Nat)] 27) = w3 := ⟨_, rfl⟩
               have hR : RmR w w2.heap.size (rN L D) (rD L D) w3 := by rw [← hw3]; exact RmR.new hbw2 _ _
               obtain ⟨⟨o0, o1, o2, o3⟩, hbw3⟩ := id hR
               clear hb2 q41)
            | (go_at_call 49; (with_reducible refine (v1 _).mono ?_); rintro e w4 ⟨rfl, hb4⟩
               have hR := hR.after hb4
               obtain ⟨⟨o0, o1, o2, o3⟩, hbw4⟩ := id hR
               clear hb4 v1)
            | (go_at_call 45; (with_reducible refine (r45 _).mono ?_); rintro e w9 ⟨rfl, rfl⟩)
            | (go_at_call 21; (with_reducible refine (r21 _).mono ?_); rintro e w9 ⟨rfl, rfl⟩)
            | (go_at_call 45; (with_reducible refine (s45 _).mono ?_); rintro e w9 ⟨rfl, rfl⟩)
            | (go_at_call 21; (with_reducible refine (s21 _).mono ?_); rintro e w9 ⟨rfl, rfl⟩)
            | (go_at_call 23; (with_reducible refine (r23 _).mono ?_); rintro e w5 ⟨rfl, hb5⟩
               have hR := hR.after hb5
               obtain ⟨w6, hw6⟩ : ∃ w6, w5.alloc (.cells #[.int .i64 (rN L D : Nat), .int .i64 (rD L D : Nat)] 27) = w6 := ⟨_, rfl⟩
               have hS : RmR w w5.heap.size (rN L D) (rD L D) w6 := by rw [← hw6]; exact RmR.new hR.bw _ _
               have hR : RmR w w2.heap.size (rN L D) (rD L D) w6 := by rw [← hw6]; exact hR.after ((Below.refl _ _).alloc (Nat.le_refl _) _)
               clear hb5 r23)
            | (go_at_call 23; (with_reducible refine (s23 _).mono ?_); rintro e w7 ⟨rfl, hb7⟩
               have hR := hR.after hb7
               have hS := hS.after hb7
               obtain ⟨w8, hw8⟩ : ∃ w8, w7.alloc (.cells #[.int .i64 (rN L2 D2 : Nat), .int .i64 (rD L2 D2 : Nat)] 27) = w8 := ⟨_, rfl⟩
               have hT : RmR w w7.heap.size (rN L2 D2) (rD L2 D2) w8 := by rw [← hw8]; exact RmR.new hR.bw _ _
               have hR : RmR w w2.heap.size (rN L D) (rD L D) w8 := by rw [← hw8]; exact hR.after ((Below.refl _ _).alloc (Nat.le_refl _) _)
               have hS : RmR w w5.heap.size (rN L D) (rD L D) w8 := by rw [← hw8]; exact hS.after ((Below.refl _ _).alloc (Nat.le_refl _) _)
               obtain ⟨⟨o0, o1, o2, o3⟩, hbw8⟩ := id hR
               obtain ⟨⟨s0, s1, s2, s3⟩, _⟩ := id hS
               obtain ⟨⟨t0, t1, t2, t3⟩, _⟩ := id hT
               clear hb7 s23)
            | (go_at_call 46; (with_reducible refine (q46 _).mono ?_); rintro e wa ⟨rfl, hba⟩
               have hR := hR.after hba
               have hT := hT.after hba
               obtain ⟨⟨o0, o1, o2, o3⟩, hbwa⟩ := id hR
               obtain ⟨⟨t0, t1, t2, t3⟩, _⟩ := id hT
               clear hba q46)
            | (go_at_call 41; (with_reducible refine (q41n _).mono ?_); rintro e wb ⟨rfl, hbb⟩
               have hR := hR.after hbb
               obtain ⟨wc, hwc⟩ : ∃ wc, wb.alloc (.cells #[.int .i64 (rN L3 D3 : Nat), .int .i64 (rD L3 D3 : Nat)] 27) = wc := ⟨_, rfl⟩
               have hU : RmR w wb.heap.size (rN L3 D3) (rD L3 D3) wc := by rw [← hwc]; exact RmR.new hR.bw _ _
               have hR : RmR w w2.heap.size (rN L D) (rD L D) wc := by rw [← hwc]; exact hR.after ((Below.refl _ _).alloc (Nat.le_refl _) _)
               obtain ⟨⟨o0, o1, o2, o3⟩, hbwc⟩ := id hR
               obtain ⟨⟨t0, t1, t2, t3⟩, _⟩ := id hU
               clear hbb q41n)
            | (go_at_call 49; (with_reducible refine (v3 _).mono ?_); rintro e wd ⟨rfl, hbd⟩
               have hR := hR.after hbd
               have hU := hU.after hbd
               obtain ⟨⟨o0, o1, o2, o3⟩, hbwd⟩ := id hR
               obtain ⟨⟨t0, t1, t2, t3⟩, _⟩ := id hU
               clear hbd v3)
            | (go_at_call 46; (with_reducible refine (m46 _).mono ?_); rintro e we ⟨rfl, hbe⟩
               have hR := hR.after hbe
               clear hbe m46)
            | (go_at_call 20; refine (awake_any _).mono ?_; rintro e wz ⟨rfl, hbz⟩
               have hR := hR.after hbz
               clear hbz))
          go_ret
          exact ⟨rfl, hR.bw⟩
      · clear e3
        rcases hBE with rfl | ⟨rfl, hBE⟩
        · go_enter Try.func14, Try.ntmps14
          go_wp2_with (first
            | (go_at_call 47; (with_reducible refine (hmk _).mono ?_); rintro e w1 ⟨rfl, hb1⟩
               have hbw1 : Below w.heap.size w w1 := ((Below.refl _ w).alloc (Nat.le_refl _) _).trans (hb1.mono (by simp))
               clear hb1 hmk)
            | (go_at_call 48; (with_reducible refine (q48 _).mono ?_); rintro e w9 ⟨rfl, rfl⟩)
            | (go_at_call 41; (with_reducible refine (q41 _).mono ?_); rintro e w2 ⟨rfl, hb2⟩
               have hbw2 := hbw1.trans (hb2.mono hbw1.size)
               obtain ⟨w3, hw3⟩ : ∃ w3, w2.alloc (.cells #[.int .i64 (rN L D : Nat), .int .i64 (rD L D : Nat)] 27) = w3 := ⟨_, rfl⟩
               have hR : RmR w w2.heap.size (rN L D) (rD L D) w3 := by rw [← hw3]; exact RmR.new hbw2 _ _
               obtain ⟨⟨o0, o1, o2, o3⟩, hbw3⟩ := id hR
               clear hb2 q41)
            | (go_at_call 49; (with_reducible refine (v1 _).mono ?_); rintro e w4 ⟨rfl, hb4⟩
               have hR := hR.after hb4
               obtain ⟨⟨o0, o1, o2, o3⟩, hbw4⟩ := id hR
               clear hb4 v1)
            | (go_at_call 45; (with_reducible refine (r45 _).mono ?_); rintro e w9 ⟨rfl, rfl⟩)
            | (go_at_call 21; (with_reducible refine (r21 _).mono ?_); rintro e w9 ⟨rfl, rfl⟩)
            | (go_at_call 45; (with_reducible refine (s45 _).mono ?_); rintro e w9 ⟨rfl, rfl⟩)
            | (go_at_call 21; (with_reducible refine (s21 _).mono ?_); rintro e w9 ⟨rfl, rfl⟩)
            | (go_at_call 23; (with_reducible refine (r23 _).mono ?_); rintro e w5 ⟨rfl, hb5⟩
               have hR := hR.after hb5
               obtain ⟨w6, hw6⟩ : ∃ w6, w5.alloc (.cells #[.int .i64 (rN L D : Nat), .int .i64 (rD L D : Nat)] 27) = w6 := ⟨_, rfl⟩
               have hS : RmR w w5.heap.size (rN L D) (rD L D) w6 := by rw [← hw6]; exact RmR.new hR.bw _ _
               have hR : RmR w w2.heap.size (rN L D) (rD L D) w6 := by rw [← hw6]; exact hR.after ((Below.refl _ _).alloc (Nat.le_refl _) _)
               clear hb5 r23)
            | (go_at_call 23; (with_reducible refine (s23 _).mono ?_); rintro e w7 ⟨rfl, hb7⟩
               have hR := hR.after hb7
               have hS := hS.after hb7
               obtain ⟨w8, hw8⟩ : ∃ w8, w7.alloc (.cells #[.int .i64 (rN L2 D2 : Nat), .int .i64 (rD L2 D2 : Nat)] 27) = w8 := ⟨_, rfl⟩
               have hT : RmR w w7.heap.size (rN L2 D2) (rD L2 D2) w8 := by rw [← hw8]; exact RmR.new hR.bw _ _
               have hR : RmR w w2.heap.size (rN L D) (rD L D) w8 := by rw [← hw8]; exact hR.after ((Below.refl _ _).alloc (Nat.le_refl _) _)
               have hS : RmR w w5.heap.size (rN L D) (rD L D) w8 := by rw [← hw8]; exact hS.after ((Below.refl _ _).alloc (Nat.le_refl _) _)
               obtain ⟨⟨o0, o1, o2, o3⟩, hbw8⟩ := id hR
               obtain ⟨⟨s0, s1, s2, s3⟩, _⟩ := id hS
               obtain ⟨⟨t0, t1, t2, t3⟩, _⟩ := id hT
               clear hb7 s23)
            | (go_at_call 46; (with_reducible refine (q46 _).mono ?_); rintro e wa ⟨rfl, hba⟩
               have hR := hR.after hba
               have hT := hT.after hba
               obtain ⟨⟨o0, o1, o2, o3⟩, hbwa⟩ := id hR
               obtain ⟨⟨t0, t1, t2, t3⟩, _⟩ := id hT
               clear hba q46)
            | (go_at_call 41; (with_reducible refine (q41n _).mono ?_); rintro e wb ⟨rfl, hbb⟩
               have hR := hR.after hbb
               obtain ⟨wc, hwc⟩ : ∃ wc, wb.alloc (.cells #[.int .i64 (rN L3 D3 : Nat), .int .i64 (rD L3 D3 : Nat)] 27) = wc := ⟨_, rfl⟩
               have hU : RmR w wb.heap.size (rN L3 D3) (rD L3 D3) wc := by rw [← hwc]; exact RmR.new hR.bw _ _
               have hR : RmR w w2.heap.size (rN L D) (rD L D) wc := by rw [← hwc]; exact hR.after ((Below.refl _ _).alloc (Nat.le_refl _) _)
               obtain ⟨⟨o0, o1, o2, o3⟩, hbwc⟩ := id hR
               obtain ⟨⟨t0, t1, t2, t3⟩, _⟩ := id hU
               clear hbb q41n)
            | (go_at_call 49; (with_reducible refine (v3 _).mono ?_); rintro e wd ⟨rfl, hbd⟩
               have hR := hR.after hbd
               have hU := hU.after hbd
               obtain ⟨⟨o0, o1, o2, o3⟩, hbwd⟩ := id hR
               obtain ⟨⟨t0, t1, t2, t3⟩, _⟩ := id hU
               clear hbd v3)
            | (go_at_call 46; (with_reducible refine (m46 _).mono ?_); rintro e we ⟨rfl, hbe⟩
               have hR := hR.after hbe
               clear hbe m46)
            | (go_at_call 20; refine (awake_any _).mono ?_; rintro e wz ⟨rfl, hbz⟩
               have hR := hR.after hbz
               clear hbz))
          go_ret
          exact ⟨rfl, hR.bw⟩
        · go_enter Try.func14, Try.ntmps14
          go_wp2_with (first
            | (go_at_call 47; (with_reducible refine (hmk _).mono ?_); rintro e w1 ⟨rfl, hb1⟩
               have hbw1 : Below w.heap.size w w1 := ((Below.refl _ w).alloc (Nat.le_refl _) _).trans (hb1.mono (by simp))
               clear hb1 hmk)
            | (go_at_call 48; (with_reducible refine (q48 _).mono ?_); rintro e w9 ⟨rfl, rfl⟩)
            | (go_at_call 41; (with_reducible refine (q41 _).mono ?_); rintro e w2 ⟨rfl, hb2⟩
               have hbw2 := hbw1.trans (hb2.mono hbw1.size)
               obtain ⟨w3, hw3⟩ : ∃ w3, w2.alloc (.cells #[.int .i64 (rN L D : Nat), .int .i64 (rD L D : Nat)] 27) = w3 := ⟨_, rfl⟩
               have hR : RmR w w2.heap.size (rN L D) (rD L D) w3 := by rw [← hw3]; exact RmR.new hbw2 _ _
               obtain ⟨⟨o0, o1, o2, o3⟩, hbw3⟩ := id hR
               clear hb2 q41)
            | (go_at_call 49; (with_reducible refine (v1 _).mono ?_); rintro e w4 ⟨rfl, hb4⟩
               have hR := hR.after hb4
               obtain ⟨⟨o0, o1, o2, o3⟩, hbw4⟩ := id hR
               clear hb4 v1)
            | (go_at_call 45; (with_reducible refine (r45 _).mono ?_); rintro e w9 ⟨rfl, rfl⟩)
            | (go_at_call 21; (with_reducible refine (r21 _).mono ?_); rintro e w9 ⟨rfl, rfl⟩)
            | (go_at_call 45; (with_reducible refine (s45 _).mono ?_); rintro e w9 ⟨rfl, rfl⟩)
            | (go_at_call 21; (with_reducible refine (s21 _).mono ?_); rintro e w9 ⟨rfl, rfl⟩)
            | (go_at_call 23; (with_reducible refine (r23 _).mono ?_); rintro e w5 ⟨rfl, hb5⟩
               have hR := hR.after hb5
               obtain ⟨w6, hw6⟩ : ∃ w6, w5.alloc (.cells #[.int .i64 (rN L D : Nat), .int .i64 (rD L D : Nat)] 27) = w6 := ⟨_, rfl⟩
               have hS : RmR w w5.heap.size (rN L D) (rD L D) w6 := by rw [← hw6]; exact RmR.new hR.bw _ _
               have hR : RmR w w2.heap.size (rN L D) (rD L D) w6 := by rw [← hw6]; exact hR.after ((Below.refl _ _).alloc (Nat.le_refl _) _)
               clear hb5 r23)
            | (go_at_call 23; (with_reducible refine (s23 _).mono ?_); rintro e w7 ⟨rfl, hb7⟩
               have hR := hR.after hb7
               have hS := hS.after hb7
               obtain ⟨w8, hw8⟩ : ∃ w8, w7.alloc (.cells #[.int .i64 (rN L2 D2 : Nat), .int .i64 (rD L2 D2 : Nat)] 27) = w8 := ⟨_, rfl⟩
               have hT : RmR w w7.heap.size (rN L2 D2) (rD L2 D2) w8 := by rw [← hw8]; exact RmR.new hR.bw _ _
               have hR : RmR w w2.heap.size (rN L D) (rD L D) w8 := by rw [← hw8]; exact hR.after ((Below.refl _ _).alloc (Nat.le_refl _) _)
               have hS : RmR w w5.heap.size (rN L D) (rD L D) w8 := by rw [← hw8]; exact hS.after ((Below.refl _ _).alloc (Nat.le_refl _) _)
               obtain ⟨⟨o0, o1, o2, o3⟩, hbw8⟩ := id hR
               obtain ⟨⟨s0, s1, s2, s3⟩, _⟩ := id hS
               obtain ⟨⟨t0, t1, t2, t3⟩, _⟩ := id hT
               clear hb7 s23)
            | (go_at_call 46; (with_reducible refine (q46 _).mono ?_); rintro e wa ⟨rfl, hba⟩
               have hR := hR.after hba
               have hT := hT.after hba
               obtain ⟨⟨o0, o1, o2, o3⟩, hbwa⟩ := id hR
               obtain ⟨⟨t0, t1, t2, t3⟩, _⟩ := id hT
               clear hba q46)
            | (go_at_call 41; (with_reducible refine (q41n _).mono ?_); rintro e wb ⟨rfl, hbb⟩
               have hR := hR.after hbb
               obtain ⟨wc, hwc⟩ : ∃ wc, wb.alloc (.cells #[.int .i64 (rN L3 D3 : Nat), .int .i64 (rD L3 D3 : Nat)] 27) = wc := ⟨_, rfl⟩
               have hU : RmR w wb.heap.size (rN L3 D3) (rD L3 D3) wc := by rw [← hwc]; exact RmR.new hR.bw _ _
               have hR : RmR w w2.heap.size (rN L D) (rD L D) wc := by rw [← hwc]; exact hR.after ((Below.refl _ _).alloc (Nat.le_refl _) _)
               obtain ⟨⟨o0, o1, o2, o3⟩, hbwc⟩ := id hR
               obtain ⟨⟨t0, t1, t2, t3⟩, _⟩ := id hU
               clear hbb q41n)
            | (go_at_call 49; (with_reducible refine (v3 _).mono ?_); rintro e wd ⟨rfl, hbd⟩
               have hR := hR.after hbd
               have hU := hU.after hbd
               obtain ⟨⟨o0, o1, o2, o3⟩, hbwd⟩ := id hR
               obtain ⟨⟨t0, t1, t2, t3⟩, _⟩ := id hU
               clear hbd v3)
            | (go_at_call 46; (with_reducible refine (m46 _).mono ?_); rintro e we ⟨rfl, hbe⟩
               have hR := hR.after hbe
               clear hbe m46)
            | (go_at_call 20; refine (awake_any _).mono ?_; rintro e wz ⟨rfl, hbz⟩
               have hR := hR.after hbz
               clear hbz))
          go_ret
          exact ⟨rfl, hR.bw⟩
    · clear q41m
      rcases hnE with hnE | hnE
      · have e3 := e3 hnE
        subst hnE
        rcases hBE with rfl | ⟨rfl, hBE⟩
        · go_enter Try.func14, Try.ntmps14
          go_wp2_with (first
            | (go_at_call 47; (with_reducible refine (hmk _).mono ?_); rintro e w1 ⟨rfl, hb1⟩
               have hbw1 : Below w.heap.size w w1 := ((Below.refl _ w).alloc (Nat.le_refl _) _).trans (hb1.mono (by simp))
               clear hb1 hmk)
            | (go_at_call 48; (with_reducible refine (q48 _).mono ?_); rintro e w9 ⟨rfl, rfl⟩)
            | (go_at_call 41; (with_reducible refine (q41 _).mono ?_); rintro e w2 ⟨rfl, hb2⟩
               have hbw2 := hbw1.trans (hb2.mono hbw1.size)
               obtain ⟨w3, hw3⟩ : ∃ w3, w2.alloc (.cells #[.int .i64 (rN L D : Nat), .int .i64 (rD L D : Nat)] 27) = w3 := ⟨_, rfl⟩
               have hR : RmR w w2.heap.size (rN L D) (rD L D) w3 := by rw [← hw3]; exact RmR.new hbw2 _ _
               obtain ⟨⟨o0, o1, o2, o3⟩, hbw3⟩ := id hR
               clear hb2 q41)
            | (go_at_call 49; (with_reducible refine (v1 _).mono ?_); rintro e w4 ⟨rfl, hb4⟩
               have hR := hR.after hb4
               obtain ⟨⟨o0, o1, o2, o3⟩, hbw4⟩ := id hR
               clear hb4 v1)
            | (go_at_call 45; (with_reducible refine (r45 _).mono ?_); rintro e w9 ⟨rfl, rfl⟩)
            | (go_at_call 21; (with_reducible refine (r21 _).mono ?_); rintro e w9 ⟨rfl, rfl⟩)
            | (go_at_call 45; (with_reducible refine (s45 _).mono ?_); rintro e w9 ⟨rfl, rfl⟩)
            | (go_at_call 21; (with_reducible refine (s21 _).mono ?_); rintro e w9 ⟨rfl, rfl⟩)
            | (go_at_call 23; (with_reducible refine (r23 _).mono ?_); rintro e w5 ⟨rfl, hb5⟩
               have hR := hR.after hb5
               obtain ⟨w6, hw6⟩ : ∃ w6, w5.alloc (.cells #[.int .i64 (rN L D : Nat), .int .i64 (rD L D : Nat)] 27) = w6 := ⟨_, rfl⟩
               have hS : RmR w w5.heap.size (rN L D) (rD L D) w6 := by rw [← hw6]; exact RmR.new hR.bw _ _
               have hR : RmR w w2.heap.size (rN L D) (rD L D) w6 := by rw [← hw6]; exact hR.after ((Below.refl _ _).alloc (Nat.le_refl _) _)
               clear hb5 r23)
            | (go_at_call 23; (with_reducible refine (s23 _).mono ?_); rintro e w7 ⟨rfl, hb7⟩
               have hR := hR.after hb7
               have hS := hS.after hb7
               obtain ⟨w8, hw8⟩ : ∃ w8, w7.alloc (.cells #[.int .i64 (rN L2 D2 : Nat), .int .i64 (rD L2 D2 : Nat)] 27) = w8 := ⟨_, rfl⟩
               have hT : RmR w w7.heap.size (rN L2 D2) (rD L2 D2) w8 := by rw [← hw8]; exact RmR.new hR.bw _ _
               have hR : RmR w w2.heap.size (rN L D) (rD L D) w8 := by rw [← hw8]; exact hR.after ((Below.refl _ _).alloc (Nat.le_refl _) _)
               have hS : RmR w w5.heap.size (rN L D) (rD L D) w8 := by rw [← hw8]; exact hS.after ((Below.refl _ _).alloc (Nat.le_refl _) _)
               obtain ⟨⟨o0, o1, o2, o3⟩, hbw8⟩ := id hR
               obtain ⟨⟨s0, s1, s2, s3⟩, _⟩ := id hS
               obtain ⟨⟨t0, t1, t2, t3⟩, _⟩ := id hT
               clear hb7 s23)
            | (go_at_call 46; (with_reducible refine (q46 _).mono ?_); rintro e wa ⟨rfl, hba⟩
               have hR := hR.after hba
               have hT := hT.after hba
               obtain ⟨⟨o0, o1, o2, o3⟩, hbwa⟩ := id hR
               obtain ⟨⟨t0, t1, t2, t3⟩, _⟩ := id hT
               clear hba q46)
            | (go_at_call 20; refine (awake_any _).mono ?_; rintro e wz ⟨rfl, hbz⟩
               have hR := hR.after hbz
               clear hbz))
          go_ret
          exact ⟨rfl, hR.bw⟩
        · go_enter Try.func14, Try.ntmps14
          go_wp2_with (first
            | (go_at_call 47; (with_reducible refine (hmk _).mono ?_); rintro e w1 ⟨rfl, hb1⟩
               have hbw1 : Below w.heap.size w w1 := ((Below.refl _ w).alloc (Nat.le_refl _) _).trans (hb1.mono (by simp))
               clear hb1 hmk)
            | (go_at_call 48; (with_reducible refine (q48 _).mono ?_); rintro e w9 ⟨rfl, rfl⟩)
            | (go_at_call 41; (with_reducible refine (q41 _).mono ?_); rintro e w2 ⟨rfl, hb2⟩
               have hbw2 := hbw1.trans (hb2.mono hbw1.size)
               obtain ⟨w3, hw3⟩ : ∃ w3, w2.alloc (.cells #[.int .i64 (rN L D : Nat), .int .i64 (rD L D : Nat)] 27) = w3 := ⟨_, rfl⟩
               have hR : RmR w w2.heap.size (rN L D) (rD L D) w3 := by rw [← hw3]; exact RmR.new hbw2 _ _
               obtain ⟨⟨o0, o1, o2, o3⟩, hbw3⟩ := id hR
               clear hb2 q41)
            | (go_at_call 49; (with_reducible refine (v1 _).mono ?_); rintro e w4 ⟨rfl, hb4⟩
               have hR := hR.after hb4
               obtain ⟨⟨o0, o1, o2, o3⟩, hbw4⟩ := id hR
               clear hb4 v1)
            | (go_at_call 45; (with_reducible refine (r45 _).mono ?_); rintro e w9 ⟨rfl, rfl⟩)
            | (go_at_call 21; (with_reducible refine (r21 _).mono ?_); rintro e w9 ⟨rfl, rfl⟩)
            | (go_at_call 45; (with_reducible refine (s45 _).mono ?_); rintro e w9 ⟨rfl, rfl⟩)
            | (go_at_call 21; (with_reducible refine (s21 _).mono ?_); rintro e w9 ⟨rfl, rfl⟩)
            | (go_at_call 23; (with_reducible refine (r23 _).mono ?_); rintro e w5 ⟨rfl, hb5⟩
               have hR := hR.after hb5
               obtain ⟨w6, hw6⟩ : ∃ w6, w5.alloc (.cells #[.int .i64 (rN L D : Nat), .int .i64 (rD L D : Nat)] 27) = w6 := ⟨_, rfl⟩
               have hS : RmR w w5.heap.size (rN L D) (rD L D) w6 := by rw [← hw6]; exact RmR.new hR.bw _ _
               have hR : RmR w w2.heap.size (rN L D) (rD L D) w6 := by rw [← hw6]; exact hR.after ((Below.refl _ _).alloc (Nat.le_refl _) _)
               clear hb5 r23)
            | (go_at_call 23; (with_reducible refine (s23 _).mono ?_); rintro e w7 ⟨rfl, hb7⟩
               have hR := hR.after hb7
               have hS := hS.after hb7
               obtain ⟨w8, hw8⟩ : ∃ w8, w7.alloc (.cells #[.int .i64 (rN L2 D2 : Nat), .int .i64 (rD L2 D2 : Nat)] 27) = w8 := ⟨_, rfl⟩
               have hT : RmR w w7.heap.size (rN L2 D2) (rD L2 D2) w8 := by rw [← hw8]; exact RmR.new hR.bw _ _
               have hR : RmR w w2.heap.size (rN L D) (rD L D) w8 := by rw [← hw8]; exact hR.after ((Below.refl _ _).alloc (Nat.le_refl _) _)
               have hS : RmR w w5.heap.size (rN L D) (rD L D) w8 := by rw [← hw8]; exact hS.after ((Below.refl _ _).alloc (Nat.le_refl _) _)
               obtain ⟨⟨o0, o1, o2, o3⟩, hbw8⟩ := id hR
               obtain ⟨⟨s0, s1, s2, s3⟩, _⟩ := id hS
               obtain ⟨⟨t0, t1, t2, t3⟩, _⟩ := id hT
               clear hb7 s23)
            | (go_at_call 46; (with_reducible refine (q46 _).mono ?_); rintro e wa ⟨rfl, hba⟩
               have hR := hR.after hba
               have hT := hT.after hba
               obtain ⟨⟨o0, o1, o2, o3⟩, hbwa⟩ := id hR
               obtain ⟨⟨t0, t1, t2, t3⟩, _⟩ := id hT
               clear hba q46)
            | (go_at_call 20; refine (awake_any _).mono ?_; rintro e wz ⟨rfl, hbz⟩
               have hR := hR.after hbz
               clear hbz))
          go_ret
          exact ⟨rfl, hR.bw⟩
      · clear e3
        rcases hBE with rfl | ⟨rfl, hBE⟩
        · go_enter Try.func14, Try.ntmps14
          go_wp2_with (first
            | (go_at_call 47; (with_reducible refine (hmk _).mono ?_); rintro e w1 ⟨rfl, hb1⟩
               have hbw1 : Below w.heap.size w w1 := ((Below.refl _ w).alloc (Nat.le_refl _) _).trans (hb1.mono (by simp))
               clear hb1 hmk)
            | (go_at_call 48; (with_reducible refine (q48 _).mono ?_); rintro e w9 ⟨rfl, rfl⟩)
            | (go_at_call 41; (with_reducible refine (q41 _).mono ?_); rintro e w2 ⟨rfl, hb2⟩
               have hbw2 := hbw1.trans (hb2.mono hbw1.size)
               obtain ⟨w3, hw3⟩ : ∃ w3, w2.alloc (.cells #[.int .i64 (rN L D : Nat), .int .i64 (rD L D : Nat)] 27) = w3 := ⟨_, rfl⟩
               have hR : RmR w w2.heap.size (rN L D) (rD L D) w3 := by rw [← hw3]; exact RmR.new hbw2 _ _
               obtain ⟨⟨o0, o1, o2, o3⟩, hbw3⟩ := id hR
               clear hb2 q41)
            | (go_at_call 49; (with_reducible refine (v1 _).mono ?_); rintro e w4 ⟨rfl, hb4⟩
               have hR := hR.after hb4
               obtain ⟨⟨o0, o1, o2, o3⟩, hbw4⟩ := id hR
               clear hb4 v1)
            | (go_at_call 45; (with_reducible refine (r45 _).mono ?_); rintro e w9 ⟨rfl, rfl⟩)
            | (go_at_call 21; (with_reducible refine (r21 _).mono ?_); rintro e w9 ⟨rfl, rfl⟩)
            | (go_at_call 45; (with_reducible refine (s45 _).mono ?_); rintro e w9 ⟨rfl, rfl⟩)
            | (go_at_call 21; (with_reducible refine (s21 _).mono ?_); rintro e w9 ⟨rfl, rfl⟩)
            | (go_at_call 23; (with_reducible refine (r23 _).mono ?_); rintro e w5 ⟨rfl, hb5⟩
               have hR := hR.after hb5
               obtain ⟨w6, hw6⟩ : ∃ w6, w5.alloc (.cells #[.int .i64 (rN L D : Nat), .int .i64 (rD L D : Nat)] 27) = w6 := ⟨_, rfl⟩
               have hS : RmR w w5.heap.size (rN L D) (rD L D) w6 := by rw [← hw6]; exact RmR.new hR.bw _ _
               have hR : RmR w w2.heap.size (rN L D) (rD L D) w6 := by rw [← hw6]; exact hR.after ((Below.refl _ _).alloc (Nat.le_refl _) _)
               clear hb5 r23)
            | (go_at_call 23; (with_reducible refine (s23 _).mono ?_); rintro e w7 ⟨rfl, hb7⟩
               have hR := hR.after hb7
               have hS := hS.after hb7
               obtain ⟨w8, hw8⟩ : ∃ w8, w7.alloc (.cells #[.int .i64 (rN L2 D2 : Nat), .int .i64 (rD L2 D2 : Nat)] 27) = w8 := ⟨_, rfl⟩
               have hT : RmR w w7.heap.size (rN L2 D2) (rD L2 D2) w8 := by rw [← hw8]; exact RmR.new hR.bw _ _
               have hR : RmR w w2.heap.size (rN L D) (rD L D) w8 := by rw [← hw8]; exact hR.after ((Below.refl _ _).alloc (Nat.le_refl _) _)
               have hS : RmR w w5.heap.size (rN L D) (rD L D) w8 := by rw [← hw8]; exact hS.after ((Below.refl _ _).alloc (Nat.le_refl _) _)
               obtain ⟨⟨o0, o1, o2, o3⟩, hbw8⟩ := id hR
               obtain ⟨⟨s0, s1, s2, s3⟩, _⟩ := id hS
               obtain ⟨⟨t0, t1, t2, t3⟩, _⟩ := id hT
               clear hb7 s23)
            | (go_at_call 46; (with_reducible refine (q46 _).mono ?_); rintro e wa ⟨rfl, hba⟩
               have hR := hR.after hba
               have hT := hT.after hba
               obtain ⟨⟨o0, o1, o2, o3⟩, hbwa⟩ := id hR
               obtain ⟨⟨t0, t1, t2, t3⟩, _⟩ := id hT
               clear hba q46)
            | (go_at_call 20; refine (awake_any _).mono ?_; rintro e wz ⟨rfl, hbz⟩
               have hR := hR.after hbz
               clear hbz))
          go_ret
          exact ⟨rfl, hR.bw⟩
        · go_enter Try.func14, Try.ntmps14
          go_wp2_with (first
            | (go_at_call 47; (with_reducible refine (hmk _).mono ?_); rintro e w1 ⟨rfl, hb1⟩
               have hbw1 : Below w.heap.size w w1 := ((Below.refl _ w).alloc (Nat.le_refl _) _).trans (hb1.mono (by simp))
               clear hb1 hmk)
            | (go_at_call 48; (with_reducible refine (q48 _).mono ?_); rintro e w9 ⟨rfl, rfl⟩)
            | (go_at_call 41; (with_reducible refine (q41 _).mono ?_); rintro e w2 ⟨rfl, hb2⟩
               have hbw2 := hbw1.trans (hb2.mono hbw1.size)
               obtain ⟨w3, hw3⟩ : ∃ w3, w2.alloc (.cells #[.int .i64 (rN L D : Nat), .int .i64 (rD L D : Nat)] 27) = w3 := ⟨_, rfl⟩
               have hR : RmR w w2.heap.size (rN L D) (rD L D) w3 := by rw [← hw3]; exact RmR.new hbw2 _ _
               obtain ⟨⟨o0, o1, o2, o3⟩, hbw3⟩ := id hR
               clear hb2 q41)
            | (go_at_call 49; (with_reducible refine (v1 _).mono ?_); rintro e w4 ⟨rfl, hb4⟩
               have hR := hR.after hb4
               obtain ⟨⟨o0, o1, o2, o3⟩, hbw4⟩ := id hR
               clear hb4 v1)
            | (go_at_call 45; (with_reducible refine (r45 _).mono ?_); rintro e w9 ⟨rfl, rfl⟩)
            | (go_at_call 21; (with_reducible refine (r21 _).mono ?_); rintro e w9 ⟨rfl, rfl⟩)
            | (go_at_call 45; (with_reducible refine (s45 _).mono ?_); rintro e w9 ⟨rfl, rfl⟩)
            | (go_at_call 21; (with_reducible refine (s21 _).mono ?_); rintro e w9 ⟨rfl, rfl⟩)
            | (go_at_call 23; (with_reducible refine (r23 _).mono ?_); rintro e w5 ⟨rfl, hb5⟩
               have hR := hR.after hb5
               obtain ⟨w6, hw6⟩ : ∃ w6, w5.alloc (.cells #[.int .i64 (rN L D : Nat), .int .i64 (rD L D : Nat)] 27) = w6 := ⟨_, rfl⟩
               have hS : RmR w w5.heap.size (rN L D) (rD L D) w6 := by rw [← hw6]; exact RmR.new hR.bw _ _
               have hR : RmR w w2.heap.size (rN L D) (rD L D) w6 := by rw [← hw6]; exact hR.after ((Below.refl _ _).alloc (Nat.le_refl _) _)
               clear hb5 r23)
            | (go_at_call 23; (with_reducible refine (s23 _).mono ?_); rintro e w7 ⟨rfl, hb7⟩
               have hR := hR.after hb7
               have hS := hS.after hb7
               obtain ⟨w8, hw8⟩ : ∃ w8, w7.alloc (.cells #[.int .i64 (rN L2 D2 : Nat), .int .i64 (rD L2 D2 : Nat)] 27) = w8 := ⟨_, rfl⟩
               have hT : RmR w w7.heap.size (rN L2 D2) (rD L2 D2) w8 := by rw [← hw8]; exact RmR.new hR.bw _ _
               have hR : RmR w w2.heap.size (rN L D) (rD L D) w8 := by rw [← hw8]; exact hR.after ((Below.refl _ _).alloc (Nat.le_refl _) _)
               have hS : RmR w w5.heap.size (rN L D) (rD L D) w8 := by rw [← hw8]; exact hS.after ((Below.refl _ _).alloc (Nat.le_refl _) _)
               obtain ⟨⟨o0, o1, o2, o3⟩, hbw8⟩ := id hR
               obtain ⟨⟨s0, s1, s2, s3⟩, _⟩ := id hS
               obtain ⟨⟨t0, t1, t2, t3⟩, _⟩ := id hT
               clear hb7 s23)
            | (go_at_call 46; (with_reducible refine (q46 _).mono ?_); rintro e wa ⟨rfl, hba⟩
               have hR := hR.after hba
               have hT := hT.after hba
               obtain ⟨⟨o0, o1, o2, o3⟩, hbwa⟩ := id hR
               obtain ⟨⟨t0, t1, t2, t3⟩, _⟩ := id hT
               clear hba q46)
            | (go_at_call 20; refine (awake_any _).mono ?_; rintro e wz ⟨rfl, hbz⟩
               have hR := hR.after hbz
               clear hbz))
          go_ret
          exact ⟨rfl, hR.bw⟩
  refine walk ?_ ?_ ?_
  · by_cases h : n = N
    · exact .inl h
    · exact .inr (beq_eq_false_iff_ne.2 (by omega))
  · exact Decidable.em _
  · cases B with
    | false => exact .inl rfl
    | true => exact .inr ⟨rfl, hBk rfl⟩
end Go.Proofs.Ytbmfipjnfbnjgaa
