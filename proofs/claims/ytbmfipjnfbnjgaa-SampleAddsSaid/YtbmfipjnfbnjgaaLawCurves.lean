import Derived.Test.YtbmfipjnfbnjgaaCurvesNo
import Derived.Test.YtbmfipjnfbnjgaaOpenArgs
set_option linter.unusedSimpArgs false
set_option linter.unusedVariables false
namespace Go.Proofs.Ytbmfipjnfbnjgaa
open Go Go.Proofs Go.RowKit Go.Sample Go.Seq
theorem refLess_dec {a b c d : Nat} (ha : a < 4611686018427387904) (hb : b < 4611686018427387904) (hc : c < 4611686018427387904) (hd : d < 4611686018427387904) (hb1 : 1 ≤ b) (hd1 : 1 ≤ d) (w : World) :
    Calls Try.prog 46 #[redV a b, redV c d] w fun e w' => e = .returned (.bool (decide (a * d < c * b))) ∧ Below w.heap.size w w' := by
  obtain ⟨z1, z2⟩ := red_le a b
  obtain ⟨z3, z4⟩ := red_le c d
  have hm1 := red_mul (a := a) hb1
  have hm2 := red_mul (a := c) hd1
  have h2 := refLess_any (a := rN a b) (b := rD a b) (c := rN c d) (d := rD c d) (by omega) (by omega) (by omega) (by omega) hm1.2.2.2 hm2.2.2.2 w
  have e : decide (rN a b * rD c d < rN c d * rD a b) = decide (a * d < c * b) := by
    apply decide_eq_decide.2
    rw [red_less_left (p := rN c d) (q := rD c d) hb1]
    exact red_less_right hd1
  rw [e] at h2
  exact h2
def lb (N n c b : Nat) : Nat := lef n (N - n) b (c + 1)
/-- b0: what Left found. k0: what the round has found so far. -/
structure CuI (w : World) (g g9 g15 N n c b0 k0 : Nat) (W : World) : Prop where
  f' : NumsAt W g (2 * (N + 1)) 27 (curF N n c (N + 1))
  o : Own2 W g9 (.int .i64 (rN (lb N n c b0) (ch N b0) : Nat)) (.int .i64 (rD (lb N n c b0) (ch N b0) : Nat))
  p : Own2 W g15 (.int .i64 (rN (lb N n c k0) (ch N k0) : Nat)) (.int .i64 (rD (lb N n c k0) (ch N k0) : Nat))
  bw : Below w.heap.size w W
theorem CuI.after {w W W' : World} {g g9 g15 N n c b0 k0 : Nat} (h : CuI w g g9 g15 N n c b0 k0 W) (hb : Below W.heap.size W W') : CuI w g g9 g15 N n c b0 k0 W' := ⟨h.f'.below hb h.f'.lt, h.o.after hb, h.p.after hb, h.bw.trans (hb.mono h.bw.size)⟩
theorem CuI.at_ {w W : World} {g g9 g15 N n c b0 k0 d : Nat} (h : CuI w g g9 g15 N n c b0 k0 W) (hd : d ≤ N) : W.cell? ⟨g, d * 2, none⟩ = some (.int .i64 (rN (acc n (N - n) d (c + 1)) (ch N d) : Nat)) ∧ W.cell? ⟨g, d * 2 + 1, none⟩ = some (.int .i64 (rD (acc n (N - n) d (c + 1)) (ch N d) : Nat)) ∧ W.frozen? ⟨g, d * 2, none⟩ = false ∧ W.frozen? ⟨g, d * 2 + 1, none⟩ = false := by
  obtain ⟨e1, e2⟩ := cur_at (n := n) (c := c) hd
  obtain ⟨c1, c2⟩ := h.f'.cell (j := d * 2) (by omega)
  obtain ⟨c3, c4⟩ := h.f'.cell (j := d * 2 + 1) (by omega)
  rw [e1] at c1
  rw [e2] at c3
  exact ⟨c1, c3, c2, c4⟩
theorem CuI.set {w W : World} {g g9 g15 N n c b0 k0 k : Nat} (h : CuI w g g9 g15 N n c b0 k0 W) (h1 : g ≠ g15) (h2 : g9 ≠ g15) (h3 : w.heap.size ≤ g15) :
    CuI w g g9 g15 N n c b0 k ((W.setCell ⟨g15, 0, none⟩ (.int .i64 (rN (lb N n c k) (ch N k) : Nat))).setCell ⟨g15, 1, none⟩ (.int .i64 (rD (lb N n c k) (ch N k) : Nat))) :=
  ⟨(h.f'.other h1 _).other h1 _, (h.o.other h2).other h2, h.p.set0.set1, (h.bw.setCell (p := ⟨g15, 0, none⟩) h3 _).setCell (p := ⟨g15, 1, none⟩) h3 _⟩
set_option maxHeartbeats 2000000 in
set_option maxRecDepth 100000 in
theorem curves_yes {N n c : Nat} (h1 : 1 ≤ N) (h36 : N ≤ 36) (hcn : c < n) (hnN : n ≤ N) (w : World) : Calls Try.prog 7 #[.int .i64 N, .int .i64 n, .int .i64 c] w fun e w' => e = .returned (.bool true) ∧ Below w.heap.size w w' := by
  have hmx : Try.prog.follows .mixedOrders = true := by kernel_rfl
  have q40 := fun w => curve_any h1 h36 hcn hnN w
  have q41 := fun w => leftFn_any h1 h36 hcn hnN w
  have hb := bestTo_bound N n c (k := N + 1) (Nat.le_refl _)
  obtain ⟨b0, hb0⟩ : ∃ b, Keep (bestTo N n c (N + 1) = b) := ⟨_, ⟨rfl⟩⟩
  simp only [hb0.out] at q41 hb
  have q42 := fun w => curtail_any h1 h36 hcn hnN w
  have q43 := fun w => refCurtail_any (n := n) (c := c) (by omega) (by omega) (by omega) w
  have q22 := fun w => refPlan_any (N := N) (n := n) (c := c) w
  have hdp : decide (0 ≤ (c : Int) ∧ (c : Int) < (n : Int) ∧ (n : Int) ≤ (N : Int)) = true := decide_eq_true (by omega)
  simp only [hdp] at q22
  have wN : IntKind.i64.wrap ((N : Int) + 1) = (N : Int) + 1 := IntWalk.i64_in _ (by omega)
  have hN1 : ¬ (N : Int) < 1 := by omega
  have hN2 : ¬ (36 : Int) < (N : Int) := by omega
  have hall : Keep (∀ d b, acc n (N - n) d b ≤ ch N d) := ⟨fun d b => by have := acc_le n (N - n) d b; rwa [show n + (N - n) = N by omega] at this⟩
  have hch : Keep (∀ d, ch N d ≤ 9075135300) := ⟨ch_le h36⟩
  have z0 : rN (lb N n c 0) (ch N 0) = 0 ∧ rD (lb N n c 0) (ch N 0) = 1 := by
    have hl0 : lb N n c 0 = 0 := by
      have := lef_le n (N - n) 0 (c + 1)
      unfold lb
      omega
    rw [hl0]
    unfold rN rD
    rw [Nat.gcd_zero_left]
    exact ⟨Nat.zero_div _, Nat.div_self (ch_pos (by omega))⟩
  change ∀ w, Calls Try.prog 41 #[.int .i64 N, .int .i64 n, .int .i64 c] w fun e w' => e = .returned (.tuple #[redV (lb N n c b0) (ch N b0), .int .i64 (b0 : Nat), .int .i64 0]) ∧ Below w.heap.size w w' at q41
  have q44 := fun (W W' : World) (x y : Crs) (hx : CrsIn W x) (hy : CrsIn W y) (e1 : x.L = n) (e2 : x.A = curA n c) (e3 : x.R = curR c) (e4 : y.L = n) (e5 : y.A = curA n c) (e6 : y.R = curR c) =>
    (show (Calls Try.prog 44 #[x.sa, y.sa] W fun e w' => e = .returned (.bool true) ∧ ∃ m, w' = W.drewN m) ∧ (Calls Try.prog 44 #[x.sr, y.sr] W fun e w' => e = .returned (.bool true) ∧ ∃ m, w' = W.drewN m) from by
      have i1 := ints_crs hx
      have i2 := ints_crs hy
      rw [e1, e2, e3] at i1
      rw [e4, e5, e6] at i2
      have k1 := ints_any i1.1 i2.1 (by simp; omega)
      have k2 := ints_any i1.2 i2.2 (by simp; omega)
      rw [decide_eq_true rfl] at k1 k2
      exact ⟨k1, k2⟩)
  clear hdp
  unfold redV fracV at q41
  go_enter Try.func7, Try.ntmps7
  go_wp2_with (first
    | (go_at_call 40; (with_reducible refine (q40 _).mono ?_); rintro e w1 ⟨g, rfl, hb1, hg1, hf1⟩
       have hgl := hf1.lt
       clear q40)
    | (go_at_call 41; (with_reducible refine (q41 _).mono ?_); rintro e w2 ⟨rfl, hb2⟩
       have hf2 := hf1.below hb2 hf1.lt
       have hgl2 := Nat.lt_of_lt_of_le hgl hb2.size
       have hbw2 := hb1.trans (hb2.mono hb1.size)
       obtain ⟨w3, hw3⟩ : ∃ w3, w2.alloc (.cells #[.int .i64 (rN (lb N n c b0) (ch N b0) : Nat), .int .i64 (rD (lb N n c b0) (ch N b0) : Nat)] 27) = w3 := ⟨_, rfl⟩
       have hb3 : Below w2.heap.size w2 w3 := by rw [← hw3]; exact (Below.refl _ _).alloc (Nat.le_refl _) _
       have hR : CnR w w2.heap.size (.int .i64 (rN (lb N n c b0) (ch N b0) : Nat)) (.int .i64 (rD (lb N n c b0) (ch N b0) : Nat)) w3 := by rw [← hw3]; exact CnR.new hbw2 _ _ _
       have hf3 := hf2.below hb3 hf2.lt
       clear hb1 hb2 hb3 hf1 hf2 q41)
    | (go_at_call 42; (with_reducible refine (q42 _).mono ?_); rintro e w4 ⟨x, rfl, hx, xL, xA, xR, hb4⟩
       have hR := hR.after hb4
       have hf4 := hf3.below hb4 hf3.lt
       unfold Crs.val Crs.sa Crs.sr
       obtain ⟨w5, hw5⟩ : ∃ w5, w4.alloc (.cells #[.slice (some ⟨x.ga, x.oa, none⟩) x.L x.ca, .slice (some ⟨x.gr, x.ro, none⟩) x.L x.cr] 42) = w5 := ⟨_, rfl⟩
       have hb5 : Below w4.heap.size w4 w5 := by rw [← hw5]; exact (Below.refl _ _).alloc (Nat.le_refl _) _
       have hU : CnR w w4.heap.size (.slice (some ⟨x.ga, x.oa, none⟩) x.L x.ca) (.slice (some ⟨x.gr, x.ro, none⟩) x.L x.cr) w5 := by rw [← hw5]; exact CnR.new hR.bw _ _ _
       have hR := hR.after hb5
       have hf5 := hf4.below hb5 hf4.lt
       have hx5 := hx.after hb5
       have xk := Keep.mk (And.intro xL (And.intro xA xR))
       clear hb4 hb5 hf3 hf4 hx q42 xL xA xR)
    | (go_at_call 22; (with_reducible refine (q22 _).mono ?_); rintro e w9 ⟨rfl, rfl⟩)
    | (go_at_call 43; (with_reducible refine (q43 _).mono ?_); rintro e w6 ⟨y, rfl, hy, yL, yA, yR, hb6⟩
       have hR := hR.after hb6
       have hU := hU.after hb6
       have hf6 := hf5.below hb6 hf5.lt
       have hx6 := hx5.after hb6
       unfold Crs.val Crs.sa Crs.sr
       obtain ⟨w7, hw7⟩ : ∃ w7, w6.alloc (.cells #[.slice (some ⟨y.ga, y.oa, none⟩) y.L y.ca, .slice (some ⟨y.gr, y.ro, none⟩) y.L y.cr] 42) = w7 := ⟨_, rfl⟩
       have hb7 : Below w6.heap.size w6 w7 := by rw [← hw7]; exact (Below.refl _ _).alloc (Nat.le_refl _) _
       have hV : CnR w w6.heap.size (.slice (some ⟨y.ga, y.oa, none⟩) y.L y.ca) (.slice (some ⟨y.gr, y.ro, none⟩) y.L y.cr) w7 := by rw [← hw7]; exact CnR.new hR.bw _ _ _
       have hR := hR.after hb7
       have hU := hU.after hb7
       have hf7 := hf6.below hb7 hf6.lt
       have hx7 := hx6.after hb7
       have hy7 := hy.after hb7
       have yk := Keep.mk (And.intro yL (And.intro yA yR))
       have hq7 := q44 w7 w7 x y hx7 hy7 xk.out.1 xk.out.2.1 xk.out.2.2 yk.out.1 yk.out.2.1 yk.out.2.2
       obtain ⟨⟨t0, t1, t2, t3⟩, _⟩ := id hU
       obtain ⟨⟨s0, s1, s2, s3⟩, _⟩ := id hV
       unfold Crs.sa Crs.sr at hq7
       clear hb6 hb7 hf5 hf6 hx6 hx5 hy q43 yL yA yR)
    | (go_at_call 44; (with_reducible refine hq7.1.mono ?_); rintro e w8 ⟨rfl, m8, hm8⟩
       have hb8 : Below w7.heap.size w7 w8 := by rw [hm8]; exact below_drewN (Below.refl _ _) m8
       have hR := hR.after hb8
       have hU := hU.after hb8
       have hV := hV.after hb8
       have hf8 := hf7.below hb8 hf7.lt
       have hq8 := q44 w8 w8 x y (hx7.after hb8) (hy7.after hb8) xk.out.1 xk.out.2.1 xk.out.2.2 yk.out.1 yk.out.2.1 yk.out.2.2
       unfold Crs.sa Crs.sr at hq8
       obtain ⟨⟨t0, t1, t2, t3⟩, _⟩ := id hU
       obtain ⟨⟨s0, s1, s2, s3⟩, _⟩ := id hV
       clear hb8 hf7 hq7 hm8)
    | (go_at_call 44; (with_reducible refine hq8.2.mono ?_); rintro e wa ⟨rfl, ma, hma⟩
       have hba : Below w8.heap.size w8 wa := by rw [hma]; exact below_drewN (Below.refl _ _) ma
       have hR := hR.after hba
       have hfa := hf8.below hba hf8.lt
       clear hba hf8 hq8 hma hU hV t0 t1 t2 t3 s0 s1 s2 s3 hx7 hy7 q44))
  have hgw : Keep (g ≠ wa.heap.size ∧ w2.heap.size ≠ wa.heap.size ∧ w.heap.size ≤ wa.heap.size) := ⟨by have := hfa.lt; have := hR.o.lt; have := hR.bw.size; omega⟩
  have hI0 : CuI w g w2.heap.size wa.heap.size N n c b0 (bestTo N n c 0) (wa.alloc (.cells #[.int .i64 0, .int .i64 1] 27)) := by
    have hb1 : Below wa.heap.size wa (wa.alloc (.cells #[.int .i64 0, .int .i64 1] 27)) := (Below.refl _ _).alloc (Nat.le_refl _) _
    refine ⟨hfa.below hb1 hfa.lt, hR.o.after hb1, ?_, hR.bw.trans (hb1.mono hR.bw.size)⟩
    show Own2 _ _ (.int .i64 (rN (lb N n c 0) (ch N 0) : Nat)) (.int .i64 (rD (lb N n c 0) (ch N 0) : Nat))
    rw [z0.1, z0.2]
    exact Own2.new wa _ _ _
  generalize wa.alloc (.cells #[.int .i64 0, .int .i64 1] 27) = wb at *
  generalize w2.heap.size = g9 at *
  generalize wa.heap.size = g15 at *
  have hb0k := hb0
  clear hR hfa
  go_loopw [16, 17] (fun t i wr => ∃ k : Nat, k ≤ N + 1 ∧ i = .int .i64 k ∧ t = .int .i64 (bestTo N n c k : Nat) ∧ CuI w g g9 g15 N n c b0 (bestTo N n c k) wr) (fun _ i _ => N + 1 - (intOf i).toNat)
  case atStart => exact ⟨0, by omega, rfl, rfl, hI0⟩
  case round =>
    obtain ⟨k, hk, rfl, rfl, hI⟩ := hrel
    by_cases hkN : k ≤ N
    · have hkN' : (k : Int) ≤ (N : Int) := by omega
      have hbb := bestTo_bound N n c (k := k) hk
      have hstep : Keep (bestTo N n c (k + 1) = if lb N n c (bestTo N n c k) * ch N k < lb N n c k * ch N (bestTo N n c k) then k else bestTo N n c k) := ⟨rfl⟩
      obtain ⟨k0, hk0⟩ : ∃ k0, Keep (bestTo N n c k = k0) := ⟨_, ⟨rfl⟩⟩
      simp only [hk0.out] at hI hstep hbb ⊢
      have q21 := fun w => binom_any (n := N) (z := (k : Int)) h36 ⟨by omega, by omega⟩ w
      simp only [chZ_nat] at q21
      have q24 := fun w => accepts_any h36 hnN (c := c) (d := k) (by omega) hkN w
      have q45 : ∀ w, Calls Try.prog 45 #[.int .i64 N, .int .i64 k, .int .i64 n, .int .i64 c] w fun e w' => e = .returned (.int .i64 (lb N n c k : Nat)) ∧ w' = w := fun w => refLeft_any h36 hnN (c := c) (d := k) (by omega) hkN w
      have i1 := hall.out k (c + 1)
      have i2 := hch.out k
      have i3 : lb N n c k ≤ 326704870800 := lef_small h36 hnN hkN (c + 1)
      have i4 : lb N n c k0 ≤ 326704870800 := lef_small h36 hnN hbb (c + 1)
      have i5 := hch.out k0
      have q23 := fun w => reduced_any (acc n (N - n) k (c + 1)) (ch N k) (by omega) (ch_pos hkN) (by omega) w
      have q23b := fun w => reduced_any (lb N n c k) (ch N k) (by omega) (ch_pos hkN) (by omega) w
      have q46 := fun w => refLess_dec (a := lb N n c k0) (b := ch N k0) (c := lb N n c k) (d := ch N k) (by omega) (by omega) (by omega) (by omega) (ch_pos hbb) (ch_pos hkN) w
      have e1 := fun w => eq27 (rN (acc n (N - n) k (c + 1)) (ch N k) : Nat) (rD (acc n (N - n) k (c + 1)) (ch N k) : Nat) (rN (acc n (N - n) k (c + 1)) (ch N k) : Nat) (rD (acc n (N - n) k (c + 1)) (ch N k) : Nat) w
      simp only [beq_self_eq_true, Bool.and_self] at e1
      have hat := fun W (h : CuI w g g9 g15 N n c b0 k0 W) => h.at_ hkN
      have hpos0 : (0 : Int) ≤ (k : Int) + 1 := by omega
      have hfa : ¬ N + 1 ≤ k := by omega
      have hfb : ¬ (N : Int) + 1 ≤ (k : Int) := by omega
      have hk1 : k < N + 1 := by omega
      clear i1 i2 i3 i4 i5 hb0 hb0k z0
      unfold redV fracV at q23 q23b q46
      go_wp2_with (go_at_call 21; (with_reducible refine (q21 _).mono ?_); rintro e wx ⟨rfl, rfl⟩)
      refine (wpIn_wide (n := 0)).1 ?_
      refine Many.region_many (fun _ W => CuI w g g9 g15 N n c b0 k0 W) hmx (by kernel_rfl) (fun s s' W' h hc => hc) (fun s hs => hI.after ((Below.refl _ _).drew)) ?_
      refine Many.lex_want (by rfl) (Many.tr_read (v := .slice (some ⟨g, 0, none⟩) (N + 1) (N + 1)) (CuI w g g9 g15 N n c b0 k0) (fun s W h => h) (fun s W h => h) (fun W h => by (obtain ⟨f0, f1, f2, f3⟩ := hat W h; go_simp; try rfl; try (intro hx; first | exact absurd (hx hpos0) hfa | exact absurd hx hfb)))) ?_
      simp only [Act.put, List.setIfInBounds_toArray, List.set_cons_succ, List.set_cons_zero, Nat.reduceAdd]
      refine Many.lex_want (by rfl) (Many.tr_read (v := .int .i64 (k : Int)) (CuI w g g9 g15 N n c b0 k0) (fun s W h => h) (fun s W h => h) (fun W h => by (obtain ⟨f0, f1, f2, f3⟩ := hat W h; go_simp; try rfl; try (intro hx; first | exact absurd (hx hpos0) hfa | exact absurd hx hfb)))) ?_
      simp only [Act.put, List.setIfInBounds_toArray, List.set_cons_succ, List.set_cons_zero, Nat.reduceAdd]
      refine Many.lex_want (by rfl) (Many.tr_read (v := .pointer (some ⟨g, k * 2, none⟩)) (CuI w g g9 g15 N n c b0 k0) (fun s W h => h) (fun s W h => h) (fun W h => by (obtain ⟨f0, f1, f2, f3⟩ := hat W h; go_simp; try rfl; try (intro hx; first | exact absurd (hx hpos0) hfa | exact absurd hx hfb)))) ?_
      simp only [Act.put, List.setIfInBounds_toArray, List.set_cons_succ, List.set_cons_zero, Nat.reduceAdd]
      refine Many.lex_want (by rfl) (Many.tr_read (v := .agg #[.int .i64 (rN (acc n (N - n) k (c + 1)) (ch N k) : Nat), .int .i64 (rD (acc n (N - n) k (c + 1)) (ch N k) : Nat)]) (CuI w g g9 g15 N n c b0 k0) (fun s W h => h) (fun s W h => h) (fun W h => by (obtain ⟨f0, f1, f2, f3⟩ := hat W h; go_simp; try rfl; try (intro hx; first | exact absurd (hx hpos0) hfa | exact absurd hx hfb)))) ?_
      simp only [Act.put, List.setIfInBounds_toArray, List.set_cons_succ, List.set_cons_zero, Nat.reduceAdd]
      refine Many.lex_want (by rfl) (Many.tr_read (v := .int .i64 (N : Int)) (CuI w g g9 g15 N n c b0 k0) (fun s W h => h) (fun s W h => h) (fun W h => by (obtain ⟨f0, f1, f2, f3⟩ := hat W h; go_simp; try rfl; try (intro hx; first | exact absurd (hx hpos0) hfa | exact absurd hx hfb)))) ?_
      simp only [Act.put, List.setIfInBounds_toArray, List.set_cons_succ, List.set_cons_zero, Nat.reduceAdd]
      refine Many.lex_want (by rfl) (Many.tr_read (v := .int .i64 (k : Int)) (CuI w g g9 g15 N n c b0 k0) (fun s W h => h) (fun s W h => h) (fun W h => by (obtain ⟨f0, f1, f2, f3⟩ := hat W h; go_simp; try rfl; try (intro hx; first | exact absurd (hx hpos0) hfa | exact absurd hx hfb)))) ?_
      simp only [Act.put, List.setIfInBounds_toArray, List.set_cons_succ, List.set_cons_zero, Nat.reduceAdd]
      refine Many.lex_want (by rfl) (Many.tr_read (v := .int .i64 (n : Int)) (CuI w g g9 g15 N n c b0 k0) (fun s W h => h) (fun s W h => h) (fun W h => by (obtain ⟨f0, f1, f2, f3⟩ := hat W h; go_simp; try rfl; try (intro hx; first | exact absurd (hx hpos0) hfa | exact absurd hx hfb)))) ?_
      simp only [Act.put, List.setIfInBounds_toArray, List.set_cons_succ, List.set_cons_zero, Nat.reduceAdd]
      refine Many.lex_want (by rfl) (Many.tr_read (v := .int .i64 (c : Int)) (CuI w g g9 g15 N n c b0 k0) (fun s W h => h) (fun s W h => h) (fun W h => by (obtain ⟨f0, f1, f2, f3⟩ := hat W h; go_simp; try rfl; try (intro hx; first | exact absurd (hx hpos0) hfa | exact absurd hx hfb)))) ?_
      simp only [Act.put, List.setIfInBounds_toArray, List.set_cons_succ, List.set_cons_zero, Nat.reduceAdd]
      refine Many.lex_want (by rfl) (Many.tr_call (v := .int .i64 (acc n (N - n) k (c + 1) : Nat)) (f := 24) (args := #[.int .i64 N, .int .i64 k, .int .i64 n, .int .i64 c]) (CuI w g g9 g15 N n c b0 k0) (fun s W h => h) (fun s W h => (q24 W).mono fun e w' q => ⟨q.1, by rw [q.2]; exact h⟩) (fun W h => by (go_simp; try rfl))) ?_
      simp only [Act.put, List.setIfInBounds_toArray, List.set_cons_succ, List.set_cons_zero, Nat.reduceAdd]
      refine Many.lex_want (by rfl) (Many.tr_read (v := .int .i64 (ch N k : Nat)) (CuI w g g9 g15 N n c b0 k0) (fun s W h => h) (fun s W h => h) (fun W h => by (obtain ⟨f0, f1, f2, f3⟩ := hat W h; go_simp; try rfl; try (intro hx; first | exact absurd (hx hpos0) hfa | exact absurd hx hfb)))) ?_
      simp only [Act.put, List.setIfInBounds_toArray, List.set_cons_succ, List.set_cons_zero, Nat.reduceAdd]
      refine Many.lex_want (by rfl) (Many.tr_call (v := .agg #[.int .i64 (rN (acc n (N - n) k (c + 1)) (ch N k) : Nat), .int .i64 (rD (acc n (N - n) k (c + 1)) (ch N k) : Nat)]) (f := 23) (args := #[.int .i64 (acc n (N - n) k (c + 1) : Nat), .int .i64 (ch N k : Nat)]) (CuI w g g9 g15 N n c b0 k0) (fun s W h => h) (fun s W h => (q23 W).mono fun e w' q => ⟨q.1, h.after q.2⟩) (fun W h => by (go_simp; try rfl))) ?_
      simp only [Act.put, List.setIfInBounds_toArray, List.set_cons_succ, List.set_cons_zero, Nat.reduceAdd]
      refine Many.lex_want (by rfl) (Many.tr_read (v := .bool false) (CuI w g g9 g15 N n c b0 k0) (fun s W h => h) (fun s W h => h) (fun W h => by (obtain ⟨f0, f1, f2, f3⟩ := hat W h; go_simp; try rfl; try (intro hx; first | exact absurd (hx hpos0) hfa | exact absurd hx hfb)))) ?_
      simp only [Act.put, List.setIfInBounds_toArray, List.set_cons_succ, List.set_cons_zero, Nat.reduceAdd]
      refine Many.lex_nil fun s W5 hs hI5 => ?_
      clear hs hI
      by_cases hM : lb N n c k0 * ch N k < lb N n c k * ch N k0
      · have hs : Keep (bestTo N n c (k + 1) = k) := ⟨by rw [hstep.out, if_pos hM]⟩
        simp only [decide_eq_true hM] at q46
        clear hM hstep
        go_wp2_with (first
          | (go_at_call 45; (with_reducible refine (q45 _).mono ?_); rintro e wx ⟨rfl, rfl⟩)
          | (go_at_call 23; (with_reducible refine (q23b _).mono ?_); rintro e ws ⟨rfl, hbs⟩
             have hI := hI5.after hbs
             obtain ⟨wt, hwt⟩ : ∃ wt, ws.alloc (.cells #[.int .i64 (rN (lb N n c k) (ch N k) : Nat), .int .i64 (rD (lb N n c k) (ch N k) : Nat)] 27) = wt := ⟨_, rfl⟩
             have hT : CnR w ws.heap.size (.int .i64 (rN (lb N n c k) (ch N k) : Nat)) (.int .i64 (rD (lb N n c k) (ch N k) : Nat)) wt := by rw [← hwt]; exact CnR.new hI.bw _ _ _
             have hI := hI.after (show Below ws.heap.size ws wt by rw [← hwt]; exact (Below.refl _ _).alloc (Nat.le_refl _) _)
             obtain ⟨x0, x1, x2, x3⟩ := id hI.p
             obtain ⟨y0, y1, y2, y3⟩ := id hT.o
             clear hbs)
          | (go_at_call 46; (with_reducible refine (q46 _).mono ?_); rintro e wu ⟨rfl, hbu⟩
             have hI := hI.after hbu
             have hT := hT.after hbu
             obtain ⟨x0, x1, x2, x3⟩ := id hI.p
             obtain ⟨y0, y1, y2, y3⟩ := id hT.o
             clear hbu))
        refine ⟨⟨k + 1, by omega, by go_num, by rw [hs.out], ?_⟩, by simp [intOf]; omega⟩
        rw [hs.out]
        exact hI.set hgw.out.1 hgw.out.2.1 hgw.out.2.2
      · have hs : Keep (bestTo N n c (k + 1) = k0) := ⟨by rw [hstep.out, if_neg hM]⟩
        simp only [decide_eq_false hM] at q46
        clear hM hstep
        go_wp2_with (first
          | (go_at_call 45; (with_reducible refine (q45 _).mono ?_); rintro e wx ⟨rfl, rfl⟩)
          | (go_at_call 23; (with_reducible refine (q23b _).mono ?_); rintro e ws ⟨rfl, hbs⟩
             have hI := hI5.after hbs
             obtain ⟨wt, hwt⟩ : ∃ wt, ws.alloc (.cells #[.int .i64 (rN (lb N n c k) (ch N k) : Nat), .int .i64 (rD (lb N n c k) (ch N k) : Nat)] 27) = wt := ⟨_, rfl⟩
             have hT : CnR w ws.heap.size (.int .i64 (rN (lb N n c k) (ch N k) : Nat)) (.int .i64 (rD (lb N n c k) (ch N k) : Nat)) wt := by rw [← hwt]; exact CnR.new hI.bw _ _ _
             have hI := hI.after (show Below ws.heap.size ws wt by rw [← hwt]; exact (Below.refl _ _).alloc (Nat.le_refl _) _)
             obtain ⟨x0, x1, x2, x3⟩ := id hI.p
             obtain ⟨y0, y1, y2, y3⟩ := id hT.o
             clear hbs)
          | (go_at_call 46; (with_reducible refine (q46 _).mono ?_); rintro e wu ⟨rfl, hbu⟩
             have hI := hI.after hbu
             have hT := hT.after hbu
             obtain ⟨x0, x1, x2, x3⟩ := id hI.p
             obtain ⟨y0, y1, y2, y3⟩ := id hT.o
             clear hbu))
        refine ⟨⟨k + 1, by omega, by go_num, by rw [hs.out], ?_⟩, by simp [intOf]; omega⟩
        rw [hs.out]
        exact hI
    · obtain rfl : k = N + 1 := by omega
      have hkN' : ¬ ((N + 1 : Nat) : Int) ≤ (N : Int) := by omega
      simp only [hb0k.out] at hI ⊢
      obtain ⟨x0, x1, x2, x3⟩ := id hI.p
      obtain ⟨y0, y1, y2, y3⟩ := id hI.o
      have e1 := fun w => eq27 (rN (lb N n c b0) (ch N b0) : Nat) (rD (lb N n c b0) (ch N b0) : Nat) (rN (lb N n c b0) (ch N b0) : Nat) (rD (lb N n c b0) (ch N b0) : Nat) w
      simp only [beq_self_eq_true, Bool.and_self] at e1
      go_wp2_with (go_at_call 20; refine (awake_any _).mono ?_; rintro e wz ⟨rfl, hbz⟩
                   have hI := hI.after hbz
                   clear hbz)
      go_ret
      exact ⟨rfl, hI.bw⟩
theorem curves_any (N n c : Int) (w : World) : Calls Try.prog 7 #[.int .i64 N, .int .i64 n, .int .i64 c] w fun e w' => e = .returned (.bool true) ∧ Below w.heap.size w w' := by
  by_cases h : PlanOk N n c
  · obtain ⟨k1, k2, k3, k4, k5⟩ := id h
    obtain ⟨N', rfl⟩ : ∃ k : Nat, N = (k : Int) := ⟨N.toNat, by omega⟩
    obtain ⟨n', rfl⟩ : ∃ k : Nat, n = (k : Int) := ⟨n.toNat, by omega⟩
    obtain ⟨c', rfl⟩ : ∃ k : Nat, c = (k : Int) := ⟨c.toNat, by omega⟩
    exact curves_yes (by omega) (by omega) (by omega) (by omega) w
  · exact curves_no h w
end Go.Proofs.Ytbmfipjnfbnjgaa
