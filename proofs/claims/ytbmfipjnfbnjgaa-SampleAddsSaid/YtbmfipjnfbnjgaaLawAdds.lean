import Derived.Test.YtbmfipjnfbnjgaaTameAll
import Derived.Test.YtbmfipjnfbnjgaaChancesFn
import Derived.Test.YtbmfipjnfbnjgaaLawCurtailed
set_option linter.unusedSimpArgs false
set_option linter.unusedVariables false
namespace Go.Sample
section
variable {N d : Nat} {A R : Nat → Int}
theorem opn_endZ {n : Nat} (hR : R n = A n + 1) (k : Nat) : opn A R (n + 1) k = 0 := by
  rw [opn_succ, if_pos]
  omega
theorem ends_allZ {L : Nat} (hd : d ≤ N) (h1 : 1 ≤ L) (hL : L ≤ N) (hR : R (L - 1) = A (L - 1) + 1) : sumTo (fun i => yes N d A R i + no N d A R i) L = ch N d := by
  obtain ⟨n, rfl⟩ : ∃ n, L = n + 1 := ⟨L - 1, by omega⟩
  rw [Nat.add_sub_cancel] at hR
  rw [total_all hd (n + 1) hL, sumTo_zero (n + 1 + 1) (fun k _ => by rw [opn_endZ hR, Nat.zero_mul])]
  rfl
theorem sumTo_le2 {f : Nat → Nat} {a b : Nat} (h : a ≤ b) : sumTo f a ≤ sumTo f b := by
  induction b with
  | zero => rw [show a = 0 by omega]; exact Nat.le_refl _
  | succ b ih =>
    by_cases e : a = b + 1
    · rw [e]; exact Nat.le_refl _
    · exact Nat.le_trans (ih (by omega)) (Nat.le_add_right _ _)
theorem sumTo_fst (f g : Nat → Nat) : ∀ n, sumTo f n ≤ sumTo (fun i => f i + g i) n
  | 0 => Nat.le_refl _
  | n + 1 => Nat.add_le_add (sumTo_fst f g n) (Nat.le_add_right _ _)
end
end Go.Sample
namespace Go.Proofs.Ytbmfipjnfbnjgaa
open Go Go.Proofs Go.RowKit Go.Sample Go.Seq
theorem frL_at (f : Nat → Nat) (X : Nat) : ∀ n k, k < n → (frL f X n)[k * 2]? = some (.int .i64 (rN (f k) X : Nat)) ∧ (frL f X n)[k * 2 + 1]? = some (.int .i64 (rD (f k) X : Nat))
  | 0, k, h => by omega
  | n + 1, k, h => by
    have hl := frL_len f X n
    by_cases e : k = n
    · subst e
      constructor
      · rw [frL, List.getElem?_append_right (by omega), hl]; simp
      · rw [frL, List.getElem?_append_right (by omega), hl, show k * 2 + 1 - k * 2 = 1 by omega]; rfl
    · obtain ⟨h1, h2⟩ := frL_at f X n k (by omega)
      constructor
      · rw [frL, List.getElem?_append_left (by omega)]; exact h1
      · rw [frL, List.getElem?_append_left (by omega)]; exact h2
/-- A row of fractions in memory. -/
def FrAt (W : World) (g L X : Nat) (f : Nat → Nat) : Prop := ∀ k, k < L → W.cell? ⟨g, k * 2, none⟩ = some (.int .i64 (rN (f k) X : Nat)) ∧ W.cell? ⟨g, k * 2 + 1, none⟩ = some (.int .i64 (rD (f k) X : Nat))
theorem FrAt.of {W : World} {B L X : Nat} {f : Nat → Nat} {v : Value} (h : W.ownsRow B 27 2 v L (frL f X L)) (hL : 1 ≤ L) : ∃ g cap, v = .slice (some ⟨g, 0, none⟩) L cap ∧ FrAt W g L X f := by
  rcases h.2 with ⟨_, h0⟩ | ⟨g, cap, cur, rfl, hg, hh, hn, hcap, hsz, htake⟩
  · omega
  · refine ⟨g, cap, rfl, fun k hk => ?_⟩
    obtain ⟨h1, h2⟩ := frL_at f X L k hk
    rw [← htake, List.getElem?_take_of_lt (by omega), Array.getElem?_toList] at h1 h2
    exact ⟨by simp [World.cell?, hh, h1], by simp [World.cell?, hh, h2]⟩
theorem FrAt.keep {W W' : World} {g L X : Nat} {f : Nat → Nat} (h : FrAt W g L X f) (hb : Below W.heap.size W W') : FrAt W' g L X f := fun k hk => ⟨cell_below (h k hk).1 hb, cell_below (h k hk).2 hb⟩
structure AdI (w : World) (g11 g12 gy gn L X A M : Nat) (Y Z : Nat → Nat) (W : World) : Prop where
  y : FrAt W gy L X Y
  n : FrAt W gn L X Z
  o : Own2 W g11 (.int .i64 (rN A X : Nat)) (.int .i64 (rD A X : Nat))
  q : Own2 W g12 (.int .i64 (rN M X : Nat)) (.int .i64 (rD M X : Nat))
  bw : Below w.heap.size w W
theorem AdI.after {w : World} {g11 g12 gy gn L X A M : Nat} {Y Z : Nat → Nat} {W W' : World} (h : AdI w g11 g12 gy gn L X A M Y Z W) (hb : Below W.heap.size W W') : AdI w g11 g12 gy gn L X A M Y Z W' :=
  ⟨h.y.keep hb, h.n.keep hb, h.o.after hb, h.q.after hb, h.bw.trans (hb.mono h.bw.size)⟩
theorem AdI.drewN {w : World} {g11 g12 gy gn L X A M : Nat} {Y Z : Nat → Nat} {W : World} (h : AdI w g11 g12 gy gn L X A M Y Z W) (m : Nat) : AdI w g11 g12 gy gn L X A M Y Z (W.drewN m) := h.after (below_drewN (Below.refl _ _) m)
theorem red_cmp2 {A X : Nat} (hX : 1 ≤ X) (h : A ≤ X) : rN A X ≤ rD A X := by
  obtain ⟨h1, h2, h3, _⟩ := red_mul (a := A) hX
  exact Nat.le_of_mul_le_mul_right (by rw [h1, h2]; exact h) (by omega : 0 < Nat.gcd A X)
set_option maxHeartbeats 8000000 in
set_option maxRecDepth 100000 in
theorem adds_any (a0 a1 : Int) {va vr : Value} {za zr : List Int} {w : World} (ha : ArgInts w va za) (hr : ArgInts w vr zr) : Calls Try.prog 10 #[.agg #[.int .i64 a0, .int .i64 a1], va, vr] w fun e w' => e = .returned (.bool true) ∧ Below w.heap.size w w' := by
  have hmx : Try.prog.follows .mixedOrders = true := by kernel_rfl
  have m0 := modN_lt a0 (m := 36) (by omega)
  have q0 : ∀ w, Calls Try.prog 48 #[.int .i64 a0, .int .i64 36] w fun e w' => e = .returned (.int .i64 (modN a0 36 : Nat)) ∧ w' = w := fun w => mod_any a0 (m := 36) (by omega) (by omega) w
  generalize modN a0 36 = z0 at *
  obtain ⟨N, hN⟩ : ∃ N : Nat, N = 1 + z0 := ⟨_, rfl⟩
  have h1 : 1 ≤ N := by omega
  have h36 : N ≤ 36 := by omega
  have w1 : IntKind.i64.wrap (1 + (z0 : Int)) = (N : Int) := by rw [IntWalk.i64_in _ (by omega)]; omega
  have m1 := modN_lt a1 (m := N + 1) (by omega)
  have q1 := fun w => mod_any a1 (m := N + 1) (by omega) (by omega) w
  simp only [Int.natCast_add, Int.cast_ofNat_Int] at q1
  generalize modN a1 (N + 1) = d at *
  have hd : d ≤ N := by omega
  have wN : IntKind.i64.wrap ((N : Int) + 1) = (N : Int) + 1 := IntWalk.i64_in _ (by omega)
  clear hN m0 m1
  obtain ⟨n0, hn0⟩ : ∃ k, Keep (tmL N za = k) := ⟨_, ⟨rfl⟩⟩
  have k1 : 1 ≤ n0 := by rw [← hn0.out]; unfold tmL; omega
  have k2 : n0 ≤ N := by rw [← hn0.out]; unfold tmL; omega
  have hcok := Keep.mk (fun (ga oa ca gr ro cr : Nat) => (tame_ok za zr k1 k2 : CrsOk (⟨ga, oa, ca, gr, ro, cr, n0, tmA n0 za, tmR n0 za zr⟩ : Crs) N))
  have q50 := Keep.mk (fun (W : World) (ha : ArgInts W va za) (hr : ArgInts W vr zr) => tame_any h1 h36 (argInts_at ha).1 (argInts_at hr).1 (argInts_at ha).2 (argInts_at hr).2)
  have q33 := Keep.mk (fun (W : World) (x : Crs) (hc : CrsIn W x) (hok : CrsOk x N) => (course_any h1 h36 hd hc hok))
  have q34 := Keep.mk (fun (W : World) (x : Crs) (hc : CrsIn W x) (hok : CrsOk x N) => (chances_any h1 h36 hd hc hok))
  have q32 := Keep.mk (fun (W : World) (x : Crs) (hc : CrsIn W x) (hok : CrsOk x N) => (fits_any h1 h36 hc hok))
  have q17 := fun w => ways_any h1 h36 hd w
  have p1 := ch_pos hd
  have p2 := ch_le h36 d
  obtain ⟨X, hX⟩ : ∃ X, Keep (ch N d = X) := ⟨_, ⟨rfl⟩⟩
  obtain ⟨A0, hA0⟩ : ∃ f, Keep (tmA n0 za = f) := ⟨_, ⟨rfl⟩⟩
  obtain ⟨R0, hR0⟩ : ∃ f, Keep (tmR n0 za zr = f) := ⟨_, ⟨rfl⟩⟩
  simp only [hA0.out, hR0.out] at hcok
  obtain ⟨Y, hY⟩ : ∃ f : Nat → Nat, Keep ((fun k => yes N d A0 R0 k) = f) := ⟨_, ⟨rfl⟩⟩
  obtain ⟨Z, hZ⟩ : ∃ f : Nat → Nat, Keep ((fun k => no N d A0 R0 k) = f) := ⟨_, ⟨rfl⟩⟩
  have hlast : R0 (n0 - 1) = A0 (n0 - 1) + 1 := (hcok.out 0 0 0 0 0 0).last
  have hacc := accAll_eq (N := N) (d := d) (A := A0) (R := R0) k2 h36
  have hex := exAll_eq (N := N) (d := d) (A := A0) (R := R0) k2 h36
  have hends := ends_allZ (N := N) (d := d) hd k1 k2 hlast
  have eY : ∀ i, yes N d A0 R0 i = Y i := fun i => congrFun hY.out i
  have eZ : ∀ i, no N d A0 R0 i = Z i := fun i => congrFun hZ.out i
  simp only [eY, eZ] at hacc hex hends
  rw [hX.out] at hends p1 p2
  obtain ⟨A, hA⟩ : ∃ A, Keep (accAll N d A0 R0 n0 = A) := ⟨_, ⟨rfl⟩⟩
  obtain ⟨M, hM⟩ : ∃ M, Keep (exAll N d A0 R0 n0 = M) := ⟨_, ⟨rfl⟩⟩
  rw [hA.out] at hacc
  rw [hM.out] at hex
  have hwle := weigh_le (fun i => Y i + Z i) n0
  obtain ⟨sY, hsY⟩ : ∃ f : Nat → Nat, Keep (sumTo (fun i => Y i) = f) := ⟨_, ⟨rfl⟩⟩
  obtain ⟨sB, hsB⟩ : ∃ f : Nat → Nat, Keep (sumTo (fun i => Y i + Z i) = f) := ⟨_, ⟨rfl⟩⟩
  obtain ⟨sP, hsP⟩ : ∃ f : Nat → Nat, Keep (sumTo (fun i => (i + 1) * (Y i + Z i)) = f) := ⟨_, ⟨rfl⟩⟩
  rw [hsY.out] at hacc
  rw [hsB.out] at hends
  rw [hsP.out] at hex
  simp only [hsB.out, hsP.out] at hwle
  have hYs : Keep (∀ k, sY (k + 1) = sY k + Y k) := ⟨fun k => by rw [← hsY.out]; rfl⟩
  have hBs : Keep (∀ k, sB (k + 1) = sB k + (Y k + Z k)) := ⟨fun k => by rw [← hsB.out]; rfl⟩
  have hPs : Keep (∀ k, sP (k + 1) = sP k + (k + 1) * (Y k + Z k)) := ⟨fun k => by rw [← hsP.out]; rfl⟩
  have hBle : Keep (∀ k, k ≤ n0 → sB k ≤ X) := ⟨fun k hk => by rw [← hends, ← hsB.out]; exact sumTo_le2 hk⟩
  have hYle : Keep (∀ k, k ≤ n0 → sY k ≤ X) := ⟨fun k hk => Nat.le_trans (by rw [← hsY.out, ← hsB.out]; exact sumTo_fst Y Z k) (hBle.out k hk)⟩
  have hPle : Keep (∀ k, k ≤ n0 → sP k ≤ 36 * 9075135300) := ⟨fun k hk => Nat.le_trans (hwle k hk) (Nat.le_trans (Nat.mul_le_mul (by omega) (hBle.out k hk)) (Nat.mul_le_mul (Nat.le_refl _) p2))⟩
  have z1 : sY 0 = 0 := by rw [← hsY.out]; rfl
  have z2 : sB 0 = 0 := by rw [← hsB.out]; rfl
  have z3 : sP 0 = 0 := by rw [← hsP.out]; rfl
  have hAle : A ≤ X := by rw [hacc]; exact hYle.out n0 (Nat.le_refl _)
  have hMle : M ≤ 36 * 9075135300 := by rw [hex]; exact hPle.out n0 (Nat.le_refl _)
  have haccK := Keep.mk hacc
  have hexK := Keep.mk hex
  have hendsK := Keep.mk hends
  have q23a := fun w => reduced_any A X (by omega) p1 (by omega) w
  have q23m := fun w => reduced_any M X (by omega) p1 (by omega) w
  have e1 : ∀ w, (Op.equalIn 10000 27 (.agg #[.int .i64 (rN A X : Nat), .int .i64 (rD A X : Nat)]) (.agg #[.int .i64 (rN A X : Nat), .int .i64 (rD A X : Nat)])).run Try.prog w = .ok true w := fun w => by rw [eq27]; simp
  have e2 : ∀ w, (Op.equalIn 10000 27 (.agg #[.int .i64 (rN M X : Nat), .int .i64 (rD M X : Nat)]) (.agg #[.int .i64 (rN M X : Nat), .int .i64 (rD M X : Nat)])).run Try.prog w = .ok true w := fun w => by rw [eq27]; simp
  have q49 := Keep.mk (fun (a : Nat) (ha : a ≤ X) (w : World) => valid_any (a := a) (b := X) (by omega) (by omega) p1 w)
  have p1i : ¬ (X : Int) < 1 := by omega
  have p2i : ¬ (1099511627776 : Int) < (X : Int) := by omega
  simp only [hX.out] at q17
  clear hacc hex hends hwle hlast eY eZ
  obtain ⟨wq, hwq⟩ : ∃ wq, w.alloc (.cells #[.int .i64 a0, .int .i64 a1] 22) = wq := ⟨_, rfl⟩
  have bw0 : Below w.heap.size w wq := by rw [← hwq]; exact (Below.refl _ _).alloc (Nat.le_refl _) _
  have ha0 := argInts_keep ha bw0
  have hr0 := argInts_keep hr bw0
  obtain ⟨x0, x1, _, _⟩ : Own2 wq w.heap.size (.int .i64 a0) (.int .i64 a1) := by rw [← hwq]; exact Own2.new _ _ _ _
  have q50' := q50.out wq ha0 hr0
  clear ha0 hr0
  go_enter Try.func10, Try.ntmps10
  go_wp2_with (first
    | (go_at_call 48; (with_reducible refine (q0 _).mono ?_); rintro e v1 ⟨rfl, hv1⟩; rw [hv1]; clear hv1 v1)
    | (go_at_call 48; (with_reducible refine (q1 _).mono ?_); rintro e v2 ⟨rfl, hv2⟩; rw [hv2]; clear hv2 v2)
    | (go_at_call 50; (with_reducible refine q50'.mono ?_); rintro e w2 ⟨⟨ga, oa, ca, gr, ro, cr, L', xA, xR⟩, rfl, hx, xL1, xA1, xR1, hb2, _⟩
       have xL2 : L' = n0 := xL1.trans hn0.out
       have xA2 : xA = A0 := by rw [← hA0.out, ← hn0.out]; exact xA1
       have xR2 : xR = R0 := by rw [← hR0.out, ← hn0.out]; exact xR1
       subst xL2 xA2 xR2
       have bw2 := bw0.trans (hb2.mono bw0.size)
       simp only [Crs.val, Crs.sa, Crs.sr]
       obtain ⟨w3, hw3⟩ : ∃ w3, w2.alloc (.cells #[.slice (some ⟨ga, oa, none⟩) L' ca, .slice (some ⟨gr, ro, none⟩) L' cr] 42) = w3 := ⟨_, rfl⟩
       have b3 : Below w2.heap.size w2 w3 := by rw [← hw3]; exact (Below.refl _ _).alloc (Nat.le_refl _) _
       have hX3 : XR w2.heap.size (⟨ga, oa, ca, gr, ro, cr, L', xA, xR⟩ : Crs) w3 := ⟨by rw [← hw3]; exact Own2.new _ _ _ _, hx.after b3⟩
       have bw3 := bw2.trans (b3.mono bw2.size)
       obtain ⟨v0, v1, _, _⟩ := hX3.o
       simp only [Crs.sa, Crs.sr] at v0 v1
       have hok := Keep.mk (hcok.out ga oa ca gr ro cr)
       have q32' := q32.out w3 _ hX3.c hok.out
       simp only [Crs.val, Crs.sa, Crs.sr] at q32'
       clear hb2 b3 q50' hx xL1 xA1 xR1 bw0 bw2)
    | (go_at_call 32; (with_reducible refine q32'.mono ?_); rintro e w4 ⟨rfl, hb4⟩
       have hX4 := hX3.after hb4
       have bw4 := bw3.trans (hb4.mono bw3.size)
       obtain ⟨v0, v1, _, _⟩ := hX4.o
       simp only [Crs.sa, Crs.sr] at v0 v1
       have q33' := q33.out w4 _ hX4.c hok.out
       simp only [hA.out, hM.out, hX.out] at q33'
       simp only [Crs.val, Crs.sa, Crs.sr, redV, fracV] at q33'
       clear hb4 q32' hX3 bw3)
    | (go_at_call 33; (with_reducible refine q33'.mono ?_); rintro e w5 ⟨rfl, hb5⟩
       obtain ⟨wz, hwz⟩ : ∃ wz, w5.alloc (.cells #[.int .i64 (rN A X : Nat), .int .i64 (rD A X : Nat)] 27) = wz := ⟨_, rfl⟩
       obtain ⟨wy, hwy⟩ : ∃ wy, wz.alloc (.cells #[.int .i64 (rN M X : Nat), .int .i64 (rD M X : Nat)] 27) = wy := ⟨_, rfl⟩
       have sz : wz.heap.size = w5.heap.size + 1 := by rw [← hwz]; simp
       have bz : Below w5.heap.size w5 wz := by rw [← hwz]; exact (Below.refl _ _).alloc (Nat.le_refl _) _
       have by_ : Below wz.heap.size wz wy := by rw [← hwy]; exact (Below.refl _ _).alloc (Nat.le_refl _) _
       have b5 := (hb5.trans (bz.mono hb5.size)).trans (by_.mono (hb5.trans (bz.mono hb5.size)).size)
       have o11 : Own2 wy w5.heap.size (.int .i64 (rN A X : Nat)) (.int .i64 (rD A X : Nat)) := by
         have : Own2 wz w5.heap.size (.int .i64 (rN A X : Nat)) (.int .i64 (rD A X : Nat)) := by rw [← hwz]; exact Own2.new _ _ _ _
         exact this.after by_
       have o12 : Own2 wy (w5.heap.size + 1) (.int .i64 (rN M X : Nat)) (.int .i64 (rD M X : Nat)) := by rw [← sz, ← hwy]; exact Own2.new _ _ _ _
       have hX5 := hX4.after b5
       have bw5 := bw4.trans (b5.mono bw4.size)
       obtain ⟨v0, v1, _, _⟩ := hX5.o
       simp only [Crs.sa, Crs.sr] at v0 v1
       have q34' := q34.out wy _ hX5.c hok.out
       simp only [hX.out, hY.out, hZ.out] at q34'
       simp only [Crs.val, Crs.sa, Crs.sr] at q34'
       clear hb5 bz by_ b5 q33' hX4 bw4)
    | (go_at_call 34; (with_reducible refine q34'.mono ?_); rintro e w7 ⟨ua, ur, rfl, hua, hur, hb7⟩
       obtain ⟨gy, cy, rfl, hfy⟩ := FrAt.of hua k1
       obtain ⟨gn, cn, rfl, hfn⟩ := FrAt.of hur k1
       have hX7 := hX5.after hb7
       have hI7 : AdI w w5.heap.size (w5.heap.size + 1) gy gn L' X A M Y Z w7 := ⟨hfy, hfn, o11.after hb7, o12.after hb7, bw5.trans (hb7.mono bw5.size)⟩
       clear hb7 q34' hX5 hua hur hfy hfn bw5)
    | (go_at_call 17; (with_reducible refine (q17 _).mono ?_); rintro e w8 ⟨rfl, hb8⟩
       have hI8 := hI7.after hb8
       obtain ⟨v0, v1, _, _⟩ := (hX7.after hb8).o
       simp only [Crs.sa, Crs.sr] at v0 v1
       clear hb8 q17 hX7 hI7))
  obtain ⟨G, hG⟩ : ∃ G, w5.heap.size = G := ⟨_, rfl⟩
  rw [hG] at hI8 ⊢
  clear hG sz hwz hwy
  go_loopw [19, 20, 21, 22] (fun s t u i wr => ∃ k : Nat, k ≤ L' ∧ i = .int .i64 k ∧ s = .int .i64 (sY k : Nat) ∧ t = .int .i64 (sB k : Nat) ∧ u = .int .i64 (sP k : Nat) ∧ Keep (AdI w G (G + 1) gy gn L' X A M Y Z wr)) (fun _ _ _ i _ => L' - (intOf i).toNat)
  case atStart => exact ⟨0, by omega, rfl, by rw [z1]; rfl, by rw [z2]; rfl, by rw [z3]; rfl, ⟨hI8⟩⟩
  case round =>
    obtain ⟨k, hk, rfl, rfl, rfl, rfl, hI⟩ := hrel
    by_cases hlt : k < L'
    · have hlt' : (k : Int) < (L' : Int) := by omega
      have u1 := hYs.out k
      have u2 := hBs.out k
      have u3 := hPs.out k
      have l1 := hYle.out (k + 1) (by omega)
      have l2 := hBle.out (k + 1) (by omega)
      have l3 := hPle.out (k + 1) (by omega)
      obtain ⟨y, hy⟩ : ∃ y, Keep (Y k = y) := ⟨_, ⟨rfl⟩⟩
      obtain ⟨z, hz⟩ : ∃ z, Keep (Z k = z) := ⟨_, ⟨rfl⟩⟩
      rw [hy.out] at u1
      rw [hy.out, hz.out] at u2 u3
      have hyX : y ≤ X := by omega
      have hzX : z ≤ X := by omega
      have q49y := fun w => q49.out y hyX w
      have q49z := fun w => q49.out z hzX w
      obtain ⟨r1, r2, r3, r4⟩ := red_mul (a := y) p1
      obtain ⟨t1, t2, t3, t4⟩ := red_mul (a := z) p1
      have c1 := red_cmp2 p1 hyX
      have c2 := red_cmp2 p1 hzX
      have hcy : Keep (∀ W, AdI w G (G + 1) gy gn L' X A M Y Z W → W.cell? ⟨gy, k * 2, none⟩ = some (.int .i64 (rN y X : Nat)) ∧ W.cell? ⟨gy, k * 2 + 1, none⟩ = some (.int .i64 (rD y X : Nat)) ∧ W.cell? ⟨gn, k * 2, none⟩ = some (.int .i64 (rN z X : Nat)) ∧ W.cell? ⟨gn, k * 2 + 1, none⟩ = some (.int .i64 (rD z X : Nat))) := ⟨fun W h => by
        have a := h.y k hlt
        have b := h.n k hlt
        rw [hy.out] at a
        rw [hz.out] at b
        exact ⟨a.1, a.2, b.1, b.2⟩⟩
      unfold redV fracV at q49y q49z
      generalize hgy : Nat.gcd y X = dy at *
      generalize hgz : Nat.gcd z X = dz at *
      generalize rN y X = n1 at *
      generalize rD y X = n2 at *
      generalize rN z X = n3 at *
      generalize rD z X = n4 at *
      clear hgy hgz
      have d1 : X % n2 = 0 := by rw [← r2]; exact Nat.mul_mod_right _ _
      have d2 : X % n4 = 0 := by rw [← t2]; exact Nat.mul_mod_right _ _
      have d3 : X / n2 = dy := by rw [← r2]; exact Nat.mul_div_cancel_left _ (by omega)
      have d4 : X / n4 = dz := by rw [← t2]; exact Nat.mul_div_cancel_left _ (by omega)
      have dyX : dy ≤ X := by rw [← d3]; exact Nat.div_le_self _ _
      have dzX : dz ≤ X := by rw [← d4]; exact Nat.div_le_self _ _
      have f1 : IntKind.i64.wrap ((X : Int).tmod (n2 : Int)) = 0 := by rw [IntWalk.up_tmod rfl rfl, d1]; rfl
      have f2 : IntKind.i64.wrap ((X : Int).tmod (n4 : Int)) = 0 := by rw [IntWalk.up_tmod rfl rfl, d2]; rfl
      have f3 : ((X : Int) % (n2 : Int)) = 0 := by show ((X % n2 : Nat) : Int) = 0; rw [d1]; rfl
      have f4 : ((X : Int) % (n4 : Int)) = 0 := by show ((X % n4 : Nat) : Int) = 0; rw [d2]; rfl
      have f1' : (X : Int).tmod (n2 : Int) = 0 := by rw [IntWalk.up_tmod rfl rfl, d1]; rfl
      have f2' : (X : Int).tmod (n4 : Int) = 0 := by rw [IntWalk.up_tmod rfl rfl, d2]; rfl
      have b5 : ¬ n2 = 0 := by omega
      have b6 : ¬ n4 = 0 := by omega
      have f5 : IntKind.i64.wrap ((X : Int).tdiv (n2 : Int)) = (dy : Int) := by rw [IntWalk.up_tdiv rfl rfl, d3, IntWalk.i64_in _ (by omega)]
      have f6 : IntKind.i64.wrap ((X : Int).tdiv (n4 : Int)) = (dz : Int) := by rw [IntWalk.up_tdiv rfl rfl, d4, IntWalk.i64_in _ (by omega)]
      have f7 : ((X : Int) / (n2 : Int)) = (dy : Int) := by rw [← Int.natCast_ediv, d3]
      have f8 : ((X : Int) / (n4 : Int)) = (dz : Int) := by rw [← Int.natCast_ediv, d4]
      have f9 : IntKind.i64.wrap ((dy : Int)) = (dy : Int) := IntWalk.i64_in _ (by omega)
      have f10 : IntKind.i64.wrap ((dz : Int)) = (dz : Int) := IntWalk.i64_in _ (by omega)
      have f11 : wrap64 ((dy : Int)) = (dy : Int) := by unfold wrap64; omega
      have f12 : wrap64 ((dz : Int)) = (dz : Int) := by unfold wrap64; omega
      have g1 : IntKind.i64.wrap ((dy : Int) * (n1 : Int)) = (y : Int) := by rw [← Int.natCast_mul, Nat.mul_comm, r1, IntWalk.i64_in _ (by omega)]
      have g2 : IntKind.i64.wrap ((dz : Int) * (n3 : Int)) = (z : Int) := by rw [← Int.natCast_mul, Nat.mul_comm, t1, IntWalk.i64_in _ (by omega)]
      have b1 : ((n2 : Int) == 0) = false := by rw [beq_eq_false_iff_ne]; omega
      have b2 : ((n4 : Int) == 0) = false := by rw [beq_eq_false_iff_ne]; omega
      have b3 : ¬ (n2 : Int) = 0 := by omega
      have b4 : ¬ (n4 : Int) = 0 := by omega
      have c1i : ¬ (n2 : Int) < (n1 : Int) := by omega
      have c2i : ¬ (n4 : Int) < (n3 : Int) := by omega
      have c1n : ¬ n2 < n1 := by omega
      have c2n : ¬ n4 < n3 := by omega
      obtain ⟨s', hs'⟩ : ∃ s', Keep (sY (k + 1) = s') := ⟨_, ⟨rfl⟩⟩
      obtain ⟨t', ht'⟩ : ∃ t', Keep (sB (k + 1) = t') := ⟨_, ⟨rfl⟩⟩
      obtain ⟨u', hu'⟩ : ∃ u', Keep (sP (k + 1) = u') := ⟨_, ⟨rfl⟩⟩
      rw [hs'.out] at u1 l1
      rw [ht'.out] at u2 l2
      rw [hu'.out] at u3 l3
      generalize sY k = s at *
      generalize sB k = t at *
      generalize sP k = u at *
      obtain ⟨yz, hyz⟩ : ∃ v, y + z = v := ⟨_, rfl⟩
      obtain ⟨pr, hpr⟩ : ∃ v, (k + 1) * yz = v := ⟨_, rfl⟩
      obtain ⟨ty, hty⟩ : ∃ v, t + y = v := ⟨_, rfl⟩
      rw [hyz, hpr] at u3
      have o1 : IntKind.i64.wrap ((s : Int) + (y : Int)) = (s' : Int) := by rw [IntWalk.i64_in _ (by omega)]; omega
      have o2 : IntKind.i64.wrap ((t : Int) + (y : Int)) = (ty : Int) := by rw [IntWalk.i64_in _ (by omega)]; omega
      have o3 : IntKind.i64.wrap ((ty : Int) + (z : Int)) = (t' : Int) := by rw [IntWalk.i64_in _ (by omega)]; omega
      have o4 : IntKind.i64.wrap ((k : Int) + 1) = (k : Int) + 1 := IntWalk.i64_in _ (by omega)
      have o5 : IntKind.i64.wrap ((y : Int) + (z : Int)) = (yz : Int) := by rw [IntWalk.i64_in _ (by omega)]; omega
      have o6 : IntKind.i64.wrap (((k : Int) + 1) * (yz : Int)) = (pr : Int) := by
        rw [show ((k : Int) + 1) * (yz : Int) = (pr : Int) by rw [← hpr]; push_cast; rfl, IntWalk.i64_in _ (by omega)]
      have o7 : IntKind.i64.wrap ((u : Int) + (pr : Int)) = (u' : Int) := by rw [IntWalk.i64_in _ (by omega)]; omega
      clear r1 r2 r3 t1 t2 t3 d1 d2 d3 d4 u1 u2 u3 hyz hpr hty l1 l2 l3 c1 c2
      go_wp2
      refine (wpIn_wide (n := 0)).1 ?_
      refine Many.region_many (fun _ W => AdI w G (G + 1) gy gn L' X A M Y Z W) hmx (by kernel_rfl) (fun s s' W' h hc => hc) (fun s hs => hI.out.after ((Below.refl _ _).drew)) ?_
      refine Many.lex_want (by rfl) (Many.tr_read (v := (.slice (some ⟨gy, 0, none⟩) L' cy)) (AdI w G (G + 1) gy gn L' X A M Y Z) (fun s W h => h) (fun s W h => h) (fun W h => by (obtain ⟨w0, w1, w2, w3⟩ := hcy.out W h; clear h; go_simp; (try rfl); (try (first | done | omega | (intros; omega)))))) ?_
      simp only [Act.put, List.setIfInBounds_toArray, List.set_cons_succ, List.set_cons_zero, Nat.reduceAdd]
      refine Many.lex_want (by rfl) (Many.tr_read (v := .int .i64 k) (AdI w G (G + 1) gy gn L' X A M Y Z) (fun s W h => h) (fun s W h => h) (fun W h => by (obtain ⟨w0, w1, w2, w3⟩ := hcy.out W h; clear h; go_simp; (try rfl); (try (first | done | omega | (intros; omega)))))) ?_
      simp only [Act.put, List.setIfInBounds_toArray, List.set_cons_succ, List.set_cons_zero, Nat.reduceAdd]
      refine Many.lex_want (by rfl) (Many.tr_read (v := .pointer (some ⟨gy, k * 2, none⟩)) (AdI w G (G + 1) gy gn L' X A M Y Z) (fun s W h => h) (fun s W h => h) (fun W h => by (obtain ⟨w0, w1, w2, w3⟩ := hcy.out W h; clear h; go_simp; (try rfl); (try (first | done | omega | (intros; omega)))))) ?_
      simp only [Act.put, List.setIfInBounds_toArray, List.set_cons_succ, List.set_cons_zero, Nat.reduceAdd]
      refine Many.lex_want (by rfl) (Many.tr_read (v := .agg #[.int .i64 n1, .int .i64 n2]) (AdI w G (G + 1) gy gn L' X A M Y Z) (fun s W h => h) (fun s W h => h) (fun W h => by (obtain ⟨w0, w1, w2, w3⟩ := hcy.out W h; clear h; go_simp; (try rfl); (try (first | done | omega | (intros; omega)))))) ?_
      simp only [Act.put, List.setIfInBounds_toArray, List.set_cons_succ, List.set_cons_zero, Nat.reduceAdd]
      refine Many.lex_want (by rfl) (Many.tr_call (v := .bool true) (f := 49) (args := #[.agg #[.int .i64 n1, .int .i64 n2]]) (AdI w G (G + 1) gy gn L' X A M Y Z) (fun s W h => h) (fun s W h => (q49y W).mono fun e w' q => ⟨q.1, h.after q.2⟩) (fun W h => by (clear h; go_simp; try rfl))) ?_
      simp only [Act.put, List.setIfInBounds_toArray, List.set_cons_succ, List.set_cons_zero, Nat.reduceAdd]
      refine Many.lex_want (by rfl) (Many.tr_read (v := .bool false) (AdI w G (G + 1) gy gn L' X A M Y Z) (fun s W h => h) (fun s W h => h) (fun W h => by (obtain ⟨w0, w1, w2, w3⟩ := hcy.out W h; clear h; go_simp; (try rfl); (try (first | done | omega | (intros; omega)))))) ?_
      simp only [Act.put, List.setIfInBounds_toArray, List.set_cons_succ, List.set_cons_zero, Nat.reduceAdd]
      refine Many.lex_want (by rfl) (Many.tr_read (v := .bool false) (AdI w G (G + 1) gy gn L' X A M Y Z) (fun s W h => h) (fun s W h => h) (fun W h => by (obtain ⟨w0, w1, w2, w3⟩ := hcy.out W h; clear h; go_simp; (try rfl); (try (first | done | omega | (intros; omega)))))) ?_
      simp only [Act.put, List.setIfInBounds_toArray, List.set_cons_succ, List.set_cons_zero, Nat.reduceAdd]
      refine Many.lex_want (by rfl) (Many.tr_read (v := (.slice (some ⟨gn, 0, none⟩) L' cn)) (AdI w G (G + 1) gy gn L' X A M Y Z) (fun s W h => h) (fun s W h => h) (fun W h => by (obtain ⟨w0, w1, w2, w3⟩ := hcy.out W h; clear h; go_simp; (try rfl); (try (first | done | omega | (intros; omega)))))) ?_
      simp only [Act.put, List.setIfInBounds_toArray, List.set_cons_succ, List.set_cons_zero, Nat.reduceAdd]
      refine Many.lex_want (by rfl) (Many.tr_read (v := .int .i64 k) (AdI w G (G + 1) gy gn L' X A M Y Z) (fun s W h => h) (fun s W h => h) (fun W h => by (obtain ⟨w0, w1, w2, w3⟩ := hcy.out W h; clear h; go_simp; (try rfl); (try (first | done | omega | (intros; omega)))))) ?_
      simp only [Act.put, List.setIfInBounds_toArray, List.set_cons_succ, List.set_cons_zero, Nat.reduceAdd]
      refine Many.lex_want (by rfl) (Many.tr_read (v := .pointer (some ⟨gn, k * 2, none⟩)) (AdI w G (G + 1) gy gn L' X A M Y Z) (fun s W h => h) (fun s W h => h) (fun W h => by (obtain ⟨w0, w1, w2, w3⟩ := hcy.out W h; clear h; go_simp; (try rfl); (try (first | done | omega | (intros; omega)))))) ?_
      simp only [Act.put, List.setIfInBounds_toArray, List.set_cons_succ, List.set_cons_zero, Nat.reduceAdd]
      refine Many.lex_want (by rfl) (Many.tr_read (v := .agg #[.int .i64 n3, .int .i64 n4]) (AdI w G (G + 1) gy gn L' X A M Y Z) (fun s W h => h) (fun s W h => h) (fun W h => by (obtain ⟨w0, w1, w2, w3⟩ := hcy.out W h; clear h; go_simp; (try rfl); (try (first | done | omega | (intros; omega)))))) ?_
      simp only [Act.put, List.setIfInBounds_toArray, List.set_cons_succ, List.set_cons_zero, Nat.reduceAdd]
      refine Many.lex_want (by rfl) (Many.tr_call (v := .bool true) (f := 49) (args := #[.agg #[.int .i64 n3, .int .i64 n4]]) (AdI w G (G + 1) gy gn L' X A M Y Z) (fun s W h => h) (fun s W h => (q49z W).mono fun e w' q => ⟨q.1, h.after q.2⟩) (fun W h => by (clear h; go_simp; try rfl))) ?_
      simp only [Act.put, List.setIfInBounds_toArray, List.set_cons_succ, List.set_cons_zero, Nat.reduceAdd]
      refine Many.lex_want (by rfl) (Many.tr_read (v := .bool false) (AdI w G (G + 1) gy gn L' X A M Y Z) (fun s W h => h) (fun s W h => h) (fun W h => by (obtain ⟨w0, w1, w2, w3⟩ := hcy.out W h; clear h; go_simp; (try rfl); (try (first | done | omega | (intros; omega)))))) ?_
      simp only [Act.put, List.setIfInBounds_toArray, List.set_cons_succ, List.set_cons_zero, Nat.reduceAdd]
      refine Many.lex_want (by rfl) (Many.tr_read (v := .bool false) (AdI w G (G + 1) gy gn L' X A M Y Z) (fun s W h => h) (fun s W h => h) (fun W h => by (obtain ⟨w0, w1, w2, w3⟩ := hcy.out W h; clear h; go_simp; (try rfl); (try (first | done | omega | (intros; omega)))))) ?_
      simp only [Act.put, List.setIfInBounds_toArray, List.set_cons_succ, List.set_cons_zero, Nat.reduceAdd]
      refine Many.lex_want (by rfl) (Many.tr_read (v := .bool false) (AdI w G (G + 1) gy gn L' X A M Y Z) (fun s W h => h) (fun s W h => h) (fun W h => by (obtain ⟨w0, w1, w2, w3⟩ := hcy.out W h; clear h; go_simp; (try rfl); (try (first | done | omega | (intros; omega)))))) ?_
      simp only [Act.put, List.setIfInBounds_toArray, List.set_cons_succ, List.set_cons_zero, Nat.reduceAdd]
      refine Many.lex_want (by rfl) (Many.tr_read (v := .int .i64 X) (AdI w G (G + 1) gy gn L' X A M Y Z) (fun s W h => h) (fun s W h => h) (fun W h => by (obtain ⟨w0, w1, w2, w3⟩ := hcy.out W h; clear h; go_simp; (try rfl); (try (first | done | omega | (intros; omega)))))) ?_
      simp only [Act.put, List.setIfInBounds_toArray, List.set_cons_succ, List.set_cons_zero, Nat.reduceAdd]
      refine Many.lex_want (by rfl) (Many.tr_read (v := (.slice (some ⟨gy, 0, none⟩) L' cy)) (AdI w G (G + 1) gy gn L' X A M Y Z) (fun s W h => h) (fun s W h => h) (fun W h => by (obtain ⟨w0, w1, w2, w3⟩ := hcy.out W h; clear h; go_simp; (try rfl); (try (first | done | omega | (intros; omega)))))) ?_
      simp only [Act.put, List.setIfInBounds_toArray, List.set_cons_succ, List.set_cons_zero, Nat.reduceAdd]
      refine Many.lex_want (by rfl) (Many.tr_read (v := .int .i64 k) (AdI w G (G + 1) gy gn L' X A M Y Z) (fun s W h => h) (fun s W h => h) (fun W h => by (obtain ⟨w0, w1, w2, w3⟩ := hcy.out W h; clear h; go_simp; (try rfl); (try (first | done | omega | (intros; omega)))))) ?_
      simp only [Act.put, List.setIfInBounds_toArray, List.set_cons_succ, List.set_cons_zero, Nat.reduceAdd]
      refine Many.lex_want (by rfl) (Many.tr_read (v := .pointer (some ⟨gy, k * 2, none⟩)) (AdI w G (G + 1) gy gn L' X A M Y Z) (fun s W h => h) (fun s W h => h) (fun W h => by (obtain ⟨w0, w1, w2, w3⟩ := hcy.out W h; clear h; go_simp; (try rfl); (try (first | done | omega | (intros; omega)))))) ?_
      simp only [Act.put, List.setIfInBounds_toArray, List.set_cons_succ, List.set_cons_zero, Nat.reduceAdd]
      refine Many.lex_want (by rfl) (Many.tr_read (v := .pointer (some ⟨gy, k * 2 + 1, none⟩)) (AdI w G (G + 1) gy gn L' X A M Y Z) (fun s W h => h) (fun s W h => h) (fun W h => by (obtain ⟨w0, w1, w2, w3⟩ := hcy.out W h; clear h; go_simp; (try rfl); (try (first | done | omega | (intros; omega)))))) ?_
      simp only [Act.put, List.setIfInBounds_toArray, List.set_cons_succ, List.set_cons_zero, Nat.reduceAdd]
      refine Many.lex_want (by rfl) (Many.tr_read (v := .int .i64 n2) (AdI w G (G + 1) gy gn L' X A M Y Z) (fun s W h => h) (fun s W h => h) (fun W h => by (obtain ⟨w0, w1, w2, w3⟩ := hcy.out W h; clear h; go_simp; (try rfl); (try (first | done | omega | (intros; omega)))))) ?_
      simp only [Act.put, List.setIfInBounds_toArray, List.set_cons_succ, List.set_cons_zero, Nat.reduceAdd]
      refine Many.lex_want (by rfl) (Many.tr_read (v := .int .i64 0) (AdI w G (G + 1) gy gn L' X A M Y Z) (fun s W h => h) (fun s W h => h) (fun W h => by (obtain ⟨w0, w1, w2, w3⟩ := hcy.out W h; clear h; go_simp; (try rfl); (try (first | done | omega | (intros; omega)))))) ?_
      simp only [Act.put, List.setIfInBounds_toArray, List.set_cons_succ, List.set_cons_zero, Nat.reduceAdd]
      refine Many.lex_want (by rfl) (Many.tr_read (v := .bool false) (AdI w G (G + 1) gy gn L' X A M Y Z) (fun s W h => h) (fun s W h => h) (fun W h => by (obtain ⟨w0, w1, w2, w3⟩ := hcy.out W h; clear h; go_simp; (try rfl); (try (first | done | omega | (intros; omega)))))) ?_
      simp only [Act.put, List.setIfInBounds_toArray, List.set_cons_succ, List.set_cons_zero, Nat.reduceAdd]
      refine Many.lex_want (by rfl) (Many.tr_read (v := .bool false) (AdI w G (G + 1) gy gn L' X A M Y Z) (fun s W h => h) (fun s W h => h) (fun W h => by (obtain ⟨w0, w1, w2, w3⟩ := hcy.out W h; clear h; go_simp; (try rfl); (try (first | done | omega | (intros; omega)))))) ?_
      simp only [Act.put, List.setIfInBounds_toArray, List.set_cons_succ, List.set_cons_zero, Nat.reduceAdd]
      refine Many.lex_want (by rfl) (Many.tr_read (v := .bool false) (AdI w G (G + 1) gy gn L' X A M Y Z) (fun s W h => h) (fun s W h => h) (fun W h => by (obtain ⟨w0, w1, w2, w3⟩ := hcy.out W h; clear h; go_simp; (try rfl); (try (first | done | omega | (intros; omega)))))) ?_
      simp only [Act.put, List.setIfInBounds_toArray, List.set_cons_succ, List.set_cons_zero, Nat.reduceAdd]
      refine Many.lex_want (by rfl) (Many.tr_read (v := .int .i64 X) (AdI w G (G + 1) gy gn L' X A M Y Z) (fun s W h => h) (fun s W h => h) (fun W h => by (obtain ⟨w0, w1, w2, w3⟩ := hcy.out W h; clear h; go_simp; (try rfl); (try (first | done | omega | (intros; omega)))))) ?_
      simp only [Act.put, List.setIfInBounds_toArray, List.set_cons_succ, List.set_cons_zero, Nat.reduceAdd]
      refine Many.lex_want (by rfl) (Many.tr_read (v := (.slice (some ⟨gn, 0, none⟩) L' cn)) (AdI w G (G + 1) gy gn L' X A M Y Z) (fun s W h => h) (fun s W h => h) (fun W h => by (obtain ⟨w0, w1, w2, w3⟩ := hcy.out W h; clear h; go_simp; (try rfl); (try (first | done | omega | (intros; omega)))))) ?_
      simp only [Act.put, List.setIfInBounds_toArray, List.set_cons_succ, List.set_cons_zero, Nat.reduceAdd]
      refine Many.lex_want (by rfl) (Many.tr_read (v := .int .i64 k) (AdI w G (G + 1) gy gn L' X A M Y Z) (fun s W h => h) (fun s W h => h) (fun W h => by (obtain ⟨w0, w1, w2, w3⟩ := hcy.out W h; clear h; go_simp; (try rfl); (try (first | done | omega | (intros; omega)))))) ?_
      simp only [Act.put, List.setIfInBounds_toArray, List.set_cons_succ, List.set_cons_zero, Nat.reduceAdd]
      refine Many.lex_want (by rfl) (Many.tr_read (v := .pointer (some ⟨gn, k * 2, none⟩)) (AdI w G (G + 1) gy gn L' X A M Y Z) (fun s W h => h) (fun s W h => h) (fun W h => by (obtain ⟨w0, w1, w2, w3⟩ := hcy.out W h; clear h; go_simp; (try rfl); (try (first | done | omega | (intros; omega)))))) ?_
      simp only [Act.put, List.setIfInBounds_toArray, List.set_cons_succ, List.set_cons_zero, Nat.reduceAdd]
      refine Many.lex_want (by rfl) (Many.tr_read (v := .pointer (some ⟨gn, k * 2 + 1, none⟩)) (AdI w G (G + 1) gy gn L' X A M Y Z) (fun s W h => h) (fun s W h => h) (fun W h => by (obtain ⟨w0, w1, w2, w3⟩ := hcy.out W h; clear h; go_simp; (try rfl); (try (first | done | omega | (intros; omega)))))) ?_
      simp only [Act.put, List.setIfInBounds_toArray, List.set_cons_succ, List.set_cons_zero, Nat.reduceAdd]
      refine Many.lex_want (by rfl) (Many.tr_read (v := .int .i64 n4) (AdI w G (G + 1) gy gn L' X A M Y Z) (fun s W h => h) (fun s W h => h) (fun W h => by (obtain ⟨w0, w1, w2, w3⟩ := hcy.out W h; clear h; go_simp; (try rfl); (try (first | done | omega | (intros; omega)))))) ?_
      simp only [Act.put, List.setIfInBounds_toArray, List.set_cons_succ, List.set_cons_zero, Nat.reduceAdd]
      refine Many.lex_want (by rfl) (Many.tr_read (v := .int .i64 0) (AdI w G (G + 1) gy gn L' X A M Y Z) (fun s W h => h) (fun s W h => h) (fun W h => by (obtain ⟨w0, w1, w2, w3⟩ := hcy.out W h; clear h; go_simp; (try rfl); (try (first | done | omega | (intros; omega)))))) ?_
      simp only [Act.put, List.setIfInBounds_toArray, List.set_cons_succ, List.set_cons_zero, Nat.reduceAdd]
      refine Many.lex_want (by rfl) (Many.tr_read (v := .bool false) (AdI w G (G + 1) gy gn L' X A M Y Z) (fun s W h => h) (fun s W h => h) (fun W h => by (obtain ⟨w0, w1, w2, w3⟩ := hcy.out W h; clear h; go_simp; (try rfl); (try (first | done | omega | (intros; omega)))))) ?_
      simp only [Act.put, List.setIfInBounds_toArray, List.set_cons_succ, List.set_cons_zero, Nat.reduceAdd]
      refine Many.lex_want (by rfl) (Many.tr_read (v := .bool false) (AdI w G (G + 1) gy gn L' X A M Y Z) (fun s W h => h) (fun s W h => h) (fun W h => by (obtain ⟨w0, w1, w2, w3⟩ := hcy.out W h; clear h; go_simp; (try rfl); (try (first | done | omega | (intros; omega)))))) ?_
      simp only [Act.put, List.setIfInBounds_toArray, List.set_cons_succ, List.set_cons_zero, Nat.reduceAdd]
      refine Many.lex_want (by rfl) (Many.tr_read (v := .bool false) (AdI w G (G + 1) gy gn L' X A M Y Z) (fun s W h => h) (fun s W h => h) (fun W h => by (obtain ⟨w0, w1, w2, w3⟩ := hcy.out W h; clear h; go_simp; (try rfl); (try (first | done | omega | (intros; omega)))))) ?_
      simp only [Act.put, List.setIfInBounds_toArray, List.set_cons_succ, List.set_cons_zero, Nat.reduceAdd]
      refine Many.lex_want (by rfl) (Many.tr_read (v := (.slice (some ⟨gy, 0, none⟩) L' cy)) (AdI w G (G + 1) gy gn L' X A M Y Z) (fun s W h => h) (fun s W h => h) (fun W h => by (obtain ⟨w0, w1, w2, w3⟩ := hcy.out W h; clear h; go_simp; (try rfl); (try (first | done | omega | (intros; omega)))))) ?_
      simp only [Act.put, List.setIfInBounds_toArray, List.set_cons_succ, List.set_cons_zero, Nat.reduceAdd]
      refine Many.lex_want (by rfl) (Many.tr_read (v := .int .i64 k) (AdI w G (G + 1) gy gn L' X A M Y Z) (fun s W h => h) (fun s W h => h) (fun W h => by (obtain ⟨w0, w1, w2, w3⟩ := hcy.out W h; clear h; go_simp; (try rfl); (try (first | done | omega | (intros; omega)))))) ?_
      simp only [Act.put, List.setIfInBounds_toArray, List.set_cons_succ, List.set_cons_zero, Nat.reduceAdd]
      refine Many.lex_want (by rfl) (Many.tr_read (v := .pointer (some ⟨gy, k * 2, none⟩)) (AdI w G (G + 1) gy gn L' X A M Y Z) (fun s W h => h) (fun s W h => h) (fun W h => by (obtain ⟨w0, w1, w2, w3⟩ := hcy.out W h; clear h; go_simp; (try rfl); (try (first | done | omega | (intros; omega)))))) ?_
      simp only [Act.put, List.setIfInBounds_toArray, List.set_cons_succ, List.set_cons_zero, Nat.reduceAdd]
      refine Many.lex_want (by rfl) (Many.tr_read (v := .pointer (some ⟨gy, k * 2, none⟩)) (AdI w G (G + 1) gy gn L' X A M Y Z) (fun s W h => h) (fun s W h => h) (fun W h => by (obtain ⟨w0, w1, w2, w3⟩ := hcy.out W h; clear h; go_simp; (try rfl); (try (first | done | omega | (intros; omega)))))) ?_
      simp only [Act.put, List.setIfInBounds_toArray, List.set_cons_succ, List.set_cons_zero, Nat.reduceAdd]
      refine Many.lex_want (by rfl) (Many.tr_read (v := .int .i64 n1) (AdI w G (G + 1) gy gn L' X A M Y Z) (fun s W h => h) (fun s W h => h) (fun W h => by (obtain ⟨w0, w1, w2, w3⟩ := hcy.out W h; clear h; go_simp; (try rfl); (try (first | done | omega | (intros; omega)))))) ?_
      simp only [Act.put, List.setIfInBounds_toArray, List.set_cons_succ, List.set_cons_zero, Nat.reduceAdd]
      refine Many.lex_want (by rfl) (Many.tr_read (v := (.slice (some ⟨gy, 0, none⟩) L' cy)) (AdI w G (G + 1) gy gn L' X A M Y Z) (fun s W h => h) (fun s W h => h) (fun W h => by (obtain ⟨w0, w1, w2, w3⟩ := hcy.out W h; clear h; go_simp; (try rfl); (try (first | done | omega | (intros; omega)))))) ?_
      simp only [Act.put, List.setIfInBounds_toArray, List.set_cons_succ, List.set_cons_zero, Nat.reduceAdd]
      refine Many.lex_want (by rfl) (Many.tr_read (v := .int .i64 k) (AdI w G (G + 1) gy gn L' X A M Y Z) (fun s W h => h) (fun s W h => h) (fun W h => by (obtain ⟨w0, w1, w2, w3⟩ := hcy.out W h; clear h; go_simp; (try rfl); (try (first | done | omega | (intros; omega)))))) ?_
      simp only [Act.put, List.setIfInBounds_toArray, List.set_cons_succ, List.set_cons_zero, Nat.reduceAdd]
      refine Many.lex_want (by rfl) (Many.tr_read (v := .pointer (some ⟨gy, k * 2, none⟩)) (AdI w G (G + 1) gy gn L' X A M Y Z) (fun s W h => h) (fun s W h => h) (fun W h => by (obtain ⟨w0, w1, w2, w3⟩ := hcy.out W h; clear h; go_simp; (try rfl); (try (first | done | omega | (intros; omega)))))) ?_
      simp only [Act.put, List.setIfInBounds_toArray, List.set_cons_succ, List.set_cons_zero, Nat.reduceAdd]
      refine Many.lex_want (by rfl) (Many.tr_read (v := .pointer (some ⟨gy, k * 2 + 1, none⟩)) (AdI w G (G + 1) gy gn L' X A M Y Z) (fun s W h => h) (fun s W h => h) (fun W h => by (obtain ⟨w0, w1, w2, w3⟩ := hcy.out W h; clear h; go_simp; (try rfl); (try (first | done | omega | (intros; omega)))))) ?_
      simp only [Act.put, List.setIfInBounds_toArray, List.set_cons_succ, List.set_cons_zero, Nat.reduceAdd]
      refine Many.lex_want (by rfl) (Many.tr_read (v := .int .i64 n2) (AdI w G (G + 1) gy gn L' X A M Y Z) (fun s W h => h) (fun s W h => h) (fun W h => by (obtain ⟨w0, w1, w2, w3⟩ := hcy.out W h; clear h; go_simp; (try rfl); (try (first | done | omega | (intros; omega)))))) ?_
      simp only [Act.put, List.setIfInBounds_toArray, List.set_cons_succ, List.set_cons_zero, Nat.reduceAdd]
      refine Many.lex_want (by rfl) (Many.tr_read (v := .bool false) (AdI w G (G + 1) gy gn L' X A M Y Z) (fun s W h => h) (fun s W h => h) (fun W h => by (obtain ⟨w0, w1, w2, w3⟩ := hcy.out W h; clear h; go_simp; (try rfl); (try (first | done | omega | (intros; omega)))))) ?_
      simp only [Act.put, List.setIfInBounds_toArray, List.set_cons_succ, List.set_cons_zero, Nat.reduceAdd]
      refine Many.lex_want (by rfl) (Many.tr_read (v := .bool false) (AdI w G (G + 1) gy gn L' X A M Y Z) (fun s W h => h) (fun s W h => h) (fun W h => by (obtain ⟨w0, w1, w2, w3⟩ := hcy.out W h; clear h; go_simp; (try rfl); (try (first | done | omega | (intros; omega)))))) ?_
      simp only [Act.put, List.setIfInBounds_toArray, List.set_cons_succ, List.set_cons_zero, Nat.reduceAdd]
      refine Many.lex_want (by rfl) (Many.tr_read (v := .bool false) (AdI w G (G + 1) gy gn L' X A M Y Z) (fun s W h => h) (fun s W h => h) (fun W h => by (obtain ⟨w0, w1, w2, w3⟩ := hcy.out W h; clear h; go_simp; (try rfl); (try (first | done | omega | (intros; omega)))))) ?_
      simp only [Act.put, List.setIfInBounds_toArray, List.set_cons_succ, List.set_cons_zero, Nat.reduceAdd]
      refine Many.lex_want (by rfl) (Many.tr_read (v := (.slice (some ⟨gn, 0, none⟩) L' cn)) (AdI w G (G + 1) gy gn L' X A M Y Z) (fun s W h => h) (fun s W h => h) (fun W h => by (obtain ⟨w0, w1, w2, w3⟩ := hcy.out W h; clear h; go_simp; (try rfl); (try (first | done | omega | (intros; omega)))))) ?_
      simp only [Act.put, List.setIfInBounds_toArray, List.set_cons_succ, List.set_cons_zero, Nat.reduceAdd]
      refine Many.lex_want (by rfl) (Many.tr_read (v := .int .i64 k) (AdI w G (G + 1) gy gn L' X A M Y Z) (fun s W h => h) (fun s W h => h) (fun W h => by (obtain ⟨w0, w1, w2, w3⟩ := hcy.out W h; clear h; go_simp; (try rfl); (try (first | done | omega | (intros; omega)))))) ?_
      simp only [Act.put, List.setIfInBounds_toArray, List.set_cons_succ, List.set_cons_zero, Nat.reduceAdd]
      refine Many.lex_want (by rfl) (Many.tr_read (v := .pointer (some ⟨gn, k * 2, none⟩)) (AdI w G (G + 1) gy gn L' X A M Y Z) (fun s W h => h) (fun s W h => h) (fun W h => by (obtain ⟨w0, w1, w2, w3⟩ := hcy.out W h; clear h; go_simp; (try rfl); (try (first | done | omega | (intros; omega)))))) ?_
      simp only [Act.put, List.setIfInBounds_toArray, List.set_cons_succ, List.set_cons_zero, Nat.reduceAdd]
      refine Many.lex_want (by rfl) (Many.tr_read (v := .pointer (some ⟨gn, k * 2, none⟩)) (AdI w G (G + 1) gy gn L' X A M Y Z) (fun s W h => h) (fun s W h => h) (fun W h => by (obtain ⟨w0, w1, w2, w3⟩ := hcy.out W h; clear h; go_simp; (try rfl); (try (first | done | omega | (intros; omega)))))) ?_
      simp only [Act.put, List.setIfInBounds_toArray, List.set_cons_succ, List.set_cons_zero, Nat.reduceAdd]
      refine Many.lex_want (by rfl) (Many.tr_read (v := .int .i64 n3) (AdI w G (G + 1) gy gn L' X A M Y Z) (fun s W h => h) (fun s W h => h) (fun W h => by (obtain ⟨w0, w1, w2, w3⟩ := hcy.out W h; clear h; go_simp; (try rfl); (try (first | done | omega | (intros; omega)))))) ?_
      simp only [Act.put, List.setIfInBounds_toArray, List.set_cons_succ, List.set_cons_zero, Nat.reduceAdd]
      refine Many.lex_want (by rfl) (Many.tr_read (v := (.slice (some ⟨gn, 0, none⟩) L' cn)) (AdI w G (G + 1) gy gn L' X A M Y Z) (fun s W h => h) (fun s W h => h) (fun W h => by (obtain ⟨w0, w1, w2, w3⟩ := hcy.out W h; clear h; go_simp; (try rfl); (try (first | done | omega | (intros; omega)))))) ?_
      simp only [Act.put, List.setIfInBounds_toArray, List.set_cons_succ, List.set_cons_zero, Nat.reduceAdd]
      refine Many.lex_want (by rfl) (Many.tr_read (v := .int .i64 k) (AdI w G (G + 1) gy gn L' X A M Y Z) (fun s W h => h) (fun s W h => h) (fun W h => by (obtain ⟨w0, w1, w2, w3⟩ := hcy.out W h; clear h; go_simp; (try rfl); (try (first | done | omega | (intros; omega)))))) ?_
      simp only [Act.put, List.setIfInBounds_toArray, List.set_cons_succ, List.set_cons_zero, Nat.reduceAdd]
      refine Many.lex_want (by rfl) (Many.tr_read (v := .pointer (some ⟨gn, k * 2, none⟩)) (AdI w G (G + 1) gy gn L' X A M Y Z) (fun s W h => h) (fun s W h => h) (fun W h => by (obtain ⟨w0, w1, w2, w3⟩ := hcy.out W h; clear h; go_simp; (try rfl); (try (first | done | omega | (intros; omega)))))) ?_
      simp only [Act.put, List.setIfInBounds_toArray, List.set_cons_succ, List.set_cons_zero, Nat.reduceAdd]
      refine Many.lex_want (by rfl) (Many.tr_read (v := .pointer (some ⟨gn, k * 2 + 1, none⟩)) (AdI w G (G + 1) gy gn L' X A M Y Z) (fun s W h => h) (fun s W h => h) (fun W h => by (obtain ⟨w0, w1, w2, w3⟩ := hcy.out W h; clear h; go_simp; (try rfl); (try (first | done | omega | (intros; omega)))))) ?_
      simp only [Act.put, List.setIfInBounds_toArray, List.set_cons_succ, List.set_cons_zero, Nat.reduceAdd]
      refine Many.lex_want (by rfl) (Many.tr_read (v := .int .i64 n4) (AdI w G (G + 1) gy gn L' X A M Y Z) (fun s W h => h) (fun s W h => h) (fun W h => by (obtain ⟨w0, w1, w2, w3⟩ := hcy.out W h; clear h; go_simp; (try rfl); (try (first | done | omega | (intros; omega)))))) ?_
      simp only [Act.put, List.setIfInBounds_toArray, List.set_cons_succ, List.set_cons_zero, Nat.reduceAdd]
      refine Many.lex_want (by rfl) (Many.tr_read (v := .bool false) (AdI w G (G + 1) gy gn L' X A M Y Z) (fun s W h => h) (fun s W h => h) (fun W h => by (obtain ⟨w0, w1, w2, w3⟩ := hcy.out W h; clear h; go_simp; (try rfl); (try (first | done | omega | (intros; omega)))))) ?_
      simp only [Act.put, List.setIfInBounds_toArray, List.set_cons_succ, List.set_cons_zero, Nat.reduceAdd]
      refine Many.lex_want (by rfl) (Many.tr_read (v := .bool false) (AdI w G (G + 1) gy gn L' X A M Y Z) (fun s W h => h) (fun s W h => h) (fun W h => by (obtain ⟨w0, w1, w2, w3⟩ := hcy.out W h; clear h; go_simp; (try rfl); (try (first | done | omega | (intros; omega)))))) ?_
      simp only [Act.put, List.setIfInBounds_toArray, List.set_cons_succ, List.set_cons_zero, Nat.reduceAdd]
      refine Many.lex_nil fun s9 W4 hs9 hS4 => ?_
      obtain ⟨w0, w1', w2, w3⟩ := hcy.out W4 hS4
      have hS4k := Keep.mk hS4
      clear hs9 hS4 hI
      go_wp2
      go_quiet (fail)
      go_wp2
      exact ⟨⟨k + 1, by omega, by go_num, by rw [hs'.out], by rw [ht'.out], by rw [hu'.out], ⟨hS4k.out.drewN _⟩⟩, by simp [intOf]; omega⟩
    · obtain rfl : k = L' := by omega
      have hlt' : ¬ (k : Int) < (k : Int) := by omega
      rw [← haccK.out, hendsK.out, ← hexK.out]
      have eX : ((X : Int) == (X : Int)) = true := by simp
      go_wp2
      refine (wpIn_wide (n := 0)).1 ?_
      refine Many.region_many (fun _ W => AdI w G (G + 1) gy gn k X A M Y Z W) hmx (by kernel_rfl) (fun s s' W' h hc => hc) (fun s hs => hI.out.after ((Below.refl _ _).drew)) ?_
      refine Many.lex_want (by rfl) (Many.tr_read (v := .int .i64 X) (AdI w G (G + 1) gy gn k X A M Y Z) (fun s W h => h) (fun s W h => h) (fun W h => by (obtain ⟨y0, y1, y2, y3⟩ := h.o; obtain ⟨z0, z1, z2, z3⟩ := h.q; clear h; go_simp; (try rfl)))) ?_
      simp only [Act.put, List.setIfInBounds_toArray, List.set_cons_succ, List.set_cons_zero, Nat.reduceAdd]
      refine Many.lex_want (by rfl) (Many.tr_read (v := .int .i64 X) (AdI w G (G + 1) gy gn k X A M Y Z) (fun s W h => h) (fun s W h => h) (fun W h => by (obtain ⟨y0, y1, y2, y3⟩ := h.o; obtain ⟨z0, z1, z2, z3⟩ := h.q; clear h; go_simp; (try rfl)))) ?_
      simp only [Act.put, List.setIfInBounds_toArray, List.set_cons_succ, List.set_cons_zero, Nat.reduceAdd]
      refine Many.lex_want (by rfl) (Many.tr_read (v := .bool true) (AdI w G (G + 1) gy gn k X A M Y Z) (fun s W h => h) (fun s W h => h) (fun W h => by (obtain ⟨y0, y1, y2, y3⟩ := h.o; obtain ⟨z0, z1, z2, z3⟩ := h.q; clear h; go_simp; (try rfl)))) ?_
      simp only [Act.put, List.setIfInBounds_toArray, List.set_cons_succ, List.set_cons_zero, Nat.reduceAdd]
      refine Many.lex_want (by rfl) (Many.tr_read (v := .bool true) (AdI w G (G + 1) gy gn k X A M Y Z) (fun s W h => h) (fun s W h => h) (fun W h => by (obtain ⟨y0, y1, y2, y3⟩ := h.o; obtain ⟨z0, z1, z2, z3⟩ := h.q; clear h; go_simp; (try rfl)))) ?_
      simp only [Act.put, List.setIfInBounds_toArray, List.set_cons_succ, List.set_cons_zero, Nat.reduceAdd]
      refine Many.lex_want (by rfl) (Many.tr_read (v := .agg #[.int .i64 (rN A X : Nat), .int .i64 (rD A X : Nat)]) (AdI w G (G + 1) gy gn k X A M Y Z) (fun s W h => h) (fun s W h => h) (fun W h => by (obtain ⟨y0, y1, y2, y3⟩ := h.o; obtain ⟨z0, z1, z2, z3⟩ := h.q; clear h; go_simp; (try rfl)))) ?_
      simp only [Act.put, List.setIfInBounds_toArray, List.set_cons_succ, List.set_cons_zero, Nat.reduceAdd]
      refine Many.lex_want (by rfl) (Many.tr_read (v := .int .i64 A) (AdI w G (G + 1) gy gn k X A M Y Z) (fun s W h => h) (fun s W h => h) (fun W h => by (obtain ⟨y0, y1, y2, y3⟩ := h.o; obtain ⟨z0, z1, z2, z3⟩ := h.q; clear h; go_simp; (try rfl)))) ?_
      simp only [Act.put, List.setIfInBounds_toArray, List.set_cons_succ, List.set_cons_zero, Nat.reduceAdd]
      refine Many.lex_want (by rfl) (Many.tr_read (v := .int .i64 X) (AdI w G (G + 1) gy gn k X A M Y Z) (fun s W h => h) (fun s W h => h) (fun W h => by (obtain ⟨y0, y1, y2, y3⟩ := h.o; obtain ⟨z0, z1, z2, z3⟩ := h.q; clear h; go_simp; (try rfl)))) ?_
      simp only [Act.put, List.setIfInBounds_toArray, List.set_cons_succ, List.set_cons_zero, Nat.reduceAdd]
      refine Many.lex_want (by rfl) (Many.tr_call (v := .agg #[.int .i64 (rN A X : Nat), .int .i64 (rD A X : Nat)]) (f := 23) (args := #[.int .i64 A, .int .i64 X]) (AdI w G (G + 1) gy gn k X A M Y Z) (fun s W h => h) (fun s W h => (q23a W).mono fun e w' q => ⟨q.1, h.after q.2⟩) (fun W h => by (clear h; go_simp; try rfl))) ?_
      simp only [Act.put, List.setIfInBounds_toArray, List.set_cons_succ, List.set_cons_zero, Nat.reduceAdd]
      refine Many.lex_want (by rfl) (Many.tr_read (v := .bool true) (AdI w G (G + 1) gy gn k X A M Y Z) (fun s W h => h) (fun s W h => h) (fun W h => by (obtain ⟨y0, y1, y2, y3⟩ := h.o; obtain ⟨z0, z1, z2, z3⟩ := h.q; clear h; go_simp; (try rfl)))) ?_
      simp only [Act.put, List.setIfInBounds_toArray, List.set_cons_succ, List.set_cons_zero, Nat.reduceAdd]
      refine Many.lex_want (by rfl) (Many.tr_read (v := .bool true) (AdI w G (G + 1) gy gn k X A M Y Z) (fun s W h => h) (fun s W h => h) (fun W h => by (obtain ⟨y0, y1, y2, y3⟩ := h.o; obtain ⟨z0, z1, z2, z3⟩ := h.q; clear h; go_simp; (try rfl)))) ?_
      simp only [Act.put, List.setIfInBounds_toArray, List.set_cons_succ, List.set_cons_zero, Nat.reduceAdd]
      refine Many.lex_want (by rfl) (Many.tr_read (v := .bool true) (AdI w G (G + 1) gy gn k X A M Y Z) (fun s W h => h) (fun s W h => h) (fun W h => by (obtain ⟨y0, y1, y2, y3⟩ := h.o; obtain ⟨z0, z1, z2, z3⟩ := h.q; clear h; go_simp; (try rfl)))) ?_
      simp only [Act.put, List.setIfInBounds_toArray, List.set_cons_succ, List.set_cons_zero, Nat.reduceAdd]
      refine Many.lex_want (by rfl) (Many.tr_read (v := .agg #[.int .i64 (rN M X : Nat), .int .i64 (rD M X : Nat)]) (AdI w G (G + 1) gy gn k X A M Y Z) (fun s W h => h) (fun s W h => h) (fun W h => by (obtain ⟨y0, y1, y2, y3⟩ := h.o; obtain ⟨z0, z1, z2, z3⟩ := h.q; clear h; go_simp; (try rfl)))) ?_
      simp only [Act.put, List.setIfInBounds_toArray, List.set_cons_succ, List.set_cons_zero, Nat.reduceAdd]
      refine Many.lex_want (by rfl) (Many.tr_read (v := .int .i64 M) (AdI w G (G + 1) gy gn k X A M Y Z) (fun s W h => h) (fun s W h => h) (fun W h => by (obtain ⟨y0, y1, y2, y3⟩ := h.o; obtain ⟨z0, z1, z2, z3⟩ := h.q; clear h; go_simp; (try rfl)))) ?_
      simp only [Act.put, List.setIfInBounds_toArray, List.set_cons_succ, List.set_cons_zero, Nat.reduceAdd]
      refine Many.lex_want (by rfl) (Many.tr_read (v := .int .i64 X) (AdI w G (G + 1) gy gn k X A M Y Z) (fun s W h => h) (fun s W h => h) (fun W h => by (obtain ⟨y0, y1, y2, y3⟩ := h.o; obtain ⟨z0, z1, z2, z3⟩ := h.q; clear h; go_simp; (try rfl)))) ?_
      simp only [Act.put, List.setIfInBounds_toArray, List.set_cons_succ, List.set_cons_zero, Nat.reduceAdd]
      refine Many.lex_want (by rfl) (Many.tr_call (v := .agg #[.int .i64 (rN M X : Nat), .int .i64 (rD M X : Nat)]) (f := 23) (args := #[.int .i64 M, .int .i64 X]) (AdI w G (G + 1) gy gn k X A M Y Z) (fun s W h => h) (fun s W h => (q23m W).mono fun e w' q => ⟨q.1, h.after q.2⟩) (fun W h => by (clear h; go_simp; try rfl))) ?_
      simp only [Act.put, List.setIfInBounds_toArray, List.set_cons_succ, List.set_cons_zero, Nat.reduceAdd]
      refine Many.lex_want (by rfl) (Many.tr_read (v := .bool true) (AdI w G (G + 1) gy gn k X A M Y Z) (fun s W h => h) (fun s W h => h) (fun W h => by (obtain ⟨y0, y1, y2, y3⟩ := h.o; obtain ⟨z0, z1, z2, z3⟩ := h.q; clear h; go_simp; (try rfl)))) ?_
      simp only [Act.put, List.setIfInBounds_toArray, List.set_cons_succ, List.set_cons_zero, Nat.reduceAdd]
      refine Many.lex_want (by rfl) (Many.tr_read (v := .bool true) (AdI w G (G + 1) gy gn k X A M Y Z) (fun s W h => h) (fun s W h => h) (fun W h => by (obtain ⟨y0, y1, y2, y3⟩ := h.o; obtain ⟨z0, z1, z2, z3⟩ := h.q; clear h; go_simp; (try rfl)))) ?_
      simp only [Act.put, List.setIfInBounds_toArray, List.set_cons_succ, List.set_cons_zero, Nat.reduceAdd]
      refine Many.lex_want (by rfl) (Many.tr_read (v := .bool true) (AdI w G (G + 1) gy gn k X A M Y Z) (fun s W h => h) (fun s W h => h) (fun W h => by (obtain ⟨y0, y1, y2, y3⟩ := h.o; obtain ⟨z0, z1, z2, z3⟩ := h.q; clear h; go_simp; (try rfl)))) ?_
      simp only [Act.put, List.setIfInBounds_toArray, List.set_cons_succ, List.set_cons_zero, Nat.reduceAdd]
      refine Many.lex_want (by rfl) (Many.tr_call (v := .bool true) (f := 20) (args := #[]) (AdI w G (G + 1) gy gn k X A M Y Z) (fun s W h => h) (fun s W h => (awake_any W).mono fun e w' q => ⟨q.1, h.after q.2⟩) (fun W h => by (clear h; go_simp; try rfl))) ?_
      simp only [Act.put, List.setIfInBounds_toArray, List.set_cons_succ, List.set_cons_zero, Nat.reduceAdd]
      refine Many.lex_want (by rfl) (Many.tr_read (v := .bool true) (AdI w G (G + 1) gy gn k X A M Y Z) (fun s W h => h) (fun s W h => h) (fun W h => by (obtain ⟨y0, y1, y2, y3⟩ := h.o; obtain ⟨z0, z1, z2, z3⟩ := h.q; clear h; go_simp; (try rfl)))) ?_
      simp only [Act.put, List.setIfInBounds_toArray, List.set_cons_succ, List.set_cons_zero, Nat.reduceAdd]
      refine Many.lex_want (by rfl) (Many.tr_read (v := .bool true) (AdI w G (G + 1) gy gn k X A M Y Z) (fun s W h => h) (fun s W h => h) (fun W h => by (obtain ⟨y0, y1, y2, y3⟩ := h.o; obtain ⟨z0, z1, z2, z3⟩ := h.q; clear h; go_simp; (try rfl)))) ?_
      simp only [Act.put, List.setIfInBounds_toArray, List.set_cons_succ, List.set_cons_zero, Nat.reduceAdd]
      refine Many.lex_nil fun s9 W4 hs9 hS4 => ?_
      clear hs9
      go_wp2
      go_ret
      exact ⟨rfl, hS4.bw⟩
end Go.Proofs.Ytbmfipjnfbnjgaa
