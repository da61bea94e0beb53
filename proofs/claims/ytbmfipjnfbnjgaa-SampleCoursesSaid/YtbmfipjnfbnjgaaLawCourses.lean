import Derived.Test.YtbmfipjnfbnjgaaRefCourse
import Derived.Test.YtbmfipjnfbnjgaaCourseNo2
import Derived.Test.YtbmfipjnfbnjgaaOpenArgs
import Derived.Test.YtbmfipjnfbnjgaaAwake
set_option linter.unusedSimpArgs false
set_option linter.unusedVariables false
namespace Go.Proofs.Ytbmfipjnfbnjgaa
open Go Go.Proofs Go.RowKit Go.Sample Go.Seq
set_option maxHeartbeats 1000000 in
set_option maxRecDepth 100000 in
theorem fits_yes {N : Nat} {c : Crs} {w : World} (h1 : 1 ≤ N) (h36 : N ≤ 36) (hc : CrsIn w c) (hok : CrsOk c N) :
    Calls Try.prog 32 #[.int .i64 N, c.val] w fun e w' => e = .returned (.int .i64 0) ∧ Below w.heap.size w w' := by
  have hr := fun w => readLot_any h1 h36 w
  have his := fun W b (h : Pieces W b N) (hc : CrsIn W c) => isCourse_yes h hc hok
  obtain ⟨w0, hw0⟩ : ∃ w0, w.alloc (.cells #[c.sa, c.sr] 42) = w0 := ⟨_, rfl⟩
  have hb0 : Below w.heap.size w w0 := by rw [← hw0]; exact (Below.refl _ _).alloc (Nat.le_refl _) _
  have hO : Own2 w0 w.heap.size c.sa c.sr := by rw [← hw0]; exact Own2.new _ _ _ _
  have hc0 := hc.after hb0
  unfold Crs.sa Crs.sr at hw0 hO
  unfold Crs.val Crs.sa Crs.sr at his
  unfold Crs.val Crs.sa Crs.sr
  go_enter Try.func32, Try.ntmps32
  go_wp2_with (first
    | (go_at_call 62; refine (hr _).mono ?_; rintro e w5 ⟨rfl, hb5, hP5⟩
       obtain ⟨o0, o1, o2, o3⟩ := hO.after hb5
       have hc5 := hc0.after hb5
       have hbw5 := hb0.trans (hb5.mono hb0.size)
       clear hb5 hr)
    | (go_at_call 63; refine (his _ _ hP5 hc5).mono ?_; rintro e w6 ⟨rfl, hb6⟩
       have hbw6 := hbw5.trans (hb6.mono hbw5.size)
       clear hb6))
  go_ret
  exact ⟨rfl, hbw6⟩
open Go.ChangeShapes Go.WideShapes Go.ChangeAt Go.Joins in
set_option maxRecDepth 100000 in
theorem arg_course {H : Type} {enc : TypeId × Value → H} {W : World} {r : Reach} {b0 : Nat} {v : Value} {d : DataW H} {ps : List MemPlace} (hval : Value.okWide Try.prog W r b0 42 v)
    (hd : DataW.Trod enc Try.prog W 0 (fun _ => true) true 42 v d ps) : ∃ va vr za zr, v = .agg #[va, vr] ∧ ArgInts W va za ∧ ArgInts W vr zr := by
  have hv := hval
  obtain ⟨v0, v1, y0, y1, n, rfl, rfl, rfl, h0, h1⟩ := open_agg2 Try.underlying42 (by kernel_rfl) (by kernel_rfl) hval hd
  unfold Value.okWide at hv
  rw [Try.underlying42] at hv
  obtain ⟨cs, hcs, hsz, ts, hts, _, hall⟩ := hv
  rw [show Try.prog.cellTypes Try.prog.depth 42 = some [40, 40] by kernel_rfl] at hts
  obtain rfl := Option.some.inj hts
  cases hcs
  have k0 : Value.okWide Try.prog W r b0 40 v0 := by
    obtain ⟨u, hu1, hu2⟩ := hall 0 v0 rfl
    obtain rfl : 40 = u := by simpa using hu1
    unfold Value.okWide; rw [ty40]; exact hu2
  have k1 : Value.okWide Try.prog W r b0 40 v1 := by
    obtain ⟨u, hu1, hu2⟩ := hall 1 v1 rfl
    obtain rfl : 40 = u := by simpa using hu1
    unfold Value.okWide; rw [ty40]; exact hu2
  obtain ⟨a0, l0, c0, e0⟩ := okWide_slice ty40 k0
  obtain ⟨a1, l1, c1, e1⟩ := okWide_slice ty40 k1
  obtain ⟨za, ha⟩ := arg_ints (d := y0.1) (ps := y0.2) k0 ⟨n, by rw [e0] at h0 ⊢; exact h0⟩
  obtain ⟨zr, hr⟩ := arg_ints (d := y1.1) (ps := y1.2) k1 ⟨n, by rw [e1] at h1 ⊢; exact h1⟩
  exact ⟨v0, v1, za, zr, rfl, ha, hr⟩

/-- The copied course in its variable. -/
structure CoS (w : World) (b7 : Nat) (x y : Value) (A C : List Int) (W : World) : Prop where
  o : Own2 W b7 x y
  a : IntsO W x A
  c : IntsO W y C
  bw : Below w.heap.size w W
theorem CoS.after {w W W' : World} {b7 : Nat} {x y : Value} {A C : List Int} (h : CoS w b7 x y A C W) (hb : Below W.heap.size W W') : CoS w b7 x y A C W' :=
  ⟨h.o.after hb, intsO_below h.a hb, intsO_below h.c hb, h.bw.trans (hb.mono h.bw.size)⟩

/-- The two fractions of Course beside it. -/
structure CoT (w : World) (b7 b9 : Nat) (x y : Value) (A C : List Int) (p q r s : Value) (W : World) : Prop where
  k : CoS w b7 x y A C W
  o9 : Own2 W b9 p q
  o10 : Own2 W (b9 + 1) r s
theorem CoT.after {w W W' : World} {b7 b9 : Nat} {x y : Value} {A C : List Int} {p q r s : Value} (h : CoT w b7 b9 x y A C p q r s W) (hb : Below W.heap.size W W') : CoT w b7 b9 x y A C p q r s W' :=
  ⟨h.k.after hb, h.o9.after hb, h.o10.after hb⟩
theorem CoT.new {w W : World} {b7 : Nat} {x y : Value} {A C : List Int} (h : CoS w b7 x y A C W) (p q r s : Value) : CoT w b7 W.heap.size x y A C p q r s ((W.alloc (.cells #[p, q] 27)).alloc (.cells #[r, s] 27)) := by
  have b1 : Below W.heap.size W (W.alloc (.cells #[p, q] 27)) := (Below.refl _ _).alloc (Nat.le_refl _) _
  have b2 : Below (W.alloc (.cells #[p, q] 27)).heap.size (W.alloc (.cells #[p, q] 27)) ((W.alloc (.cells #[p, q] 27)).alloc (.cells #[r, s] 27)) := (Below.refl _ _).alloc (Nat.le_refl _) _
  have o := Own2.new (W.alloc (.cells #[p, q] 27)) r s 27
  rw [World.size_alloc] at o
  exact ⟨(h.after b1).after b2, (Own2.new W p q 27).after b2, o⟩

set_option maxHeartbeats 4000000 in
set_option maxRecDepth 100000 in
theorem courses_no {N d : Int} (hd : In64 d) {va vr : Value} {za zr : List Int} {w : World} (ha : ArgInts w va za) (hr : ArgInts w vr zr) (hno : ¬ ((1 ≤ N ∧ N ≤ 36) ∧ (0 ≤ d ∧ d ≤ N) ∧ FitOk N (za.take 37) (zr.take 37))) : Calls Try.prog 5 #[.int .i64 N, .int .i64 d, .agg #[va, vr]] w fun e w' => e = .returned (.bool true) ∧ Below w.heap.size w w' := by
  obtain ⟨A, hA⟩ : ∃ A, Keep (za.take 37 = A) := ⟨_, ⟨rfl⟩⟩
  obtain ⟨C, hC⟩ : ∃ C, Keep (zr.take 37 = C) := ⟨_, ⟨rfl⟩⟩
  have hlA : A.length ≤ 100000 := by rw [← hA.out]; simp; omega
  have hlC : C.length ≤ 100000 := by rw [← hC.out]; simp; omega
  have q31 := fun (W : World) (ha : ArgInts W va za) (hr : ArgInts W vr zr) => courseCopy_any hA hC ha hr
  obtain ⟨w0, hw0⟩ : ∃ w0, w.alloc (.cells #[va, vr] 42) = w0 := ⟨_, rfl⟩
  have bw0 : Below w.heap.size w w0 := by rw [← hw0]; exact (Below.refl _ _).alloc (Nat.le_refl _) _
  have hO0 : Own2 w0 w.heap.size va vr := by rw [← hw0]; exact Own2.new _ _ _ _
  have ha0 := argInts_keep ha bw0
  have hr0 := argInts_keep hr bw0
  obtain ⟨z0, z1, _, _⟩ := id hO0
  rw [hA.out, hC.out] at hno
  have q33 := Keep.mk (fun (W : World) (x y : Value) (a : IntsO W x A) (c : IntsO W y C) => course_no (N := N) hd a c hlA hlC hno)
  have q34 := Keep.mk (fun (W : World) (x y : Value) (a : IntsO W x A) (c : IntsO W y C) => chances_no (N := N) hd a c hlA hlC hno)
  by_cases hN1 : N < 1
  · have q32 := Keep.mk (fun (W : World) (x y : Value) (a : IntsO W x A) (c : IntsO W y C) => fits_no (N := N) a c hlA hlC (fun h => by have := h.1; omega))
    have g1 : ¬ 1 ≤ N := by omega
    clear hno hlA hlC
    go_enter Try.func5, Try.ntmps5
    go_wp2_with (first
      | (go_at_call 31; (with_reducible refine (q31 _ ha0 hr0).mono ?_); rintro e u1 ⟨x, y, rfl, hx, hy, hxy, hb1⟩
         obtain ⟨xa, xl, xc, rfl⟩ := row_slice hx
         obtain ⟨ya, yl, yc, rfl⟩ := row_slice hy
         obtain ⟨wc, hwc⟩ : ∃ wc, u1.alloc (.cells #[.slice xa xl xc, .slice ya yl yc] 42) = wc := ⟨_, rfl⟩
         have b2 : Below u1.heap.size u1 wc := by rw [← hwc]; exact (Below.refl _ _).alloc (Nat.le_refl _) _
         have hS : CoS w u1.heap.size (.slice xa xl xc) (.slice ya yl yc) A C wc := ⟨by rw [← hwc]; exact Own2.new _ _ _ _, intsO_below (row_ints hx).1 b2, intsO_below (row_ints hy).1 b2, bw0.trans ((hb1.trans (b2.mono hb1.size)).mono bw0.size)⟩
         obtain ⟨o0, o1, _, _⟩ := id hS.o
         clear hx hy hxy hb1 b2)
      | (go_at_call 32; (with_reducible refine (q32.out _ _ _ hS.a hS.c).mono ?_); rintro e u2 ⟨rfl, hb1⟩
         have hS := hS.after hb1
         obtain ⟨o0, o1, _, _⟩ := id hS.o
         have l7 := hS.o.lt
         clear hb1)
      | (go_at_call 33; (with_reducible refine (q33.out _ _ _ hS.a hS.c).mono ?_); rintro e u3 ⟨rfl, hb1⟩
         have hS := hS.after hb1
         obtain ⟨o0, o1, _, _⟩ := id hS.o
         have l7 := hS.o.lt
         clear hb1))
    have hT := CoT.new hS (.int .i64 0) (.int .i64 0) (.int .i64 0) (.int .i64 0)
    obtain ⟨E, hE⟩ : ∃ E, (u3.alloc (.cells #[.int .i64 0, .int .i64 0] 27)).alloc (.cells #[.int .i64 0, .int .i64 0] 27) = E := ⟨_, rfl⟩
    rw [hE] at hT ⊢
    clear hE hS o0 o1
    obtain ⟨o0, o1, _, _⟩ := id hT.k.o
    obtain ⟨p0, p1, _, _⟩ := id hT.o9
    obtain ⟨r0, r1, _, _⟩ := id hT.o10
    (with_reducible refine (q34.out _ _ _ hT.k.a hT.k.c).mono ?_); rintro e u4 ⟨rfl, hb1⟩
    have hT := hT.after hb1
    obtain ⟨o0, o1, _, _⟩ := id hT.k.o
    obtain ⟨p0, p1, _, _⟩ := id hT.o9
    obtain ⟨r0, r1, _, _⟩ := id hT.o10
    clear hb1
    go_wp2_with (first
      | (go_at_call 20; (with_reducible refine (awake_any _).mono ?_); rintro e u9 ⟨rfl, hb1⟩
         have hT := hT.after hb1
         clear hb1))
    go_ret
    exact ⟨rfl, hT.k.bw⟩
  by_cases hN2 : 36 < N
  · have q32 := Keep.mk (fun (W : World) (x y : Value) (a : IntsO W x A) (c : IntsO W y C) => fits_no (N := N) a c hlA hlC (fun h => by have := h.2.1; omega))
    have g1 : 1 ≤ N := by omega
    have g2 : ¬ N ≤ 36 := by omega
    clear hno hlA hlC hN1
    go_enter Try.func5, Try.ntmps5
    go_wp2_with (first
      | (go_at_call 31; (with_reducible refine (q31 _ ha0 hr0).mono ?_); rintro e u1 ⟨x, y, rfl, hx, hy, hxy, hb1⟩
         obtain ⟨xa, xl, xc, rfl⟩ := row_slice hx
         obtain ⟨ya, yl, yc, rfl⟩ := row_slice hy
         obtain ⟨wc, hwc⟩ : ∃ wc, u1.alloc (.cells #[.slice xa xl xc, .slice ya yl yc] 42) = wc := ⟨_, rfl⟩
         have b2 : Below u1.heap.size u1 wc := by rw [← hwc]; exact (Below.refl _ _).alloc (Nat.le_refl _) _
         have hS : CoS w u1.heap.size (.slice xa xl xc) (.slice ya yl yc) A C wc := ⟨by rw [← hwc]; exact Own2.new _ _ _ _, intsO_below (row_ints hx).1 b2, intsO_below (row_ints hy).1 b2, bw0.trans ((hb1.trans (b2.mono hb1.size)).mono bw0.size)⟩
         obtain ⟨o0, o1, _, _⟩ := id hS.o
         clear hx hy hxy hb1 b2)
      | (go_at_call 32; (with_reducible refine (q32.out _ _ _ hS.a hS.c).mono ?_); rintro e u2 ⟨rfl, hb1⟩
         have hS := hS.after hb1
         obtain ⟨o0, o1, _, _⟩ := id hS.o
         have l7 := hS.o.lt
         clear hb1)
      | (go_at_call 33; (with_reducible refine (q33.out _ _ _ hS.a hS.c).mono ?_); rintro e u3 ⟨rfl, hb1⟩
         have hS := hS.after hb1
         obtain ⟨o0, o1, _, _⟩ := id hS.o
         have l7 := hS.o.lt
         clear hb1))
    have hT := CoT.new hS (.int .i64 0) (.int .i64 0) (.int .i64 0) (.int .i64 0)
    obtain ⟨E, hE⟩ : ∃ E, (u3.alloc (.cells #[.int .i64 0, .int .i64 0] 27)).alloc (.cells #[.int .i64 0, .int .i64 0] 27) = E := ⟨_, rfl⟩
    rw [hE] at hT ⊢
    clear hE hS o0 o1
    obtain ⟨o0, o1, _, _⟩ := id hT.k.o
    obtain ⟨p0, p1, _, _⟩ := id hT.o9
    obtain ⟨r0, r1, _, _⟩ := id hT.o10
    (with_reducible refine (q34.out _ _ _ hT.k.a hT.k.c).mono ?_); rintro e u4 ⟨rfl, hb1⟩
    have hT := hT.after hb1
    obtain ⟨o0, o1, _, _⟩ := id hT.k.o
    obtain ⟨p0, p1, _, _⟩ := id hT.o9
    obtain ⟨r0, r1, _, _⟩ := id hT.o10
    clear hb1
    go_wp2_with (first
      | (go_at_call 20; (with_reducible refine (awake_any _).mono ?_); rintro e u9 ⟨rfl, hb1⟩
         have hT := hT.after hb1
         clear hb1))
    go_ret
    exact ⟨rfl, hT.k.bw⟩
  have g1 : 1 ≤ N := by omega
  have g2 : N ≤ 36 := by omega
  by_cases hf : FitOk N A C
  · obtain ⟨n, rfl⟩ : ∃ n : Nat, N = (n : Int) := ⟨N.toNat, by omega⟩
    have q32 : Keep (∀ (W : World) (x y : Value) (a : IntsO W x A) (c : IntsO W y C), Calls Try.prog 32 #[.int .i64 n, .agg #[x, y]] W fun e w' => e = .returned (.int .i64 0) ∧ Below W.heap.size W w') := ⟨fun W x y a c => by
      obtain ⟨c, hv, hl, hin, hok, _⟩ := fits_crs a c hf
      rw [← hv]; exact fits_yes (by omega) (by omega) hin hok⟩
    have q28 : Keep (∀ (W : World) (x y : Value) (a : IntsO W x A) (c : IntsO W y C), Calls Try.prog 28 #[.int .i64 n, .agg #[x, y]] W fun e w' => e = .returned (.bool true) ∧ Below W.heap.size W w') := ⟨fun W x y a c => by
      have h := refFits_any (N := (n : Int)) ⟨g1, g2⟩ a c hlA hlC
      rwa [decide_eq_true hf] at h⟩
    have q19 : ∀ W, Calls Try.prog 19 #[.int .i64 n, .int .i64 d] W fun e w' => e = .returned (.bool false) ∧ w' = W := fun W => by
      have h := lot_any (N := (n : Int)) (z := d) W
      rwa [decide_eq_false (fun h => hno ⟨⟨g1, g2⟩, ⟨h.2.2.1, h.2.2.2⟩, hf⟩)] at h
    clear hno hlA hlC hN1 hN2 hf
    go_enter Try.func5, Try.ntmps5
    go_wp2_with (first
      | (go_at_call 31; (with_reducible refine (q31 _ ha0 hr0).mono ?_); rintro e u1 ⟨x, y, rfl, hx, hy, hxy, hb1⟩
         obtain ⟨xa, xl, xc, rfl⟩ := row_slice hx
         obtain ⟨ya, yl, yc, rfl⟩ := row_slice hy
         obtain ⟨wc, hwc⟩ : ∃ wc, u1.alloc (.cells #[.slice xa xl xc, .slice ya yl yc] 42) = wc := ⟨_, rfl⟩
         have b2 : Below u1.heap.size u1 wc := by rw [← hwc]; exact (Below.refl _ _).alloc (Nat.le_refl _) _
         have hS : CoS w u1.heap.size (.slice xa xl xc) (.slice ya yl yc) A C wc := ⟨by rw [← hwc]; exact Own2.new _ _ _ _, intsO_below (row_ints hx).1 b2, intsO_below (row_ints hy).1 b2, bw0.trans ((hb1.trans (b2.mono hb1.size)).mono bw0.size)⟩
         obtain ⟨o0, o1, _, _⟩ := id hS.o
         clear hx hy hxy hb1 b2)
      | (go_at_call 32; (with_reducible refine (q32.out _ _ _ hS.a hS.c).mono ?_); rintro e u2 ⟨rfl, hb1⟩
         have hS := hS.after hb1
         obtain ⟨o0, o1, _, _⟩ := id hS.o
         have l7 := hS.o.lt
         clear hb1)
      | (go_at_call 33; (with_reducible refine (q33.out _ _ _ hS.a hS.c).mono ?_); rintro e u3 ⟨rfl, hb1⟩
         have hS := hS.after hb1
         obtain ⟨o0, o1, _, _⟩ := id hS.o
         have l7 := hS.o.lt
         clear hb1))
    have hT := CoT.new hS (.int .i64 0) (.int .i64 0) (.int .i64 0) (.int .i64 0)
    obtain ⟨E, hE⟩ : ∃ E, (u3.alloc (.cells #[.int .i64 0, .int .i64 0] 27)).alloc (.cells #[.int .i64 0, .int .i64 0] 27) = E := ⟨_, rfl⟩
    rw [hE] at hT ⊢
    clear hE hS o0 o1
    obtain ⟨o0, o1, _, _⟩ := id hT.k.o
    obtain ⟨p0, p1, _, _⟩ := id hT.o9
    obtain ⟨r0, r1, _, _⟩ := id hT.o10
    (with_reducible refine (q34.out _ _ _ hT.k.a hT.k.c).mono ?_); rintro e u4 ⟨rfl, hb1⟩
    have hT := hT.after hb1
    obtain ⟨o0, o1, _, _⟩ := id hT.k.o
    obtain ⟨p0, p1, _, _⟩ := id hT.o9
    obtain ⟨r0, r1, _, _⟩ := id hT.o10
    clear hb1
    go_wp2_with (first
      | (go_at_call 20; (with_reducible refine (awake_any _).mono ?_); rintro e u9 ⟨rfl, hb1⟩
         have hT := hT.after hb1
         clear hb1)
      | (go_at_call 28; (with_reducible refine (q28.out _ _ _ hT.k.a hT.k.c).mono ?_); rintro e u5 ⟨rfl, hb1⟩
         have hT := hT.after hb1
         obtain ⟨o0, o1, _, _⟩ := id hT.k.o
         obtain ⟨p0, p1, _, _⟩ := id hT.o9
         obtain ⟨r0, r1, _, _⟩ := id hT.o10
         clear hb1)
      | (go_at_call 19; (with_reducible refine (q19 _).mono ?_); rintro e u6 ⟨rfl, hw6⟩; rw [hw6]; clear hw6 u6))
    go_ret
    exact ⟨rfl, hT.k.bw⟩
  · have q32 := Keep.mk (fun (W : World) (x y : Value) (a : IntsO W x A) (c : IntsO W y C) => fits_no (N := N) a c hlA hlC (fun h => hf h.2.2))
    have q28 : Keep (∀ (W : World) (x y : Value) (a : IntsO W x A) (c : IntsO W y C), Calls Try.prog 28 #[.int .i64 N, .agg #[x, y]] W fun e w' => e = .returned (.bool false) ∧ Below W.heap.size W w') := ⟨fun W x y a c => by
      have h := refFits_any (N := N) ⟨g1, g2⟩ a c hlA hlC
      rwa [decide_eq_false hf] at h⟩
    clear hno hlA hlC hN1 hN2 hf
    go_enter Try.func5, Try.ntmps5
    go_wp2_with (first
      | (go_at_call 31; (with_reducible refine (q31 _ ha0 hr0).mono ?_); rintro e u1 ⟨x, y, rfl, hx, hy, hxy, hb1⟩
         obtain ⟨xa, xl, xc, rfl⟩ := row_slice hx
         obtain ⟨ya, yl, yc, rfl⟩ := row_slice hy
         obtain ⟨wc, hwc⟩ : ∃ wc, u1.alloc (.cells #[.slice xa xl xc, .slice ya yl yc] 42) = wc := ⟨_, rfl⟩
         have b2 : Below u1.heap.size u1 wc := by rw [← hwc]; exact (Below.refl _ _).alloc (Nat.le_refl _) _
         have hS : CoS w u1.heap.size (.slice xa xl xc) (.slice ya yl yc) A C wc := ⟨by rw [← hwc]; exact Own2.new _ _ _ _, intsO_below (row_ints hx).1 b2, intsO_below (row_ints hy).1 b2, bw0.trans ((hb1.trans (b2.mono hb1.size)).mono bw0.size)⟩
         obtain ⟨o0, o1, _, _⟩ := id hS.o
         clear hx hy hxy hb1 b2)
      | (go_at_call 32; (with_reducible refine (q32.out _ _ _ hS.a hS.c).mono ?_); rintro e u2 ⟨rfl, hb1⟩
         have hS := hS.after hb1
         obtain ⟨o0, o1, _, _⟩ := id hS.o
         have l7 := hS.o.lt
         clear hb1)
      | (go_at_call 33; (with_reducible refine (q33.out _ _ _ hS.a hS.c).mono ?_); rintro e u3 ⟨rfl, hb1⟩
         have hS := hS.after hb1
         obtain ⟨o0, o1, _, _⟩ := id hS.o
         have l7 := hS.o.lt
         clear hb1))
    have hT := CoT.new hS (.int .i64 0) (.int .i64 0) (.int .i64 0) (.int .i64 0)
    obtain ⟨E, hE⟩ : ∃ E, (u3.alloc (.cells #[.int .i64 0, .int .i64 0] 27)).alloc (.cells #[.int .i64 0, .int .i64 0] 27) = E := ⟨_, rfl⟩
    rw [hE] at hT ⊢
    clear hE hS o0 o1
    obtain ⟨o0, o1, _, _⟩ := id hT.k.o
    obtain ⟨p0, p1, _, _⟩ := id hT.o9
    obtain ⟨r0, r1, _, _⟩ := id hT.o10
    (with_reducible refine (q34.out _ _ _ hT.k.a hT.k.c).mono ?_); rintro e u4 ⟨rfl, hb1⟩
    have hT := hT.after hb1
    obtain ⟨o0, o1, _, _⟩ := id hT.k.o
    obtain ⟨p0, p1, _, _⟩ := id hT.o9
    obtain ⟨r0, r1, _, _⟩ := id hT.o10
    clear hb1
    go_wp2_with (first
      | (go_at_call 20; (with_reducible refine (awake_any _).mono ?_); rintro e u9 ⟨rfl, hb1⟩
         have hT := hT.after hb1
         clear hb1)
      | (go_at_call 28; (with_reducible refine (q28.out _ _ _ hT.k.a hT.k.c).mono ?_); rintro e u5 ⟨rfl, hb1⟩
         have hT := hT.after hb1
         obtain ⟨o0, o1, _, _⟩ := id hT.k.o
         obtain ⟨p0, p1, _, _⟩ := id hT.o9
         obtain ⟨r0, r1, _, _⟩ := id hT.o10
         clear hb1))
    go_ret
    exact ⟨rfl, hT.k.bw⟩

theorem frL_at (f : Nat → Nat) (X : Nat) : ∀ n k, k < n → (frL f X n)[k * 2]? = some (.int .i64 (rN (f k) X : Nat)) ∧ (frL f X n)[k * 2 + 1]? = some (.int .i64 (rD (f k) X : Nat))
  | 0, k, h => by omega
  | n + 1, k, h => by
    have hl := frL_len f X n
    by_cases e : k = n
    · subst e
      constructor
      · rw [frL, List.getElem?_append_right (by omega), hl]; simp
      · rw [frL, List.getElem?_append_right (by omega), hl, show k * 2 + 1 - k * 2 = 1 by omega]; rfl
    · obtain ⟨h1, h2⟩ := frL_at f X n k (by omega)
      constructor
      · rw [frL, List.getElem?_append_left (by omega)]; exact h1
      · rw [frL, List.getElem?_append_left (by omega)]; exact h2
/-- A row of fractions in memory. -/
def FrAt (W : World) (g L X : Nat) (f : Nat → Nat) : Prop := ∀ k, k < L → W.cell? ⟨g, k * 2, none⟩ = some (.int .i64 (rN (f k) X : Nat)) ∧ W.cell? ⟨g, k * 2 + 1, none⟩ = some (.int .i64 (rD (f k) X : Nat))
theorem FrAt.of {W : World} {B L X : Nat} {f : Nat → Nat} {v : Value} (h : W.ownsRow B 27 2 v L (frL f X L)) (hL : 1 ≤ L) : ∃ g cap, v = .slice (some ⟨g, 0, none⟩) L cap ∧ FrAt W g L X f := by
  rcases h.2 with ⟨_, h0⟩ | ⟨g, cap, cur, rfl, hg, hh, hn, hcap, hsz, htake⟩
  · omega
  · refine ⟨g, cap, rfl, fun k hk => ?_⟩
    obtain ⟨h1, h2⟩ := frL_at f X L k hk
    rw [← htake, List.getElem?_take_of_lt (by omega), Array.getElem?_toList] at h1 h2
    exact ⟨by simp [World.cell?, hh, h1], by simp [World.cell?, hh, h2]⟩
theorem FrAt.keep {W W' : World} {g L X : Nat} {f : Nat → Nat} (h : FrAt W g L X f) (hb : Below W.heap.size W W') : FrAt W' g L X f := fun k hk => ⟨cell_below (h k hk).1 hb, cell_below (h k hk).2 hb⟩
structure CoV (w : World) (b7 b9 : Nat) (x y : Value) (A C : List Int) (p q r s : Value) (ga gn L X : Nat) (Y Z : Nat → Nat) (W : World) : Prop where
  t : CoT w b7 b9 x y A C p q r s W
  y : FrAt W ga L X Y
  n : FrAt W gn L X Z
theorem CoV.after {w W W' : World} {b7 b9 : Nat} {x y : Value} {A C : List Int} {p q r s : Value} {ga gn L X : Nat} {Y Z : Nat → Nat} (h : CoV w b7 b9 x y A C p q r s ga gn L X Y Z W) (hb : Below W.heap.size W W') : CoV w b7 b9 x y A C p q r s ga gn L X Y Z W' :=
  ⟨h.t.after hb, h.y.keep hb, h.n.keep hb⟩
structure CoW (w : World) (b7 b9 : Nat) (x y : Value) (A C : List Int) (p q r s : Value) (ga gn L X : Nat) (Y Z : Nat → Nat) (h1 h2 : Nat) (W : World) : Prop where
  v : CoV w b7 b9 x y A C p q r s ga gn L X Y Z W
  cy : ∀ k, k < L → W.cell? ⟨h1, 0 + k, none⟩ = some (.int .i64 ((Y k : Nat) : Int))
  cn : ∀ k, k < L → W.cell? ⟨h2, 0 + k, none⟩ = some (.int .i64 ((Z k : Nat) : Int))
theorem CoW.after {w W W' : World} {b7 b9 : Nat} {x y : Value} {A C : List Int} {p q r s : Value} {ga gn L X : Nat} {Y Z : Nat → Nat} {h1 h2 : Nat} (h : CoW w b7 b9 x y A C p q r s ga gn L X Y Z h1 h2 W) (hb : Below W.heap.size W W') : CoW w b7 b9 x y A C p q r s ga gn L X Y Z h1 h2 W' :=
  ⟨h.v.after hb, fun k hk => cell_below (h.cy k hk) hb, fun k hk => cell_below (h.cn k hk) hb⟩

set_option maxHeartbeats 8000000 in
set_option maxRecDepth 100000 in
theorem courses_yes {N d : Nat} (h1 : 1 ≤ N) (h36 : N ≤ 36) (hd : d ≤ N) {va vr : Value} {za zr : List Int} {w : World} (ha : ArgInts w va za) (hr : ArgInts w vr zr) (hf : FitOk N (za.take 37) (zr.take 37)) : Calls Try.prog 5 #[.int .i64 N, .int .i64 d, .agg #[va, vr]] w fun e w' => e = .returned (.bool true) ∧ Below w.heap.size w w' := by
  have hmx : Try.prog.follows .mixedOrders = true := by kernel_rfl
  obtain ⟨A, hA⟩ : ∃ A, Keep (za.take 37 = A) := ⟨_, ⟨rfl⟩⟩
  obtain ⟨C, hC⟩ : ∃ C, Keep (zr.take 37 = C) := ⟨_, ⟨rfl⟩⟩
  have hlA : A.length ≤ 100000 := by rw [← hA.out]; simp; omega
  have hlC : C.length ≤ 100000 := by rw [← hC.out]; simp; omega
  have q31 := fun (W : World) (ha : ArgInts W va za) (hr : ArgInts W vr zr) => courseCopy_any hA hC ha hr
  obtain ⟨w0, hw0⟩ : ∃ w0, w.alloc (.cells #[va, vr] 42) = w0 := ⟨_, rfl⟩
  have bw0 : Below w.heap.size w w0 := by rw [← hw0]; exact (Below.refl _ _).alloc (Nat.le_refl _) _
  have hO0 : Own2 w0 w.heap.size va vr := by rw [← hw0]; exact Own2.new _ _ _ _
  have ha0 := argInts_keep ha bw0
  have hr0 := argInts_keep hr bw0
  obtain ⟨z0, z1, _, _⟩ := id hO0
  rw [hA.out, hC.out] at hf
  obtain ⟨fA, hfA⟩ : ∃ f : Nat → Int, Keep (∀ k, A.getD k 0 = f k) := ⟨_, ⟨fun _ => rfl⟩⟩
  obtain ⟨fR, hfR⟩ : ∃ f : Nat → Int, Keep (∀ k, C.getD k 0 = f k) := ⟨_, ⟨fun _ => rfl⟩⟩
  obtain ⟨L, hL⟩ : ∃ L, Keep (A.length = L) := ⟨_, ⟨rfl⟩⟩
  have l1 : 1 ≤ L := by rw [← hL.out]; exact hf.2.1
  have l2 : L ≤ N := by have := hf.2.2.1; rw [hL.out] at this; omega
  obtain ⟨X, hX⟩ : ∃ X, Keep (ch N d = X) := ⟨_, ⟨rfl⟩⟩
  obtain ⟨Y, hY⟩ : ∃ Y : Nat → Nat, Keep (∀ k, yes N d fA fR k = Y k) := ⟨_, ⟨fun _ => rfl⟩⟩
  obtain ⟨Z, hZ⟩ : ∃ Z : Nat → Nat, Keep (∀ k, no N d fA fR k = Z k) := ⟨_, ⟨fun _ => rfl⟩⟩
  have hYZ : Keep (∀ k, k < L → Y k + Z k ≤ X) := ⟨fun k hk => by rw [← hY.out, ← hZ.out, ← hX.out]; exact both_ch N d fA fR (by omega) (k + 2)⟩
  have hX1 : 1 ≤ X := by rw [← hX.out]; exact ch_pos hd
  have hX2 : X ≤ 9075135300 := by rw [← hX.out]; exact ch_le h36 d
  obtain ⟨AA, hAA⟩ : ∃ a, Keep (accAll N d fA fR L = a) := ⟨_, ⟨rfl⟩⟩
  obtain ⟨EE, hEE⟩ : ∃ a, Keep (exAll N d fA fR L = a) := ⟨_, ⟨rfl⟩⟩
  have hAAb : AA ≤ 36 * 9075135300 := by
    rw [← hAA.out, accAll_eq l2 h36]
    refine Nat.le_trans (sumTo_leN L (fun i hi => ?_)) (Nat.mul_le_mul (show L ≤ 36 by omega) (Nat.le_refl 9075135300))
    have := hYZ.out i hi
    rw [hY.out]; omega
  have hEEb : EE ≤ 36 * (36 * 9075135300) := by
    rw [← hEE.out, exAll_eq l2 h36]
    refine Nat.le_trans (sumTo_leN L (fun i hi => ?_)) (Nat.mul_le_mul (show L ≤ 36 by omega) (Nat.le_refl (36 * 9075135300)))
    have := hYZ.out i hi
    rw [hY.out, hZ.out]
    exact Nat.mul_le_mul (by omega) (by omega)
  have q32 : Keep (∀ (W : World) (x y : Value) (a : IntsO W x A) (c : IntsO W y C), Calls Try.prog 32 #[.int .i64 N, .agg #[x, y]] W fun e w' => e = .returned (.int .i64 0) ∧ Below W.heap.size W w') := ⟨fun W x y a c => by
    obtain ⟨c, hv, hl, hin, hok, _⟩ := fits_crs a c hf
    rw [← hv]; exact fits_yes h1 h36 hin hok⟩
  have q28 : Keep (∀ (W : World) (x y : Value) (a : IntsO W x A) (c : IntsO W y C), Calls Try.prog 28 #[.int .i64 N, .agg #[x, y]] W fun e w' => e = .returned (.bool true) ∧ Below W.heap.size W w') := ⟨fun W x y a c => by
    have h := refFits_any (N := (N : Int)) ⟨by omega, by omega⟩ a c hlA hlC
    rwa [decide_eq_true hf] at h⟩
  have q19 : ∀ W, Calls Try.prog 19 #[.int .i64 N, .int .i64 d] W fun e w' => e = .returned (.bool true) ∧ w' = W := fun W => by
    have h := lot_any (N := (N : Int)) (z := (d : Int)) W
    rwa [decide_eq_true (by omega)] at h
  have q21 : ∀ W, Calls Try.prog 21 #[.int .i64 N, .int .i64 d] W fun e w' => e = .returned (.int .i64 (X : Nat)) ∧ w' = W := fun W => by
    have h := binom_any (n := N) (z := (d : Int)) h36 ⟨by omega, by omega⟩ W
    rwa [show chZ N (d : Int) = X by unfold chZ; rw [if_neg (by omega), Int.toNat_natCast, hX.out]] at h
  have q33 : Keep (∀ (W : World) (x y : Value) (a : IntsO W x A) (c : IntsO W y C), Calls Try.prog 33 #[.int .i64 N, .int .i64 d, .agg #[x, y]] W fun e w' => e = .returned (.tuple #[.agg #[.int .i64 (rN AA X : Nat), .int .i64 (rD AA X : Nat)], .agg #[.int .i64 (rN EE X : Nat), .int .i64 (rD EE X : Nat)], .int .i64 0]) ∧ Below W.heap.size W w') := ⟨fun W x y a c => by
    obtain ⟨c, hv, hl, hin, hok, hcA, hcR⟩ := fits_crs a c hf
    have h := course_any h1 h36 hd hin hok
    rw [hv, hl, hL.out, show c.A = fA from funext fun k => (hcA k).trans (hfA.out k), show c.R = fR from funext fun k => (hcR k).trans (hfR.out k), hAA.out, hEE.out, hX.out] at h
    exact h⟩
  have q34 : Keep (∀ (W : World) (x y : Value) (a : IntsO W x A) (c : IntsO W y C), Calls Try.prog 34 #[.int .i64 N, .int .i64 d, .agg #[x, y]] W fun e w' => ∃ va vr, e = .returned (.tuple #[va, vr, .int .i64 0]) ∧ w'.ownsRow W.heap.size 27 2 va L (frL Y X L) ∧ w'.ownsRow W.heap.size 27 2 vr L (frL Z X L) ∧ Below W.heap.size W w') := ⟨fun W x y a c => by
    obtain ⟨c, hv, hl, hin, hok, hcA, hcR⟩ := fits_crs a c hf
    have h := chances_any h1 h36 hd hin hok
    rw [hv, hl, hL.out, show c.A = fA from funext fun k => (hcA k).trans (hfA.out k), show c.R = fR from funext fun k => (hcR k).trans (hfR.out k), hX.out, show (fun k => yes N d fA fR k) = Y from funext hY.out, show (fun k => no N d fA fR k) = Z from funext hZ.out] at h
    exact h⟩
  have q35 : Keep (∀ (W : World) (x y : Value) (a : IntsO W x A) (c : IntsO W y C), Calls Try.prog 35 #[.int .i64 N, .int .i64 d, .agg #[x, y]] W fun e w' => e = .returned (.tuple #[.int .i64 (AA : Nat), .int .i64 (EE : Nat)]) ∧ Below W.heap.size W w') := ⟨fun W x y a c => by
    obtain ⟨c, hv, hl, hin, hok, hcA, hcR⟩ := fits_crs a c hf
    have h := refCourse_any h36 hd hin hok.l1 hok.l2
    rw [hv, hl, hL.out, show c.A = fA from funext fun k => (hcA k).trans (hfA.out k), show c.R = fR from funext fun k => (hcR k).trans (hfR.out k), hAA.out, hEE.out] at h
    exact h⟩
  have q36 : Keep (∀ (W : World) (x y : Value) (a : IntsO W x A) (c : IntsO W y C), Calls Try.prog 36 #[.int .i64 N, .int .i64 d, .agg #[x, y]] W fun e w' => ∃ va vr, e = .returned (.tuple #[va, vr]) ∧ w'.ownsRow W.heap.size 3 1 va L (rowL (fun i => ((Y i : Nat) : Int)) L) ∧ w'.ownsRow W.heap.size 3 1 vr L (rowL (fun i => ((Z i : Nat) : Int)) L) ∧ Below W.heap.size W w') := ⟨fun W x y a c => by
    obtain ⟨c, hv, hl, hin, hok, hcA, hcR⟩ := fits_crs a c hf
    have h := refChances_any h36 hd hin hok.l1 hok.l2
    rw [hv, hl, hL.out, show c.A = fA from funext fun k => (hcA k).trans (hfA.out k), show c.R = fR from funext fun k => (hcR k).trans (hfR.out k)] at h
    simp only [hY.out, hZ.out] at h
    exact h⟩
  have q23 := Keep.mk (fun (y : Nat) (hy : y ≤ X) (W : World) => reduced_any y X (by omega) hX1 (by omega) W)
  have qa := fun W => reduced_any AA X (by omega) hX1 (by omega) W
  have qe := fun W => reduced_any EE X (by omega) hX1 (by omega) W
  simp only [redV, fracV] at qa qe q23
  obtain ⟨N1, hN1⟩ : ∃ a, rN AA X = a := ⟨_, rfl⟩
  obtain ⟨D1, hD1⟩ : ∃ a, rD AA X = a := ⟨_, rfl⟩
  obtain ⟨N2, hN2⟩ : ∃ a, rN EE X = a := ⟨_, rfl⟩
  obtain ⟨D2, hD2⟩ : ∃ a, rD EE X = a := ⟨_, rfl⟩
  rw [hN1, hD1] at qa
  rw [hN2, hD2] at qe
  rw [hN1, hD1, hN2, hD2] at q33
  have g1 : (1 : Int) ≤ (N : Int) := by omega
  have g2 : (N : Int) ≤ 36 := by omega
  clear hf hN1 hD1 hN2 hD2 hAAb hEEb hAA hEE hY hZ hfA hfR hL hlA hlC
  go_enter Try.func5, Try.ntmps5
  go_wp2_with (first
  | (go_at_call 31; (with_reducible refine (q31 _ ha0 hr0).mono ?_); rintro e u1 ⟨x, y, rfl, hx, hy, hxy, hb1⟩
     obtain ⟨xa, xl, xc, rfl⟩ := row_slice hx
     obtain ⟨ya, yl, yc, rfl⟩ := row_slice hy
     obtain ⟨wc, hwc⟩ : ∃ wc, u1.alloc (.cells #[.slice xa xl xc, .slice ya yl yc] 42) = wc := ⟨_, rfl⟩
     have b2 : Below u1.heap.size u1 wc := by rw [← hwc]; exact (Below.refl _ _).alloc (Nat.le_refl _) _
     have hS : CoS w u1.heap.size (.slice xa xl xc) (.slice ya yl yc) A C wc := ⟨by rw [← hwc]; exact Own2.new _ _ _ _, intsO_below (row_ints hx).1 b2, intsO_below (row_ints hy).1 b2, bw0.trans ((hb1.trans (b2.mono hb1.size)).mono bw0.size)⟩
     obtain ⟨o0, o1, _, _⟩ := id hS.o
     clear hx hy hxy hb1 b2)
  | (go_at_call 32; (with_reducible refine (q32.out _ _ _ hS.a hS.c).mono ?_); rintro e u2 ⟨rfl, hb1⟩
     have hS := hS.after hb1
     obtain ⟨o0, o1, _, _⟩ := id hS.o
     have l7 := hS.o.lt
     clear hb1)
  | (go_at_call 33; (with_reducible refine (q33.out _ _ _ hS.a hS.c).mono ?_); rintro e u3 ⟨rfl, hb1⟩
     have hS := hS.after hb1
     obtain ⟨o0, o1, _, _⟩ := id hS.o
     have l7 := hS.o.lt
     clear hb1))
  have hT := CoT.new hS (.int .i64 (N1 : Nat)) (.int .i64 (D1 : Nat)) (.int .i64 (N2 : Nat)) (.int .i64 (D2 : Nat))
  obtain ⟨E, hE⟩ : ∃ E, (u3.alloc (.cells #[.int .i64 (N1 : Nat), .int .i64 (D1 : Nat)] 27)).alloc (.cells #[.int .i64 (N2 : Nat), .int .i64 (D2 : Nat)] 27) = E := ⟨_, rfl⟩
  rw [hE] at hT ⊢
  clear hE hS o0 o1
  (with_reducible refine (q34.out _ _ _ hT.k.a hT.k.c).mono ?_); rintro e u4 ⟨v1, v2, rfl, hv1, hv2, hb1⟩
  obtain ⟨ga, ca, rfl, hfa⟩ := FrAt.of hv1 l1
  obtain ⟨gn, cn, rfl, hfn⟩ := FrAt.of hv2 l1
  have hV := CoV.mk (hT.after hb1) hfa hfn
  clear hv1 hv2 hb1 hfa hfn hT
  obtain ⟨o0, o1, _, _⟩ := id hV.t.k.o
  go_wp2_with (first
  | (go_at_call 28; (with_reducible refine (q28.out _ _ _ hV.t.k.a hV.t.k.c).mono ?_); rintro e u5 ⟨rfl, hb1⟩
     have hV := hV.after hb1
     obtain ⟨o0, o1, _, _⟩ := id hV.t.k.o
     clear hb1)
  | (go_at_call 19; (with_reducible refine (q19 _).mono ?_); rintro e u6 ⟨rfl, hw6⟩; rw [hw6]; clear hw6 u6)
  | (go_at_call 21; (with_reducible refine (q21 _).mono ?_); rintro e u6 ⟨rfl, hw6⟩; rw [hw6]; clear hw6 u6)
  | (go_at_call 35; (with_reducible refine (q35.out _ _ _ hV.t.k.a hV.t.k.c).mono ?_); rintro e u7 ⟨rfl, hb1⟩
     have hV := hV.after hb1
     obtain ⟨o0, o1, _, _⟩ := id hV.t.k.o
     clear hb1)
  | (go_at_call 36; (with_reducible refine (q36.out _ _ _ hV.t.k.a hV.t.k.c).mono ?_); rintro e u8 ⟨v3, v4, rfl, hv3, hv4, hb1⟩
     obtain ⟨i1, c1, rfl, _, _, _, _, hy1⟩ := row_parts l1 hv3
     obtain ⟨i2, c2, rfl, _, _, _, _, hy2⟩ := row_parts l1 hv4
     have hW := CoW.mk (hV.after hb1) hy1 hy2
     clear hv3 hv4 hb1 hy1 hy2 hV))
  obtain ⟨b7, hb7⟩ : ∃ g, u1.heap.size = g := ⟨_, rfl⟩
  obtain ⟨b9, hb9⟩ : ∃ g, u3.heap.size = g := ⟨_, rfl⟩
  rw [hb7, hb9] at hW
  try rw [hb7]
  try rw [hb9]
  clear hb7 hb9 q31 q32 q33 q34 q28 q19 q21 q35 q36 o0 o1
  generalize Value.slice xa xl xc = x at *
  generalize Value.slice ya yl yc = y at *
  refine (wpIn_wide (n := 0)).1 ?_
  refine Many.region_many (fun _ W => CoW w b7 b9 x y A C (.int .i64 (N1 : Nat)) (.int .i64 (D1 : Nat)) (.int .i64 (N2 : Nat)) (.int .i64 (D2 : Nat)) ga gn L X Y Z i1 i2 W) hmx (by kernel_rfl) (fun s s' W' h hc => hc) (fun s hs => hW.after ((Below.refl _ _).drew)) ?_
  refine Many.lex_want (by rfl) (Many.tr_read (v := .agg #[.int .i64 (N1 : Nat), .int .i64 (D1 : Nat)]) (CoW w b7 b9 x y A C (.int .i64 (N1 : Nat)) (.int .i64 (D1 : Nat)) (.int .i64 (N2 : Nat)) (.int .i64 (D2 : Nat)) ga gn L X Y Z i1 i2) (fun s W h => h) (fun s W h => h) (fun W h => by (obtain ⟨p0, p1, _, _⟩ := h.v.t.o9; obtain ⟨r0, r1, _, _⟩ := h.v.t.o10; clear h; go_simp; (try rfl); (try (first | done | omega | (intros; omega)))))) ?_
  simp only [Act.put, List.setIfInBounds_toArray, List.set_cons_succ, List.set_cons_zero, Nat.reduceAdd]
  refine Many.lex_want (by rfl) (Many.tr_read (v := .int .i64 (AA : Nat)) (CoW w b7 b9 x y A C (.int .i64 (N1 : Nat)) (.int .i64 (D1 : Nat)) (.int .i64 (N2 : Nat)) (.int .i64 (D2 : Nat)) ga gn L X Y Z i1 i2) (fun s W h => h) (fun s W h => h) (fun W h => by (clear h; go_simp; (try rfl); (try (first | done | omega | (intros; omega)))))) ?_
  simp only [Act.put, List.setIfInBounds_toArray, List.set_cons_succ, List.set_cons_zero, Nat.reduceAdd]
  refine Many.lex_want (by rfl) (Many.tr_read (v := .int .i64 (X : Nat)) (CoW w b7 b9 x y A C (.int .i64 (N1 : Nat)) (.int .i64 (D1 : Nat)) (.int .i64 (N2 : Nat)) (.int .i64 (D2 : Nat)) ga gn L X Y Z i1 i2) (fun s W h => h) (fun s W h => h) (fun W h => by (clear h; go_simp; (try rfl); (try (first | done | omega | (intros; omega)))))) ?_
  simp only [Act.put, List.setIfInBounds_toArray, List.set_cons_succ, List.set_cons_zero, Nat.reduceAdd]
  refine Many.lex_want (by rfl) (Many.tr_call (v := .agg #[.int .i64 (N1 : Nat), .int .i64 (D1 : Nat)]) (f := 23) (args := #[.int .i64 AA, .int .i64 X]) (CoW w b7 b9 x y A C (.int .i64 (N1 : Nat)) (.int .i64 (D1 : Nat)) (.int .i64 (N2 : Nat)) (.int .i64 (D2 : Nat)) ga gn L X Y Z i1 i2) (fun s W h => h) (fun s W h => (qa W).mono fun e w' q => ⟨q.1, h.after q.2⟩) (fun W h => by (clear h; go_simp; try rfl))) ?_
  simp only [Act.put, List.setIfInBounds_toArray, List.set_cons_succ, List.set_cons_zero, Nat.reduceAdd]
  refine Many.lex_want (by rfl) (Many.tr_read (v := .bool false) (CoW w b7 b9 x y A C (.int .i64 (N1 : Nat)) (.int .i64 (D1 : Nat)) (.int .i64 (N2 : Nat)) (.int .i64 (D2 : Nat)) ga gn L X Y Z i1 i2) (fun s W h => h) (fun s W h => h) (fun W h => by (clear h; go_simp; (try rfl); (try (first | done | omega | (intros; omega)))))) ?_
  simp only [Act.put, List.setIfInBounds_toArray, List.set_cons_succ, List.set_cons_zero, Nat.reduceAdd]
  refine Many.lex_want (by rfl) (Many.tr_read (v := .bool false) (CoW w b7 b9 x y A C (.int .i64 (N1 : Nat)) (.int .i64 (D1 : Nat)) (.int .i64 (N2 : Nat)) (.int .i64 (D2 : Nat)) ga gn L X Y Z i1 i2) (fun s W h => h) (fun s W h => h) (fun W h => by (clear h; go_simp; (try rfl); (try (first | done | omega | (intros; omega)))))) ?_
  simp only [Act.put, List.setIfInBounds_toArray, List.set_cons_succ, List.set_cons_zero, Nat.reduceAdd]
  refine Many.lex_want (by rfl) (Many.tr_read (v := .agg #[.int .i64 (N2 : Nat), .int .i64 (D2 : Nat)]) (CoW w b7 b9 x y A C (.int .i64 (N1 : Nat)) (.int .i64 (D1 : Nat)) (.int .i64 (N2 : Nat)) (.int .i64 (D2 : Nat)) ga gn L X Y Z i1 i2) (fun s W h => h) (fun s W h => h) (fun W h => by (obtain ⟨p0, p1, _, _⟩ := h.v.t.o9; obtain ⟨r0, r1, _, _⟩ := h.v.t.o10; clear h; go_simp; (try rfl); (try (first | done | omega | (intros; omega)))))) ?_
  simp only [Act.put, List.setIfInBounds_toArray, List.set_cons_succ, List.set_cons_zero, Nat.reduceAdd]
  refine Many.lex_want (by rfl) (Many.tr_read (v := .int .i64 (EE : Nat)) (CoW w b7 b9 x y A C (.int .i64 (N1 : Nat)) (.int .i64 (D1 : Nat)) (.int .i64 (N2 : Nat)) (.int .i64 (D2 : Nat)) ga gn L X Y Z i1 i2) (fun s W h => h) (fun s W h => h) (fun W h => by (clear h; go_simp; (try rfl); (try (first | done | omega | (intros; omega)))))) ?_
  simp only [Act.put, List.setIfInBounds_toArray, List.set_cons_succ, List.set_cons_zero, Nat.reduceAdd]
  refine Many.lex_want (by rfl) (Many.tr_read (v := .int .i64 (X : Nat)) (CoW w b7 b9 x y A C (.int .i64 (N1 : Nat)) (.int .i64 (D1 : Nat)) (.int .i64 (N2 : Nat)) (.int .i64 (D2 : Nat)) ga gn L X Y Z i1 i2) (fun s W h => h) (fun s W h => h) (fun W h => by (clear h; go_simp; (try rfl); (try (first | done | omega | (intros; omega)))))) ?_
  simp only [Act.put, List.setIfInBounds_toArray, List.set_cons_succ, List.set_cons_zero, Nat.reduceAdd]
  refine Many.lex_want (by rfl) (Many.tr_call (v := .agg #[.int .i64 (N2 : Nat), .int .i64 (D2 : Nat)]) (f := 23) (args := #[.int .i64 EE, .int .i64 X]) (CoW w b7 b9 x y A C (.int .i64 (N1 : Nat)) (.int .i64 (D1 : Nat)) (.int .i64 (N2 : Nat)) (.int .i64 (D2 : Nat)) ga gn L X Y Z i1 i2) (fun s W h => h) (fun s W h => (qe W).mono fun e w' q => ⟨q.1, h.after q.2⟩) (fun W h => by (clear h; go_simp; try rfl))) ?_
  simp only [Act.put, List.setIfInBounds_toArray, List.set_cons_succ, List.set_cons_zero, Nat.reduceAdd]
  refine Many.lex_want (by rfl) (Many.tr_read (v := .bool false) (CoW w b7 b9 x y A C (.int .i64 (N1 : Nat)) (.int .i64 (D1 : Nat)) (.int .i64 (N2 : Nat)) (.int .i64 (D2 : Nat)) ga gn L X Y Z i1 i2) (fun s W h => h) (fun s W h => h) (fun W h => by (clear h; go_simp; (try rfl); (try (first | done | omega | (intros; omega)))))) ?_
  simp only [Act.put, List.setIfInBounds_toArray, List.set_cons_succ, List.set_cons_zero, Nat.reduceAdd]
  refine Many.lex_want (by rfl) (Many.tr_read (v := .bool false) (CoW w b7 b9 x y A C (.int .i64 (N1 : Nat)) (.int .i64 (D1 : Nat)) (.int .i64 (N2 : Nat)) (.int .i64 (D2 : Nat)) ga gn L X Y Z i1 i2) (fun s W h => h) (fun s W h => h) (fun W h => by (clear h; go_simp; (try rfl); (try (first | done | omega | (intros; omega)))))) ?_
  simp only [Act.put, List.setIfInBounds_toArray, List.set_cons_succ, List.set_cons_zero, Nat.reduceAdd]
  refine Many.lex_want (by rfl) (Many.tr_read (v := .bool false) (CoW w b7 b9 x y A C (.int .i64 (N1 : Nat)) (.int .i64 (D1 : Nat)) (.int .i64 (N2 : Nat)) (.int .i64 (D2 : Nat)) ga gn L X Y Z i1 i2) (fun s W h => h) (fun s W h => h) (fun W h => by (clear h; go_simp; (try rfl); (try (first | done | omega | (intros; omega)))))) ?_
  simp only [Act.put, List.setIfInBounds_toArray, List.set_cons_succ, List.set_cons_zero, Nat.reduceAdd]
  refine Many.lex_want (by rfl) (Many.tr_read (v := .int .i64 0) (CoW w b7 b9 x y A C (.int .i64 (N1 : Nat)) (.int .i64 (D1 : Nat)) (.int .i64 (N2 : Nat)) (.int .i64 (D2 : Nat)) ga gn L X Y Z i1 i2) (fun s W h => h) (fun s W h => h) (fun W h => by (clear h; go_simp; (try rfl); (try (first | done | omega | (intros; omega)))))) ?_
  simp only [Act.put, List.setIfInBounds_toArray, List.set_cons_succ, List.set_cons_zero, Nat.reduceAdd]
  refine Many.lex_want (by rfl) (Many.tr_read (v := .bool false) (CoW w b7 b9 x y A C (.int .i64 (N1 : Nat)) (.int .i64 (D1 : Nat)) (.int .i64 (N2 : Nat)) (.int .i64 (D2 : Nat)) ga gn L X Y Z i1 i2) (fun s W h => h) (fun s W h => h) (fun W h => by (clear h; go_simp; (try rfl); (try (first | done | omega | (intros; omega)))))) ?_
  simp only [Act.put, List.setIfInBounds_toArray, List.set_cons_succ, List.set_cons_zero, Nat.reduceAdd]
  refine Many.lex_want (by rfl) (Many.tr_read (v := .bool false) (CoW w b7 b9 x y A C (.int .i64 (N1 : Nat)) (.int .i64 (D1 : Nat)) (.int .i64 (N2 : Nat)) (.int .i64 (D2 : Nat)) ga gn L X Y Z i1 i2) (fun s W h => h) (fun s W h => h) (fun W h => by (clear h; go_simp; (try rfl); (try (first | done | omega | (intros; omega)))))) ?_
  simp only [Act.put, List.setIfInBounds_toArray, List.set_cons_succ, List.set_cons_zero, Nat.reduceAdd]
  refine Many.lex_want (by rfl) (Many.tr_read (v := .bool false) (CoW w b7 b9 x y A C (.int .i64 (N1 : Nat)) (.int .i64 (D1 : Nat)) (.int .i64 (N2 : Nat)) (.int .i64 (D2 : Nat)) ga gn L X Y Z i1 i2) (fun s W h => h) (fun s W h => h) (fun W h => by (clear h; go_simp; (try rfl); (try (first | done | omega | (intros; omega)))))) ?_
  simp only [Act.put, List.setIfInBounds_toArray, List.set_cons_succ, List.set_cons_zero, Nat.reduceAdd]
  refine Many.lex_want (by rfl) (Many.tr_read (v := .int .i64 0) (CoW w b7 b9 x y A C (.int .i64 (N1 : Nat)) (.int .i64 (D1 : Nat)) (.int .i64 (N2 : Nat)) (.int .i64 (D2 : Nat)) ga gn L X Y Z i1 i2) (fun s W h => h) (fun s W h => h) (fun W h => by (clear h; go_simp; (try rfl); (try (first | done | omega | (intros; omega)))))) ?_
  simp only [Act.put, List.setIfInBounds_toArray, List.set_cons_succ, List.set_cons_zero, Nat.reduceAdd]
  refine Many.lex_want (by rfl) (Many.tr_read (v := .bool false) (CoW w b7 b9 x y A C (.int .i64 (N1 : Nat)) (.int .i64 (D1 : Nat)) (.int .i64 (N2 : Nat)) (.int .i64 (D2 : Nat)) ga gn L X Y Z i1 i2) (fun s W h => h) (fun s W h => h) (fun W h => by (clear h; go_simp; (try rfl); (try (first | done | omega | (intros; omega)))))) ?_
  simp only [Act.put, List.setIfInBounds_toArray, List.set_cons_succ, List.set_cons_zero, Nat.reduceAdd]
  refine Many.lex_want (by rfl) (Many.tr_read (v := .bool false) (CoW w b7 b9 x y A C (.int .i64 (N1 : Nat)) (.int .i64 (D1 : Nat)) (.int .i64 (N2 : Nat)) (.int .i64 (D2 : Nat)) ga gn L X Y Z i1 i2) (fun s W h => h) (fun s W h => h) (fun W h => by (clear h; go_simp; (try rfl); (try (first | done | omega | (intros; omega)))))) ?_
  simp only [Act.put, List.setIfInBounds_toArray, List.set_cons_succ, List.set_cons_zero, Nat.reduceAdd]
  refine Many.lex_want (by rfl) (Many.tr_read (v := .bool false) (CoW w b7 b9 x y A C (.int .i64 (N1 : Nat)) (.int .i64 (D1 : Nat)) (.int .i64 (N2 : Nat)) (.int .i64 (D2 : Nat)) ga gn L X Y Z i1 i2) (fun s W h => h) (fun s W h => h) (fun W h => by (clear h; go_simp; (try rfl); (try (first | done | omega | (intros; omega)))))) ?_
  simp only [Act.put, List.setIfInBounds_toArray, List.set_cons_succ, List.set_cons_zero, Nat.reduceAdd]
  refine Many.lex_want (by rfl) (Many.tr_read (v := .slice (some ⟨ga, 0, none⟩) L ca) (CoW w b7 b9 x y A C (.int .i64 (N1 : Nat)) (.int .i64 (D1 : Nat)) (.int .i64 (N2 : Nat)) (.int .i64 (D2 : Nat)) ga gn L X Y Z i1 i2) (fun s W h => h) (fun s W h => h) (fun W h => by (clear h; go_simp; (try rfl); (try (first | done | omega | (intros; omega)))))) ?_
  simp only [Act.put, List.setIfInBounds_toArray, List.set_cons_succ, List.set_cons_zero, Nat.reduceAdd]
  refine Many.lex_want (by rfl) (Many.tr_read (v := .int .i64 L) (CoW w b7 b9 x y A C (.int .i64 (N1 : Nat)) (.int .i64 (D1 : Nat)) (.int .i64 (N2 : Nat)) (.int .i64 (D2 : Nat)) ga gn L X Y Z i1 i2) (fun s W h => h) (fun s W h => h) (fun W h => by (clear h; go_simp; (try rfl); (try (first | done | omega | (intros; omega)))))) ?_
  simp only [Act.put, List.setIfInBounds_toArray, List.set_cons_succ, List.set_cons_zero, Nat.reduceAdd]
  refine Many.lex_want (by rfl) (Many.tr_read (v := .slice (some ⟨i1, 0, none⟩) L c1) (CoW w b7 b9 x y A C (.int .i64 (N1 : Nat)) (.int .i64 (D1 : Nat)) (.int .i64 (N2 : Nat)) (.int .i64 (D2 : Nat)) ga gn L X Y Z i1 i2) (fun s W h => h) (fun s W h => h) (fun W h => by (clear h; go_simp; (try rfl); (try (first | done | omega | (intros; omega)))))) ?_
  simp only [Act.put, List.setIfInBounds_toArray, List.set_cons_succ, List.set_cons_zero, Nat.reduceAdd]
  refine Many.lex_want (by rfl) (Many.tr_read (v := .int .i64 L) (CoW w b7 b9 x y A C (.int .i64 (N1 : Nat)) (.int .i64 (D1 : Nat)) (.int .i64 (N2 : Nat)) (.int .i64 (D2 : Nat)) ga gn L X Y Z i1 i2) (fun s W h => h) (fun s W h => h) (fun W h => by (clear h; go_simp; (try rfl); (try (first | done | omega | (intros; omega)))))) ?_
  simp only [Act.put, List.setIfInBounds_toArray, List.set_cons_succ, List.set_cons_zero, Nat.reduceAdd]
  refine Many.lex_want (by rfl) (Many.tr_read (v := .bool false) (CoW w b7 b9 x y A C (.int .i64 (N1 : Nat)) (.int .i64 (D1 : Nat)) (.int .i64 (N2 : Nat)) (.int .i64 (D2 : Nat)) ga gn L X Y Z i1 i2) (fun s W h => h) (fun s W h => h) (fun W h => by (clear h; go_simp; (try rfl); (try (first | done | omega | (intros; omega)))))) ?_
  simp only [Act.put, List.setIfInBounds_toArray, List.set_cons_succ, List.set_cons_zero, Nat.reduceAdd]
  refine Many.lex_want (by rfl) (Many.tr_read (v := .bool false) (CoW w b7 b9 x y A C (.int .i64 (N1 : Nat)) (.int .i64 (D1 : Nat)) (.int .i64 (N2 : Nat)) (.int .i64 (D2 : Nat)) ga gn L X Y Z i1 i2) (fun s W h => h) (fun s W h => h) (fun W h => by (clear h; go_simp; (try rfl); (try (first | done | omega | (intros; omega)))))) ?_
  simp only [Act.put, List.setIfInBounds_toArray, List.set_cons_succ, List.set_cons_zero, Nat.reduceAdd]
  refine Many.lex_want (by rfl) (Many.tr_read (v := .bool false) (CoW w b7 b9 x y A C (.int .i64 (N1 : Nat)) (.int .i64 (D1 : Nat)) (.int .i64 (N2 : Nat)) (.int .i64 (D2 : Nat)) ga gn L X Y Z i1 i2) (fun s W h => h) (fun s W h => h) (fun W h => by (clear h; go_simp; (try rfl); (try (first | done | omega | (intros; omega)))))) ?_
  simp only [Act.put, List.setIfInBounds_toArray, List.set_cons_succ, List.set_cons_zero, Nat.reduceAdd]
  refine Many.lex_want (by rfl) (Many.tr_read (v := .slice (some ⟨gn, 0, none⟩) L cn) (CoW w b7 b9 x y A C (.int .i64 (N1 : Nat)) (.int .i64 (D1 : Nat)) (.int .i64 (N2 : Nat)) (.int .i64 (D2 : Nat)) ga gn L X Y Z i1 i2) (fun s W h => h) (fun s W h => h) (fun W h => by (clear h; go_simp; (try rfl); (try (first | done | omega | (intros; omega)))))) ?_
  simp only [Act.put, List.setIfInBounds_toArray, List.set_cons_succ, List.set_cons_zero, Nat.reduceAdd]
  refine Many.lex_want (by rfl) (Many.tr_read (v := .int .i64 L) (CoW w b7 b9 x y A C (.int .i64 (N1 : Nat)) (.int .i64 (D1 : Nat)) (.int .i64 (N2 : Nat)) (.int .i64 (D2 : Nat)) ga gn L X Y Z i1 i2) (fun s W h => h) (fun s W h => h) (fun W h => by (clear h; go_simp; (try rfl); (try (first | done | omega | (intros; omega)))))) ?_
  simp only [Act.put, List.setIfInBounds_toArray, List.set_cons_succ, List.set_cons_zero, Nat.reduceAdd]
  refine Many.lex_want (by rfl) (Many.tr_read (v := .slice (some ⟨i2, 0, none⟩) L c2) (CoW w b7 b9 x y A C (.int .i64 (N1 : Nat)) (.int .i64 (D1 : Nat)) (.int .i64 (N2 : Nat)) (.int .i64 (D2 : Nat)) ga gn L X Y Z i1 i2) (fun s W h => h) (fun s W h => h) (fun W h => by (clear h; go_simp; (try rfl); (try (first | done | omega | (intros; omega)))))) ?_
  simp only [Act.put, List.setIfInBounds_toArray, List.set_cons_succ, List.set_cons_zero, Nat.reduceAdd]
  refine Many.lex_want (by rfl) (Many.tr_read (v := .int .i64 L) (CoW w b7 b9 x y A C (.int .i64 (N1 : Nat)) (.int .i64 (D1 : Nat)) (.int .i64 (N2 : Nat)) (.int .i64 (D2 : Nat)) ga gn L X Y Z i1 i2) (fun s W h => h) (fun s W h => h) (fun W h => by (clear h; go_simp; (try rfl); (try (first | done | omega | (intros; omega)))))) ?_
  simp only [Act.put, List.setIfInBounds_toArray, List.set_cons_succ, List.set_cons_zero, Nat.reduceAdd]
  refine Many.lex_want (by rfl) (Many.tr_read (v := .bool false) (CoW w b7 b9 x y A C (.int .i64 (N1 : Nat)) (.int .i64 (D1 : Nat)) (.int .i64 (N2 : Nat)) (.int .i64 (D2 : Nat)) ga gn L X Y Z i1 i2) (fun s W h => h) (fun s W h => h) (fun W h => by (clear h; go_simp; (try rfl); (try (first | done | omega | (intros; omega)))))) ?_
  simp only [Act.put, List.setIfInBounds_toArray, List.set_cons_succ, List.set_cons_zero, Nat.reduceAdd]
  refine Many.lex_want (by rfl) (Many.tr_read (v := .bool false) (CoW w b7 b9 x y A C (.int .i64 (N1 : Nat)) (.int .i64 (D1 : Nat)) (.int .i64 (N2 : Nat)) (.int .i64 (D2 : Nat)) ga gn L X Y Z i1 i2) (fun s W h => h) (fun s W h => h) (fun W h => by (clear h; go_simp; (try rfl); (try (first | done | omega | (intros; omega)))))) ?_
  simp only [Act.put, List.setIfInBounds_toArray, List.set_cons_succ, List.set_cons_zero, Nat.reduceAdd]
  refine Many.lex_nil fun s9 W4 hs9 hS4 => ?_
  have hW := Keep.mk hS4
  clear hs9 hS4 qa qe
  go_wp2
  go_loopw [21] (fun i wr => ∃ k : Nat, k ≤ L ∧ i = .int .i64 k ∧ Keep (CoW w b7 b9 x y A C (.int .i64 (N1 : Nat)) (.int .i64 (D1 : Nat)) (.int .i64 (N2 : Nat)) (.int .i64 (D2 : Nat)) ga gn L X Y Z i1 i2 wr)) (fun i _ => L - (intOf i).toNat)
  case atStart => exact ⟨0, by omega, rfl, hW⟩
  case round =>
    obtain ⟨k, hk, rfl, hI⟩ := hrel
    by_cases hlt : k < L
    · have hlt' : (k : Int) < (L : Int) := by omega
      have nk0 : ¬ (k : Int) < 0 := by omega
      have wk : IntKind.i64.wrap ((k : Int) + 1) = (k : Int) + 1 := IntWalk.i64_in _ (by omega)
      have hyz := hYZ.out k hlt
      obtain ⟨y', hy'⟩ : ∃ a, Keep (Y k = a) := ⟨_, ⟨rfl⟩⟩
      obtain ⟨z', hz'⟩ : ∃ a, Keep (Z k = a) := ⟨_, ⟨rfl⟩⟩
      rw [hy'.out, hz'.out] at hyz
      have qy := fun W => q23.out y' (by omega) W
      have qz := fun W => q23.out z' (by omega) W
      obtain ⟨n1, hn1⟩ : ∃ a, Keep (rN y' X = a) := ⟨_, ⟨rfl⟩⟩
      obtain ⟨n2, hn2⟩ : ∃ a, Keep (rD y' X = a) := ⟨_, ⟨rfl⟩⟩
      obtain ⟨n3, hn3⟩ : ∃ a, Keep (rN z' X = a) := ⟨_, ⟨rfl⟩⟩
      obtain ⟨n4, hn4⟩ : ∃ a, Keep (rD z' X = a) := ⟨_, ⟨rfl⟩⟩
      have hcy : Keep (∀ W, CoW w b7 b9 x y A C (.int .i64 (N1 : Nat)) (.int .i64 (D1 : Nat)) (.int .i64 (N2 : Nat)) (.int .i64 (D2 : Nat)) ga gn L X Y Z i1 i2 W → W.cell? ⟨ga, k * 2, none⟩ = some (.int .i64 (n1 : Nat)) ∧ W.cell? ⟨ga, k * 2 + 1, none⟩ = some (.int .i64 (n2 : Nat)) ∧ W.cell? ⟨gn, k * 2, none⟩ = some (.int .i64 (n3 : Nat)) ∧ W.cell? ⟨gn, k * 2 + 1, none⟩ = some (.int .i64 (n4 : Nat)) ∧ W.cell? ⟨i1, k, none⟩ = some (.int .i64 (y' : Nat)) ∧ W.cell? ⟨i2, k, none⟩ = some (.int .i64 (z' : Nat))) := ⟨fun W h => by
        obtain ⟨a1, a2⟩ := h.v.y k hlt
        obtain ⟨b1, b2⟩ := h.v.n k hlt
        have c1 := h.cy k hlt
        have c2 := h.cn k hlt
        rw [Nat.zero_add] at c1 c2
        rw [hy'.out, hn1.out] at a1
        rw [hy'.out, hn2.out] at a2
        rw [hz'.out, hn3.out] at b1
        rw [hz'.out, hn4.out] at b2
        rw [hy'.out] at c1
        rw [hz'.out] at c2
        exact ⟨a1, a2, b1, b2, c1, c2⟩⟩
      simp only [hn1.out, hn2.out] at qy
      simp only [hn3.out, hn4.out] at qz
      clear hyz
      go_wp2
      refine (wpIn_wide (n := 0)).1 ?_
      refine Many.region_many (fun _ W => CoW w b7 b9 x y A C (.int .i64 (N1 : Nat)) (.int .i64 (D1 : Nat)) (.int .i64 (N2 : Nat)) (.int .i64 (D2 : Nat)) ga gn L X Y Z i1 i2 W) hmx (by kernel_rfl) (fun s s' W' h hc => hc) (fun s hs => hI.out.after ((Below.refl _ _).drew)) ?_
      refine Many.lex_want (by rfl) (Many.tr_read (v := .slice (some ⟨ga, 0, none⟩) L ca) (CoW w b7 b9 x y A C (.int .i64 (N1 : Nat)) (.int .i64 (D1 : Nat)) (.int .i64 (N2 : Nat)) (.int .i64 (D2 : Nat)) ga gn L X Y Z i1 i2) (fun s W h => h) (fun s W h => h) (fun W h => by (clear h; go_simp; (try rfl); (try (first | done | omega | (intros; omega)))))) ?_
      simp only [Act.put, List.setIfInBounds_toArray, List.set_cons_succ, List.set_cons_zero, Nat.reduceAdd]
      refine Many.lex_want (by rfl) (Many.tr_read (v := .int .i64 k) (CoW w b7 b9 x y A C (.int .i64 (N1 : Nat)) (.int .i64 (D1 : Nat)) (.int .i64 (N2 : Nat)) (.int .i64 (D2 : Nat)) ga gn L X Y Z i1 i2) (fun s W h => h) (fun s W h => h) (fun W h => by (clear h; go_simp; (try rfl); (try (first | done | omega | (intros; omega)))))) ?_
      simp only [Act.put, List.setIfInBounds_toArray, List.set_cons_succ, List.set_cons_zero, Nat.reduceAdd]
      refine Many.lex_want (by rfl) (Many.tr_read (v := .pointer (some ⟨ga, k * 2, none⟩)) (CoW w b7 b9 x y A C (.int .i64 (N1 : Nat)) (.int .i64 (D1 : Nat)) (.int .i64 (N2 : Nat)) (.int .i64 (D2 : Nat)) ga gn L X Y Z i1 i2) (fun s W h => h) (fun s W h => h) (fun W h => by (clear h; go_simp; (try rfl); (try (first | done | omega | (intros; omega)))))) ?_
      simp only [Act.put, List.setIfInBounds_toArray, List.set_cons_succ, List.set_cons_zero, Nat.reduceAdd]
      refine Many.lex_want (by rfl) (Many.tr_read (v := .agg #[.int .i64 (n1 : Nat), .int .i64 (n2 : Nat)]) (CoW w b7 b9 x y A C (.int .i64 (N1 : Nat)) (.int .i64 (D1 : Nat)) (.int .i64 (N2 : Nat)) (.int .i64 (D2 : Nat)) ga gn L X Y Z i1 i2) (fun s W h => h) (fun s W h => h) (fun W h => by (obtain ⟨y0, y1, y2, y3, y4, y5⟩ := hcy.out W h; clear h; go_simp; (try rfl); (try (first | done | omega | (intros; omega)))))) ?_
      simp only [Act.put, List.setIfInBounds_toArray, List.set_cons_succ, List.set_cons_zero, Nat.reduceAdd]
      refine Many.lex_want (by rfl) (Many.tr_read (v := .slice (some ⟨i1, 0, none⟩) L c1) (CoW w b7 b9 x y A C (.int .i64 (N1 : Nat)) (.int .i64 (D1 : Nat)) (.int .i64 (N2 : Nat)) (.int .i64 (D2 : Nat)) ga gn L X Y Z i1 i2) (fun s W h => h) (fun s W h => h) (fun W h => by (clear h; go_simp; (try rfl); (try (first | done | omega | (intros; omega)))))) ?_
      simp only [Act.put, List.setIfInBounds_toArray, List.set_cons_succ, List.set_cons_zero, Nat.reduceAdd]
      refine Many.lex_want (by rfl) (Many.tr_read (v := .int .i64 k) (CoW w b7 b9 x y A C (.int .i64 (N1 : Nat)) (.int .i64 (D1 : Nat)) (.int .i64 (N2 : Nat)) (.int .i64 (D2 : Nat)) ga gn L X Y Z i1 i2) (fun s W h => h) (fun s W h => h) (fun W h => by (clear h; go_simp; (try rfl); (try (first | done | omega | (intros; omega)))))) ?_
      simp only [Act.put, List.setIfInBounds_toArray, List.set_cons_succ, List.set_cons_zero, Nat.reduceAdd]
      refine Many.lex_want (by rfl) (Many.tr_read (v := .pointer (some ⟨i1, k, none⟩)) (CoW w b7 b9 x y A C (.int .i64 (N1 : Nat)) (.int .i64 (D1 : Nat)) (.int .i64 (N2 : Nat)) (.int .i64 (D2 : Nat)) ga gn L X Y Z i1 i2) (fun s W h => h) (fun s W h => h) (fun W h => by (clear h; go_simp; (try rfl); (try (first | done | omega | (intros; omega)))))) ?_
      simp only [Act.put, List.setIfInBounds_toArray, List.set_cons_succ, List.set_cons_zero, Nat.reduceAdd]
      refine Many.lex_want (by rfl) (Many.tr_read (v := .int .i64 (y' : Nat)) (CoW w b7 b9 x y A C (.int .i64 (N1 : Nat)) (.int .i64 (D1 : Nat)) (.int .i64 (N2 : Nat)) (.int .i64 (D2 : Nat)) ga gn L X Y Z i1 i2) (fun s W h => h) (fun s W h => h) (fun W h => by (obtain ⟨y0, y1, y2, y3, y4, y5⟩ := hcy.out W h; clear h; go_simp; (try rfl); (try (first | done | omega | (intros; omega)))))) ?_
      simp only [Act.put, List.setIfInBounds_toArray, List.set_cons_succ, List.set_cons_zero, Nat.reduceAdd]
      refine Many.lex_want (by rfl) (Many.tr_read (v := .int .i64 (X : Nat)) (CoW w b7 b9 x y A C (.int .i64 (N1 : Nat)) (.int .i64 (D1 : Nat)) (.int .i64 (N2 : Nat)) (.int .i64 (D2 : Nat)) ga gn L X Y Z i1 i2) (fun s W h => h) (fun s W h => h) (fun W h => by (clear h; go_simp; (try rfl); (try (first | done | omega | (intros; omega)))))) ?_
      simp only [Act.put, List.setIfInBounds_toArray, List.set_cons_succ, List.set_cons_zero, Nat.reduceAdd]
      refine Many.lex_want (by rfl) (Many.tr_call (v := .agg #[.int .i64 (n1 : Nat), .int .i64 (n2 : Nat)]) (f := 23) (args := #[.int .i64 y', .int .i64 X]) (CoW w b7 b9 x y A C (.int .i64 (N1 : Nat)) (.int .i64 (D1 : Nat)) (.int .i64 (N2 : Nat)) (.int .i64 (D2 : Nat)) ga gn L X Y Z i1 i2) (fun s W h => h) (fun s W h => (qy W).mono fun e w' q => ⟨q.1, h.after q.2⟩) (fun W h => by (clear h; go_simp; try rfl))) ?_
      simp only [Act.put, List.setIfInBounds_toArray, List.set_cons_succ, List.set_cons_zero, Nat.reduceAdd]
      refine Many.lex_want (by rfl) (Many.tr_read (v := .bool false) (CoW w b7 b9 x y A C (.int .i64 (N1 : Nat)) (.int .i64 (D1 : Nat)) (.int .i64 (N2 : Nat)) (.int .i64 (D2 : Nat)) ga gn L X Y Z i1 i2) (fun s W h => h) (fun s W h => h) (fun W h => by (clear h; go_simp; (try rfl); (try (first | done | omega | (intros; omega)))))) ?_
      simp only [Act.put, List.setIfInBounds_toArray, List.set_cons_succ, List.set_cons_zero, Nat.reduceAdd]
      refine Many.lex_want (by rfl) (Many.tr_read (v := .bool false) (CoW w b7 b9 x y A C (.int .i64 (N1 : Nat)) (.int .i64 (D1 : Nat)) (.int .i64 (N2 : Nat)) (.int .i64 (D2 : Nat)) ga gn L X Y Z i1 i2) (fun s W h => h) (fun s W h => h) (fun W h => by (clear h; go_simp; (try rfl); (try (first | done | omega | (intros; omega)))))) ?_
      simp only [Act.put, List.setIfInBounds_toArray, List.set_cons_succ, List.set_cons_zero, Nat.reduceAdd]
      refine Many.lex_want (by rfl) (Many.tr_read (v := .slice (some ⟨gn, 0, none⟩) L cn) (CoW w b7 b9 x y A C (.int .i64 (N1 : Nat)) (.int .i64 (D1 : Nat)) (.int .i64 (N2 : Nat)) (.int .i64 (D2 : Nat)) ga gn L X Y Z i1 i2) (fun s W h => h) (fun s W h => h) (fun W h => by (clear h; go_simp; (try rfl); (try (first | done | omega | (intros; omega)))))) ?_
      simp only [Act.put, List.setIfInBounds_toArray, List.set_cons_succ, List.set_cons_zero, Nat.reduceAdd]
      refine Many.lex_want (by rfl) (Many.tr_read (v := .int .i64 k) (CoW w b7 b9 x y A C (.int .i64 (N1 : Nat)) (.int .i64 (D1 : Nat)) (.int .i64 (N2 : Nat)) (.int .i64 (D2 : Nat)) ga gn L X Y Z i1 i2) (fun s W h => h) (fun s W h => h) (fun W h => by (clear h; go_simp; (try rfl); (try (first | done | omega | (intros; omega)))))) ?_
      simp only [Act.put, List.setIfInBounds_toArray, List.set_cons_succ, List.set_cons_zero, Nat.reduceAdd]
      refine Many.lex_want (by rfl) (Many.tr_read (v := .pointer (some ⟨gn, k * 2, none⟩)) (CoW w b7 b9 x y A C (.int .i64 (N1 : Nat)) (.int .i64 (D1 : Nat)) (.int .i64 (N2 : Nat)) (.int .i64 (D2 : Nat)) ga gn L X Y Z i1 i2) (fun s W h => h) (fun s W h => h) (fun W h => by (clear h; go_simp; (try rfl); (try (first | done | omega | (intros; omega)))))) ?_
      simp only [Act.put, List.setIfInBounds_toArray, List.set_cons_succ, List.set_cons_zero, Nat.reduceAdd]
      refine Many.lex_want (by rfl) (Many.tr_read (v := .agg #[.int .i64 (n3 : Nat), .int .i64 (n4 : Nat)]) (CoW w b7 b9 x y A C (.int .i64 (N1 : Nat)) (.int .i64 (D1 : Nat)) (.int .i64 (N2 : Nat)) (.int .i64 (D2 : Nat)) ga gn L X Y Z i1 i2) (fun s W h => h) (fun s W h => h) (fun W h => by (obtain ⟨y0, y1, y2, y3, y4, y5⟩ := hcy.out W h; clear h; go_simp; (try rfl); (try (first | done | omega | (intros; omega)))))) ?_
      simp only [Act.put, List.setIfInBounds_toArray, List.set_cons_succ, List.set_cons_zero, Nat.reduceAdd]
      refine Many.lex_want (by rfl) (Many.tr_read (v := .slice (some ⟨i2, 0, none⟩) L c2) (CoW w b7 b9 x y A C (.int .i64 (N1 : Nat)) (.int .i64 (D1 : Nat)) (.int .i64 (N2 : Nat)) (.int .i64 (D2 : Nat)) ga gn L X Y Z i1 i2) (fun s W h => h) (fun s W h => h) (fun W h => by (clear h; go_simp; (try rfl); (try (first | done | omega | (intros; omega)))))) ?_
      simp only [Act.put, List.setIfInBounds_toArray, List.set_cons_succ, List.set_cons_zero, Nat.reduceAdd]
      refine Many.lex_want (by rfl) (Many.tr_read (v := .int .i64 k) (CoW w b7 b9 x y A C (.int .i64 (N1 : Nat)) (.int .i64 (D1 : Nat)) (.int .i64 (N2 : Nat)) (.int .i64 (D2 : Nat)) ga gn L X Y Z i1 i2) (fun s W h => h) (fun s W h => h) (fun W h => by (clear h; go_simp; (try rfl); (try (first | done | omega | (intros; omega)))))) ?_
      simp only [Act.put, List.setIfInBounds_toArray, List.set_cons_succ, List.set_cons_zero, Nat.reduceAdd]
      refine Many.lex_want (by rfl) (Many.tr_read (v := .pointer (some ⟨i2, k, none⟩)) (CoW w b7 b9 x y A C (.int .i64 (N1 : Nat)) (.int .i64 (D1 : Nat)) (.int .i64 (N2 : Nat)) (.int .i64 (D2 : Nat)) ga gn L X Y Z i1 i2) (fun s W h => h) (fun s W h => h) (fun W h => by (clear h; go_simp; (try rfl); (try (first | done | omega | (intros; omega)))))) ?_
      simp only [Act.put, List.setIfInBounds_toArray, List.set_cons_succ, List.set_cons_zero, Nat.reduceAdd]
      refine Many.lex_want (by rfl) (Many.tr_read (v := .int .i64 (z' : Nat)) (CoW w b7 b9 x y A C (.int .i64 (N1 : Nat)) (.int .i64 (D1 : Nat)) (.int .i64 (N2 : Nat)) (.int .i64 (D2 : Nat)) ga gn L X Y Z i1 i2) (fun s W h => h) (fun s W h => h) (fun W h => by (obtain ⟨y0, y1, y2, y3, y4, y5⟩ := hcy.out W h; clear h; go_simp; (try rfl); (try (first | done | omega | (intros; omega)))))) ?_
      simp only [Act.put, List.setIfInBounds_toArray, List.set_cons_succ, List.set_cons_zero, Nat.reduceAdd]
      refine Many.lex_want (by rfl) (Many.tr_read (v := .int .i64 (X : Nat)) (CoW w b7 b9 x y A C (.int .i64 (N1 : Nat)) (.int .i64 (D1 : Nat)) (.int .i64 (N2 : Nat)) (.int .i64 (D2 : Nat)) ga gn L X Y Z i1 i2) (fun s W h => h) (fun s W h => h) (fun W h => by (clear h; go_simp; (try rfl); (try (first | done | omega | (intros; omega)))))) ?_
      simp only [Act.put, List.setIfInBounds_toArray, List.set_cons_succ, List.set_cons_zero, Nat.reduceAdd]
      refine Many.lex_want (by rfl) (Many.tr_call (v := .agg #[.int .i64 (n3 : Nat), .int .i64 (n4 : Nat)]) (f := 23) (args := #[.int .i64 z', .int .i64 X]) (CoW w b7 b9 x y A C (.int .i64 (N1 : Nat)) (.int .i64 (D1 : Nat)) (.int .i64 (N2 : Nat)) (.int .i64 (D2 : Nat)) ga gn L X Y Z i1 i2) (fun s W h => h) (fun s W h => (qz W).mono fun e w' q => ⟨q.1, h.after q.2⟩) (fun W h => by (clear h; go_simp; try rfl))) ?_
      simp only [Act.put, List.setIfInBounds_toArray, List.set_cons_succ, List.set_cons_zero, Nat.reduceAdd]
      refine Many.lex_want (by rfl) (Many.tr_read (v := .bool false) (CoW w b7 b9 x y A C (.int .i64 (N1 : Nat)) (.int .i64 (D1 : Nat)) (.int .i64 (N2 : Nat)) (.int .i64 (D2 : Nat)) ga gn L X Y Z i1 i2) (fun s W h => h) (fun s W h => h) (fun W h => by (clear h; go_simp; (try rfl); (try (first | done | omega | (intros; omega)))))) ?_
      simp only [Act.put, List.setIfInBounds_toArray, List.set_cons_succ, List.set_cons_zero, Nat.reduceAdd]
      refine Many.lex_want (by rfl) (Many.tr_read (v := .bool false) (CoW w b7 b9 x y A C (.int .i64 (N1 : Nat)) (.int .i64 (D1 : Nat)) (.int .i64 (N2 : Nat)) (.int .i64 (D2 : Nat)) ga gn L X Y Z i1 i2) (fun s W h => h) (fun s W h => h) (fun W h => by (clear h; go_simp; (try rfl); (try (first | done | omega | (intros; omega)))))) ?_
      simp only [Act.put, List.setIfInBounds_toArray, List.set_cons_succ, List.set_cons_zero, Nat.reduceAdd]
      refine Many.lex_nil fun s9 W4 hs9 hS4 => ?_
      have hW4 := Keep.mk hS4
      clear hs9 hS4
      go_wp2
      exact ⟨⟨k + 1, by omega, by go_num, hW4⟩, by simp [intOf]; omega⟩
    · obtain rfl : k = L := by omega
      have hlt' : ¬ (k : Int) < (k : Int) := by omega
      go_wp2_with (first
      | (go_at_call 20; (with_reducible refine (awake_any _).mono ?_); rintro e u9 ⟨rfl, hb1⟩
         have hI9 := hI.out.after hb1
         clear hb1))
      go_ret
      exact ⟨rfl, hI9.v.t.k.bw⟩
theorem courses_any {N d : Int} (hd : In64 d) {va vr : Value} {za zr : List Int} {w : World} (ha : ArgInts w va za) (hr : ArgInts w vr zr) : Calls Try.prog 5 #[.int .i64 N, .int .i64 d, .agg #[va, vr]] w fun e w' => e = .returned (.bool true) ∧ Below w.heap.size w w' := by
  by_cases h : (1 ≤ N ∧ N ≤ 36) ∧ (0 ≤ d ∧ d ≤ N) ∧ FitOk N (za.take 37) (zr.take 37)
  · obtain ⟨⟨h1, h2⟩, ⟨h3, h4⟩, hf⟩ := h
    obtain ⟨n, rfl⟩ : ∃ n : Nat, N = (n : Int) := ⟨N.toNat, by omega⟩
    obtain ⟨m, rfl⟩ : ∃ n : Nat, d = (n : Int) := ⟨d.toNat, by omega⟩
    exact courses_yes (by omega) (by omega) (by omega) ha hr hf
  · exact courses_no hd ha hr h
end Go.Proofs.Ytbmfipjnfbnjgaa
