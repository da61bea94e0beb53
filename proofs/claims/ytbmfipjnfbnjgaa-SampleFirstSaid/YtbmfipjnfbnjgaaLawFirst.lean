import Derived.Test.YtbmfipjnfbnjgaaLawPlans
import Derived.Test.YtbmfipjnfbnjgaaLawRemains
import Derived.Test.YtbmfipjnfbnjgaaArgW
import Derived.Test.YtbmfipjnfbnjgaaSeqI
set_option linter.unusedSimpArgs false
set_option linter.unusedVariables false
namespace Go.Proofs.Ytbmfipjnfbnjgaa
open Go Go.Proofs Go.RowKit Go.Sample Go.Seq
/-- Two variables that are laid among calls. -/
structure FsI (w : World) (b4 b5 : Nat) (B4 B5 : Obj) (g12 g13 : Nat) (x1 y1 x2 y2 : Value) (t14 t15 t16 t17 : Bool) (W : World) : Prop where
  h4 : W.heap[b4]? = some B4
  h5 : W.heap[b5]? = some B5
  o12 : t14 = true → Own2 W g12 (if t16 = true then x1 else .int .i64 0) (if t16 = true then y1 else .int .i64 0)
  o13 : t15 = true → Own2 W g13 (if t17 = true then x2 else .int .i64 0) (if t17 = true then y2 else .int .i64 0)
  ne : t14 = true → t15 = true → g12 ≠ g13
  n12 : t14 = true → b4 ≠ g12 ∧ b5 ≠ g12 ∧ w.heap.size ≤ g12
  n13 : t15 = true → b4 ≠ g13 ∧ b5 ≠ g13 ∧ w.heap.size ≤ g13
  bw : Below w.heap.size w W
section
variable {w W W' : World} {b4 b5 g12 g13 : Nat} {B4 B5 : Obj} {x1 y1 x2 y2 : Value} {t14 t15 t16 t17 : Bool}
theorem FsI.after (h : FsI w b4 b5 B4 B5 g12 g13 x1 y1 x2 y2 t14 t15 t16 t17 W) (hb : Below W.heap.size W W') : FsI w b4 b5 B4 B5 g12 g13 x1 y1 x2 y2 t14 t15 t16 t17 W' :=
  ⟨(hb.block _ (Array.getElem?_eq_some_iff.1 h.h4).1).trans h.h4, (hb.block _ (Array.getElem?_eq_some_iff.1 h.h5).1).trans h.h5, fun e => (h.o12 e).after hb, fun e => (h.o13 e).after hb, h.ne, h.n12, h.n13, h.bw.trans (hb.mono h.bw.size)⟩
theorem FsI.lay12 (h : FsI w b4 b5 B4 B5 g12 g13 x1 y1 x2 y2 false t15 false t17 W) : FsI w b4 b5 B4 B5 W.heap.size g13 x1 y1 x2 y2 true t15 false t17 (W.alloc (.cells #[.int .i64 0, .int .i64 0] 27)) := by
  have hb : Below W.heap.size W (W.alloc (.cells #[.int .i64 0, .int .i64 0] 27)) := (Below.refl _ _).alloc (Nat.le_refl _) _
  have l4 := (Array.getElem?_eq_some_iff.1 h.h4).1
  have l5 := (Array.getElem?_eq_some_iff.1 h.h5).1
  have k := h.after hb
  exact ⟨k.h4, k.h5, fun _ => by simpa using Own2.new W (.int .i64 0) (.int .i64 0) 27, k.o13, fun _ e => by have := (h.o13 e).lt; omega, fun _ => ⟨by omega, by omega, h.bw.size⟩, k.n13, k.bw⟩
theorem FsI.lay13 (h : FsI w b4 b5 B4 B5 g12 g13 x1 y1 x2 y2 t14 false t16 false W) : FsI w b4 b5 B4 B5 g12 W.heap.size x1 y1 x2 y2 t14 true t16 false (W.alloc (.cells #[.int .i64 0, .int .i64 0] 27)) := by
  have hb : Below W.heap.size W (W.alloc (.cells #[.int .i64 0, .int .i64 0] 27)) := (Below.refl _ _).alloc (Nat.le_refl _) _
  have l4 := (Array.getElem?_eq_some_iff.1 h.h4).1
  have l5 := (Array.getElem?_eq_some_iff.1 h.h5).1
  have k := h.after hb
  exact ⟨k.h4, k.h5, k.o12, fun _ => by simpa using Own2.new W (.int .i64 0) (.int .i64 0) 27, fun e _ => by have := (h.o12 e).lt; omega, k.n12, fun _ => ⟨by omega, by omega, h.bw.size⟩, k.bw⟩
theorem FsI.put12 (h : FsI w b4 b5 B4 B5 g12 g13 x1 y1 x2 y2 true t15 false t17 W) : FsI w b4 b5 B4 B5 g12 g13 x1 y1 x2 y2 true t15 true t17 ((W.setCell ⟨g12, 0, none⟩ x1).setCell ⟨g12, 1, none⟩ y1) := by
  obtain ⟨e1, e2, e3⟩ := h.n12 rfl
  have e := fun i (hi : i ≠ g12) => (Below.heap_setCell (W.setCell ⟨g12, 0, none⟩ x1) ⟨g12, 1, none⟩ y1 i hi).trans (Below.heap_setCell W ⟨g12, 0, none⟩ x1 i hi)
  exact ⟨(e _ e1).trans h.h4, (e _ e2).trans h.h5, fun _ => by simpa using (h.o12 rfl).set0.set1, fun e => ((h.o13 e).other (Ne.symm (h.ne rfl e))).other (Ne.symm (h.ne rfl e)), h.ne, h.n12, h.n13, (h.bw.setCell (p := ⟨g12, 0, none⟩) e3 _).setCell (p := ⟨g12, 1, none⟩) e3 _⟩
theorem FsI.put13 (h : FsI w b4 b5 B4 B5 g12 g13 x1 y1 x2 y2 t14 true t16 false W) : FsI w b4 b5 B4 B5 g12 g13 x1 y1 x2 y2 t14 true t16 true ((W.setCell ⟨g13, 0, none⟩ x2).setCell ⟨g13, 1, none⟩ y2) := by
  obtain ⟨e1, e2, e3⟩ := h.n13 rfl
  have e := fun i (hi : i ≠ g13) => (Below.heap_setCell (W.setCell ⟨g13, 0, none⟩ x2) ⟨g13, 1, none⟩ y2 i hi).trans (Below.heap_setCell W ⟨g13, 0, none⟩ x2 i hi)
  exact ⟨(e _ e1).trans h.h4, (e _ e2).trans h.h5, fun e => ((h.o12 e).other (h.ne e rfl)).other (h.ne e rfl), fun _ => by simpa using (h.o13 rfl).set0.set1, h.ne, h.n12, h.n13, (h.bw.setCell (p := ⟨g13, 0, none⟩) e3 _).setCell (p := ⟨g13, 1, none⟩) e3 _⟩
end
/-- The fractions that are kept. -/
structure Fl (w : World) (b4 : Nat) (B4 : Obj) (l : List (Nat × Value × Value)) (W : World) : Prop where
  h4 : W.heap[b4]? = some B4
  own : ∀ p ∈ l, Own2 W p.1 p.2.1 p.2.2
  bw : Below w.heap.size w W
theorem Fl.after {w W W' : World} {b4 : Nat} {B4 : Obj} {l : List (Nat × Value × Value)} (h : Fl w b4 B4 l W) (hb : Below W.heap.size W W') : Fl w b4 B4 l W' :=
  ⟨(hb.block _ (Array.getElem?_eq_some_iff.1 h.h4).1).trans h.h4, fun p hp => (h.own p hp).after hb, h.bw.trans (hb.mono h.bw.size)⟩
theorem Fl.lay {w W : World} {b4 : Nat} {B4 : Obj} {l : List (Nat × Value × Value)} (h : Fl w b4 B4 l W) (x y : Value) : Fl w b4 B4 ((W.heap.size, x, y) :: l) (W.alloc (.cells #[x, y] 27)) := by
  have hb : Below W.heap.size W (W.alloc (.cells #[x, y] 27)) := (Below.refl _ _).alloc (Nat.le_refl _) _
  have k := h.after hb
  refine ⟨k.h4, fun p hp => ?_, k.bw⟩
  rcases List.mem_cons.1 hp with rfl | hp
  · exact Own2.new W x y 27
  · exact k.own p hp
theorem Fl.hd {w W : World} {b4 : Nat} {B4 : Obj} {l : List (Nat × Value × Value)} {g : Nat} {x y : Value} (h : Fl w b4 B4 ((g, x, y) :: l) W) : Own2 W g x y := h.own (g, x, y) (by simp)
theorem Fl.tl {w W : World} {b4 : Nat} {B4 : Obj} {l : List (Nat × Value × Value)} {p : Nat × Value × Value} (h : Fl w b4 B4 (p :: l) W) : Fl w b4 B4 l W := ⟨h.h4, fun q hq => h.own q (List.mem_cons_of_mem _ hq), h.bw⟩
theorem share_red {m d : Nat} (hd : 1 ≤ d) (h2 : d ≤ 1000) (hm : m ≤ d) : ShareOk (rN m d : Nat) (rD m d : Nat) := by
  obtain ⟨h1, h3, h4, h5⟩ := red_mul (a := m) hd
  obtain ⟨h6, h7⟩ := red_red (a := m) hd
  have hle : rN m d ≤ rD m d := Nat.le_of_mul_le_mul_right (by rw [h1, h3]; exact hm) (by omega : 0 < Nat.gcd m d)
  have := red_le m d
  refine ⟨by omega, by omega, by omega, by omega, ?_⟩
  rw [Int.toNat_natCast, Int.toNat_natCast]
  exact (red_self h5).1 ⟨h6, h7⟩
set_option maxRecDepth 100000 in
theorem arg4 {W : World} {r : Reach} {b0 : Nat} {v : Value} (hval : Value.okWide Try.prog W r b0 85 v) : ∃ a b c d : Int, v = .agg #[.int .i64 a, .int .i64 b, .int .i64 c, .int .i64 d] := by
  obtain ⟨cs, rfl, h1, h2⟩ := arr_ints (n := 4) (m := 4) (k := 3) (by kernel_rfl) (by kernel_rfl) (by kernel_rfl) (by kernel_rfl) hval
  obtain ⟨a, b, c, d, rfl⟩ := arr4 h1 h2
  exact ⟨a, b, c, d, rfl⟩
set_option maxHeartbeats 8000000 in
set_option maxRecDepth 100000 in
theorem first_any (a0 a1 a2 k0 k1 s0 s1 s2 s3 : Int) (w : World) : Calls Try.prog 13 #[.agg #[.int .i64 a0, .int .i64 a1, .int .i64 a2], .agg #[.int .i64 k0, .int .i64 k1], .agg #[.int .i64 s0, .int .i64 s1, .int .i64 s2, .int .i64 s3]] w fun e w' => e = .returned (.bool true) ∧ Below w.heap.size w w' := by
  have hmx : Try.prog.follows .mixedOrders = true := by kernel_rfl
  have m0 := modN_lt a0 (m := 36) (by omega)
  have q0 : ∀ w, Calls Try.prog 48 #[.int .i64 a0, .int .i64 36] w fun e w' => e = .returned (.int .i64 (modN a0 36 : Nat)) ∧ w' = w := fun w => mod_any a0 (m := 36) (by omega) (by omega) w
  generalize modN a0 36 = z0 at *
  obtain ⟨N, hN⟩ : ∃ N : Nat, N = 1 + z0 := ⟨_, rfl⟩
  have h1 : 1 ≤ N := by omega
  have h36 : N ≤ 36 := by omega
  have w1 : IntKind.i64.wrap (1 + (z0 : Int)) = (N : Int) := by rw [IntWalk.i64_in _ (by omega)]; omega
  have m1 := modN_lt a1 (m := N + 1) (by omega)
  have q1 := fun w => mod_any a1 (m := N + 1) (by omega) (by omega) w
  have m2 := modN_lt a2 (m := N + 1) (by omega)
  have q2 := fun w => mod_any a2 (m := N + 1) (by omega) (by omega) w
  simp only [Int.natCast_add, Int.cast_ofNat_Int] at q1 q2
  generalize modN a1 (N + 1) = good at *
  generalize modN a2 (N + 1) = bad at *
  have hg : good ≤ N := by omega
  have hb : bad ≤ N := by omega
  have wN : IntKind.i64.wrap ((N : Int) + 1) = (N : Int) + 1 := IntWalk.i64_in _ (by omega)
  have m3 := modN_lt s0 (m := 1000) (by omega)
  have q3 : ∀ w, Calls Try.prog 48 #[.int .i64 s0, .int .i64 1000] w fun e w' => e = .returned (.int .i64 (modN s0 1000 : Nat)) ∧ w' = w := fun w => mod_any s0 (m := 1000) (by omega) (by omega) w
  generalize modN s0 1000 = z3 at *
  have m4 := modN_lt s2 (m := 1000) (by omega)
  have q4 : ∀ w, Calls Try.prog 48 #[.int .i64 s2, .int .i64 1000] w fun e w' => e = .returned (.int .i64 (modN s2 1000 : Nat)) ∧ w' = w := fun w => mod_any s2 (m := 1000) (by omega) (by omega) w
  generalize modN s2 1000 = z4 at *
  obtain ⟨d1, hd1⟩ : ∃ d : Nat, d = 1 + z3 := ⟨_, rfl⟩
  obtain ⟨d2, hd2⟩ : ∃ d : Nat, d = 1 + z4 := ⟨_, rfl⟩
  have w3 : IntKind.i64.wrap (1 + (z3 : Int)) = (d1 : Int) := by rw [IntWalk.i64_in _ (by omega)]; omega
  have w4 : IntKind.i64.wrap (1 + (z4 : Int)) = (d2 : Int) := by rw [IntWalk.i64_in _ (by omega)]; omega
  have hd1a : 1 ≤ d1 ∧ d1 ≤ 1000 := by omega
  have hd2a : 1 ≤ d2 ∧ d2 ≤ 1000 := by omega
  have m5 := modN_lt s1 (m := d1 + 1) (by omega)
  have q5 := fun w => mod_any s1 (m := d1 + 1) (by omega) (by omega) w
  have m6 := modN_lt s3 (m := d2 + 1) (by omega)
  have q6 := fun w => mod_any s3 (m := d2 + 1) (by omega) (by omega) w
  simp only [Int.natCast_add, Int.cast_ofNat_Int] at q5 q6
  generalize modN s1 (d1 + 1) = u1 at *
  generalize modN s3 (d2 + 1) = u2 at *
  have w5 : IntKind.i64.wrap ((d1 : Int) + 1) = (d1 : Int) + 1 := IntWalk.i64_in _ (by omega)
  have w6 : IntKind.i64.wrap ((d2 : Int) + 1) = (d2 : Int) + 1 := IntWalk.i64_in _ (by omega)
  have hs1 := share_red (m := u1) hd1a.1 hd1a.2 (by omega)
  have hs2 := share_red (m := u2) hd2a.1 hd2a.2 (by omega)
  have qr1 := fun w => reduced_any u1 d1 (by omega) hd1a.1 (by omega) w
  have qr2 := fun w => reduced_any u2 d2 (by omega) hd2a.1 (by omega) w
  unfold redV fracV at qr1 qr2
  generalize rN u1 d1 = A1 at *
  generalize rD u1 d1 = B1 at *
  generalize rN u2 d2 = A2 at *
  generalize rD u2 d2 = B2 at *
  clear m0 m1 m2 m3 m4 m5 m6 hN hd1 hd2
  have m7 := modN_lt k0 (m := N) (by omega)
  have q7 := fun w => mod_any k0 (m := N) (by omega) (by omega) w
  generalize modN k0 N = z7 at *
  obtain ⟨k, hkk⟩ : ∃ d : Nat, d = 1 + z7 := ⟨_, rfl⟩
  have w7 : IntKind.i64.wrap (1 + (z7 : Int)) = (k : Int) := by rw [IntWalk.i64_in _ (by omega)]; omega
  have hk1 : 1 ≤ k := by omega
  have hkN : k ≤ N := by omega
  have m8 := modN_lt k1 (m := k) (by omega)
  have q8 := fun w => mod_any k1 (m := k) (by omega) (by omega) w
  generalize modN k1 k = d at *
  clear m7 hkk
  obtain ⟨rn, rc, re, hres⟩ := plan_ex N good bad A1 B1 A2 B2
  have q37 := fun w => plan_any h1 h36 hg hb hs1 hs2 hres w
  have hB1 := Keep.mk hs1
  have hB2 := Keep.mk hs2
  -- the two shares, and the sums
  have hall : ∀ n d c, n ≤ N → acc n (N - n) d c ≤ ch N d := fun n d c hn => by have := acc_le n (N - n) d c; rwa [show n + (N - n) = N by omega] at this
  have p1 := ch_pos hg
  have p2 := ch_pos hb
  have l1 := ch_le h36 good
  have l2 := ch_le h36 bad
  have b1pos : 1 ≤ B1 ∧ B1 ≤ 1000 ∧ A1 ≤ 1000 := by obtain ⟨a, b, c, e, _⟩ := hs1; omega
  have b2pos : 1 ≤ B2 ∧ B2 ≤ 1000 ∧ A2 ≤ 1000 := by obtain ⟨a, b, c, e, _⟩ := hs2; omega
  have q18a := Keep.mk (fun (n c : Nat) (hc : c < n) (hn : n ≤ N) (w : World) => single_any h1 h36 hc hn hg w)
  have q18b := Keep.mk (fun (n c : Nat) (hc : c < n) (hn : n ≤ N) (w : World) => single_any h1 h36 hc hn hb w)
  have q49a := Keep.mk (fun (n c : Nat) (hn : n ≤ N) (w : World) => valid_any (a := acc n (N - n) good (c + 1)) (b := ch N good) (by have := hall n good (c + 1) hn; omega) (by omega) p1 w)
  have q49b := Keep.mk (fun (n c : Nat) (hn : n ≤ N) (w : World) => valid_any (a := acc n (N - n) bad (c + 1)) (b := ch N bad) (by have := hall n bad (c + 1) hn; omega) (by omega) p2 w)
  have q46a := Keep.mk (fun (n c : Nat) (hn : n ≤ N) (w : World) => (refLess_any (a := rN (acc n (N - n) good (c + 1)) (ch N good)) (b := rD (acc n (N - n) good (c + 1)) (ch N good)) (c := A1) (d := B1) (by have := red_le (acc n (N - n) good (c + 1)) (ch N good); have := hall n good (c + 1) hn; omega) (by have := red_le (acc n (N - n) good (c + 1)) (ch N good); omega) (by omega) (by omega) (red_mul p1).2.2.2 b1pos.1 w))
  have q46b := Keep.mk (fun (n c : Nat) (hn : n ≤ N) (w : World) => (refLess_any (a := A2) (b := B2) (c := rN (acc n (N - n) bad (c + 1)) (ch N bad)) (d := rD (acc n (N - n) bad (c + 1)) (ch N bad)) (by omega) (by omega) (by have := red_le (acc n (N - n) bad (c + 1)) (ch N bad); have := hall n bad (c + 1) hn; omega) (by have := red_le (acc n (N - n) bad (c + 1)) (ch N bad); omega) b2pos.1 (red_mul p2).2.2.2 w))
  have iffA := Keep.mk (fun (n c : Nat) => red_less_left (p := A1) (q := B1) (a := acc n (N - n) good (c + 1)) p1)
  have iffB := Keep.mk (fun (n c : Nat) => red_less_right (p := A2) (q := B2) (a := acc n (N - n) bad (c + 1)) p2)
  have hdk : d < k := by omega
  have q18k := fun w => q18a.out k d hdk hkN w
  have q18l := fun w => q18b.out k d hdk hkN w
  have q49k := fun w => q49a.out k d hkN w
  have q49l := fun w => q49b.out k d hkN w
  have q46k := fun w => q46a.out k d hkN w
  have q46l := fun w => q46b.out k d hkN w
  obtain ⟨F, hF⟩ : ∃ F : Bool, Keep (decide (rN (acc k (N - k) good (d + 1)) (ch N good) * B1 < A1 * rD (acc k (N - k) good (d + 1)) (ch N good)) = F) := ⟨_, ⟨rfl⟩⟩
  obtain ⟨M, hM⟩ : ∃ M : Bool, Keep (decide (A2 * rD (acc k (N - k) bad (d + 1)) (ch N bad) < rN (acc k (N - k) bad (d + 1)) (ch N bad) * B2) = M) := ⟨_, ⟨rfl⟩⟩
  simp only [hF.out] at q46k
  simp only [hM.out] at q46l
  have hE : Keep (F = false → M = false → Enuf N good bad A1 B1 A2 B2 k d) := ⟨fun h1 h2 => ⟨fun h => by
    have h3 := (iffB.out k d).2 h
    rw [← hM.out, decide_eq_false_iff_not] at h2
    exact h2 h3, fun h => by
    have h3 := (iffA.out k d).2 h
    rw [← hF.out, decide_eq_false_iff_not] at h1
    exact h1 h3⟩⟩
  have hcase : Keep (((¬ Enuf N good bad A1 B1 A2 B2 k d) ∧ ∀ w, Calls Try.prog 37 #[.int .i64 N, .int .i64 good, .int .i64 bad, fracV A1 B1, fracV A2 B2] w fun e w' => e = .returned (.tuple #[.int .i64 0, .int .i64 0, .int .i64 6]) ∧ Below w.heap.size w w') ∨
      (∃ n c : Nat, n ≤ N ∧ c < n ∧ (Enuf N good bad A1 B1 A2 B2 k d → n < k ∨ n = k ∧ c ≤ d) ∧ decide (rN (acc n (N - n) good (c + 1)) (ch N good) * B1 < A1 * rD (acc n (N - n) good (c + 1)) (ch N good)) = false ∧ decide (A2 * rD (acc n (N - n) bad (c + 1)) (ch N bad) < rN (acc n (N - n) bad (c + 1)) (ch N bad) * B2) = false ∧ ∀ w, Calls Try.prog 37 #[.int .i64 N, .int .i64 good, .int .i64 bad, fracV A1 B1, fracV A2 B2] w fun e w' => e = .returned (.tuple #[.int .i64 n, .int .i64 c, .int .i64 0]) ∧ Below w.heap.size w w')) := by
    cases hres with
    | none hb4 => exact ⟨.inl ⟨hb4 k d hdk hkN (by omega), q37⟩⟩
    | found f1 f2 f3 f4 f5 =>
      refine ⟨.inr ⟨_, _, f2, f3, fun he => Classical.byContradiction fun hn => f5 k d hdk hkN (by omega) he, ?_, ?_, q37⟩⟩
      · exact decide_eq_false fun h => f4.2 ((iffA.out _ _).1 h)
      · exact decide_eq_false fun h => f4.1 ((iffB.out _ _).1 h)
  simp only [redV, fracV] at q18k q18l q49k q49l q46k q46l
  clear hF hM hres q37
  generalize rN (acc k (N - k) good (d + 1)) (ch N good) = X1 at q18k q49k q46k
  generalize rD (acc k (N - k) good (d + 1)) (ch N good) = Y1 at q18k q49k q46k
  generalize rN (acc k (N - k) bad (d + 1)) (ch N bad) = X2 at q18l q49l q46l
  generalize rD (acc k (N - k) bad (d + 1)) (ch N bad) = Y2 at q18l q49l q46l
  clear hall p1 p2 l1 l2 hs1 hs2
  obtain ⟨wa, hwa⟩ : ∃ wa, w.alloc (.cells #[.int .i64 a0, .int .i64 a1, .int .i64 a2] 61) = wa := ⟨_, rfl⟩
  obtain ⟨wb, hwb⟩ : ∃ wb, wa.alloc (.cells #[.int .i64 k0, .int .i64 k1] 22) = wb := ⟨_, rfl⟩
  obtain ⟨wc, hwc⟩ : ∃ wc, wb.alloc (.cells #[.int .i64 s0, .int .i64 s1, .int .i64 s2, .int .i64 s3] 85) = wc := ⟨_, rfl⟩
  have sa : wa.heap.size = w.heap.size + 1 := by rw [← hwa]; simp
  have sb : wb.heap.size = w.heap.size + 1 + 1 := by rw [← hwb]; simp [sa]
  have ba : Below w.heap.size w wa := by rw [← hwa]; exact (Below.refl _ _).alloc (Nat.le_refl _) _
  have bb : Below wa.heap.size wa wb := by rw [← hwb]; exact (Below.refl _ _).alloc (Nat.le_refl _) _
  have bc : Below wb.heap.size wb wc := by rw [← hwc]; exact (Below.refl _ _).alloc (Nat.le_refl _) _
  have bbc := bb.trans (bc.mono bb.size)
  have bw := ba.trans (bbc.mono ba.size)
  have f3 : wc.heap[w.heap.size]? = some (.cells #[.int .i64 a0, .int .i64 a1, .int .i64 a2] 61 (0, 0)) := by rw [bbc.block _ (by omega), ← hwa]; exact World.alloc_heap_new w _
  have f4 : wc.heap[w.heap.size + 1]? = some (.cells #[.int .i64 k0, .int .i64 k1] 22 (0, 0)) := by rw [bc.block _ (by omega), ← hwb, ← sa]; exact World.alloc_heap_new wa _
  have f5 : wc.heap[w.heap.size + 1 + 1]? = some (.cells #[.int .i64 s0, .int .i64 s1, .int .i64 s2, .int .i64 s3] 85 (0, 0)) := by rw [← hwc, ← sb]; exact World.alloc_heap_new wb _
  have hwabc : ((w.alloc (.cells #[.int .i64 a0, .int .i64 a1, .int .i64 a2] 61)).alloc (.cells #[.int .i64 k0, .int .i64 k1] 22)).alloc (.cells #[.int .i64 s0, .int .i64 s1, .int .i64 s2, .int .i64 s3] 85) = wc := by rw [hwa, hwb, hwc]
  clear hwa hwb hwc sa sb ba bb bc bbc
  have c0 : wc.cell? ⟨w.heap.size, 0, none⟩ = some (.int .i64 a0) := by simp [World.cell?, f3]
  have c1 : wc.cell? ⟨w.heap.size, 1, none⟩ = some (.int .i64 a1) := by simp [World.cell?, f3]
  have c2 : wc.cell? ⟨w.heap.size, 2, none⟩ = some (.int .i64 a2) := by simp [World.cell?, f3]
  have e0 : wc.cell? ⟨w.heap.size + 1 + 1, 0, none⟩ = some (.int .i64 s0) := by simp [World.cell?, f5]
  have e2 : wc.cell? ⟨w.heap.size + 1 + 1, 2, none⟩ = some (.int .i64 s2) := by simp [World.cell?, f5]
  go_enter Try.func13, Try.ntmps13
  go_wp2_with (first
    | (go_at_call 48; (with_reducible refine (q0 _).mono ?_); rintro e v1 ⟨rfl, hv1⟩; rw [hv1]; clear hv1 v1))
  try rw [hwabc]
  go_quiet (first | (go_at_call 48; with_reducible exact Calls.quiet_of_same (q1 _)) | (go_at_call 48; with_reducible exact Calls.quiet_of_same (q2 _)))
  obtain ⟨wq, hwq⟩ : ∃ wq, wc.drewN nq = wq := ⟨_, rfl⟩
  have f4 : wq.heap[w.heap.size + 1]? = some (.cells #[.int .i64 k0, .int .i64 k1] 22 (0, 0)) := by rw [← hwq]; exact f4
  have f5 : wq.heap[w.heap.size + 1 + 1]? = some (.cells #[.int .i64 s0, .int .i64 s1, .int .i64 s2, .int .i64 s3] 85 (0, 0)) := by rw [← hwq]; exact f5
  have bw : Below w.heap.size w wq := by rw [← hwq]; exact below_drewN bw nq
  have e0 : wq.cell? ⟨w.heap.size + 1 + 1, 0, none⟩ = some (.int .i64 s0) := by simp [World.cell?, f5]
  have e2 : wq.cell? ⟨w.heap.size + 1 + 1, 2, none⟩ = some (.int .i64 s2) := by simp [World.cell?, f5]
  rw [hwq]
  clear hwq f3 c0 c1 c2 hwabc
  go_wp2
  go_quiet (first | (go_at_call 48; with_reducible exact Calls.quiet_of_same (q3 _)) | (go_at_call 48; with_reducible exact Calls.quiet_of_same (q4 _)))
  go_wp2

  obtain ⟨wr, hwr⟩ : ∃ wr, wq.drewN nq = wr := ⟨_, rfl⟩
  have f4 : wr.heap[w.heap.size + 1]? = some (.cells #[.int .i64 k0, .int .i64 k1] 22 (0, 0)) := by rw [← hwr]; exact f4
  have f5 : wr.heap[w.heap.size + 1 + 1]? = some (.cells #[.int .i64 s0, .int .i64 s1, .int .i64 s2, .int .i64 s3] 85 (0, 0)) := by rw [← hwr]; exact f5
  have bw : Below w.heap.size w wr := by rw [← hwr]; exact below_drewN bw nq
  rw [hwr]
  clear hwr e0 e2
  refine (wpIn_wide (n := 0)).1 ?_
  refine Inv.region_inv (fun s a W => ∃ g12 g13, a = { tmps := #[.agg #[.int .i64 a0, .int .i64 a1, .int .i64 a2], .agg #[.int .i64 k0, .int .i64 k1], .agg #[.int .i64 s0, .int .i64 s1, .int .i64 s2, .int .i64 s3], .pointer (some ⟨w.heap.size, 0, none⟩), .pointer (some ⟨w.heap.size + 1, 0, none⟩), .pointer (some ⟨w.heap.size + 1 + 1, 0, none⟩), .bool false, .int .i64 N, .int .i64 good, .int .i64 bad, .int .i64 d1, .int .i64 d2, if s 14 = true then .pointer (some ⟨g12, 0, none⟩) else undef, if s 15 = true then .pointer (some ⟨g13, 0, none⟩) else undef, undef, undef, undef, undef, undef, undef, undef, undef, undef, undef, undef, undef, undef, undef, .pointer (some ⟨w.heap.size, 0, none⟩), .int .i64 a0, .int .i64 z0, .int .i64 N, .pointer (some ⟨w.heap.size, 1, none⟩), .int .i64 a1, .int .i64 N, .int .i64 ((N : Int) + 1), .int .i64 good, .pointer (some ⟨w.heap.size, 2, none⟩), .int .i64 a2, .int .i64 N, .int .i64 ((N : Int) + 1), .int .i64 bad, .pointer (some ⟨w.heap.size + 1 + 1, 0, none⟩), .int .i64 s0, .int .i64 z3, .int .i64 d1, .pointer (some ⟨w.heap.size + 1 + 1, 2, none⟩), .int .i64 s2, .int .i64 z4, .int .i64 d2, if s 0 = true then .pointer (some ⟨w.heap.size + 1 + 1, 1, none⟩) else undef, if s 1 = true then .int .i64 s1 else undef, if s 2 = true then .int .i64 d1 else undef, if s 3 = true then .int .i64 ((d1 : Int) + 1) else undef, if s 4 = true then .int .i64 u1 else undef, if s 5 = true then .int .i64 d1 else undef, if s 6 = true then .agg #[.int .i64 A1, .int .i64 B1] else undef, if s 7 = true then .pointer (some ⟨w.heap.size + 1 + 1, 3, none⟩) else undef, if s 8 = true then .int .i64 s3 else undef, if s 9 = true then .int .i64 d2 else undef, if s 10 = true then .int .i64 ((d2 : Int) + 1) else undef, if s 11 = true then .int .i64 u2 else undef, if s 12 = true then .int .i64 d2 else undef, if s 13 = true then .agg #[.int .i64 A2, .int .i64 B2] else undef, undef, undef, undef, undef, undef, undef, undef, undef, undef, undef, undef, undef, undef, undef, undef, undef, undef, undef, undef, undef, undef, undef, undef, undef, undef, undef, undef, undef, undef, undef, undef, undef, undef, undef, undef, undef, undef, undef, undef, undef, undef, undef, undef, undef, undef, undef, undef, undef, undef, undef, undef, undef, undef, undef, undef, undef, undef, undef, undef, undef, undef, undef, undef, undef, undef, undef, undef, undef, undef, undef, undef, undef, undef, undef, undef, undef, undef, undef, undef, undef, undef, undef, undef, undef, undef, undef, undef, undef, undef, undef, undef, undef, undef, undef, undef, undef, undef, undef, undef, undef, undef, undef, undef, undef, undef, undef, undef, undef, undef, undef, undef, undef, undef, undef, undef, undef, undef, undef, undef, undef, undef, undef, undef, undef, undef, undef, undef, undef, undef, undef, undef, undef, undef, undef], defers := [] } ∧ FsI w (w.heap.size + 1) (w.heap.size + 1 + 1) (.cells #[.int .i64 k0, .int .i64 k1] 22 (0, 0)) (.cells #[.int .i64 s0, .int .i64 s1, .int .i64 s2, .int .i64 s3] 85 (0, 0)) g12 g13 (.int .i64 A1) (.int .i64 B1) (.int .i64 A2) (.int .i64 B2) (s 14) (s 15) (s 16) (s 17) W) hmx (by kernel_rfl) ?_ ?_ ?_
  · intro s hs
    have hb : Below wr.heap.size wr wr.drew := (Below.refl _ _).drew
    refine ⟨0, 0, ?_, ?_⟩
    · simp only [hs 0 (by decide), hs 1 (by decide), hs 2 (by decide), hs 3 (by decide), hs 4 (by decide), hs 5 (by decide), hs 6 (by decide), hs 7 (by decide), hs 8 (by decide), hs 9 (by decide), hs 10 (by decide), hs 11 (by decide), hs 12 (by decide), hs 13 (by decide), hs 14 (by decide), hs 15 (by decide), hs 16 (by decide), hs 17 (by decide), Bool.false_eq_true, if_false]
    · rw [hs 14 (by decide), hs 15 (by decide), hs 16 (by decide), hs 17 (by decide)]
      exact ⟨(hb.block _ (Array.getElem?_eq_some_iff.1 f4).1).trans f4, (hb.block _ (Array.getElem?_eq_some_iff.1 f5).1).trans f5, fun e => (by cases e), fun e => (by cases e), fun e => (by cases e), fun e => (by cases e), fun e => (by cases e), bw.trans (hb.mono bw.size)⟩
  · refine ⟨?_, ?_, ?_, ?_, ?_, ?_, ?_, ?_, ?_, ?_, ?_, ?_, ?_, ?_, ?_, ?_, ?_, ?_, trivial⟩
    · rintro s a W hun hdep hbeh ⟨g12, g13, rfl, hT⟩
      (try simp only [Nat.reduceAdd] at hun)
      refine .inl ⟨by rfl, Inv.comesV_val (.pointer (some ⟨w.heap.size + 1 + 1, 1, none⟩)) W (by (go_simp; (try rfl); try (intro hneg; omega))) ⟨g12, g13, by (simp only [Act.put, List.setIfInBounds_toArray, List.set_cons_succ, List.set_cons_zero, Manyd.upd, Nat.reduceAdd, Nat.reduceBEq, Bool.or_false, Bool.or_true, if_true]), by simpa [Manyd.upd] using hT⟩⟩
    · rintro s a W hun hdep hbeh ⟨g12, g13, rfl, hT⟩
      (try simp only [Nat.reduceAdd] at hun)
      have h0 : s 0 = true := Inv.depB_mem 0 hdep (by rfl)
      have hc : W.cell? ⟨w.heap.size + 1 + 1, 1, none⟩ = some (.int .i64 s1) := by simp [World.cell?, hT.h5]
      refine .inl ⟨by rfl, Inv.comesV_val (.int .i64 s1) W (by (simp only [h0, if_true]; go_simp; (try rfl); try (intro hneg; omega))) ⟨g12, g13, by (simp only [Act.put, List.setIfInBounds_toArray, List.set_cons_succ, List.set_cons_zero, Manyd.upd, Nat.reduceAdd, Nat.reduceBEq, Bool.or_false, Bool.or_true, if_true]), by simpa [Manyd.upd] using hT⟩⟩
    · rintro s a W hun hdep hbeh ⟨g12, g13, rfl, hT⟩
      (try simp only [Nat.reduceAdd] at hun)
      refine .inl ⟨by rfl, Inv.comesV_val (.int .i64 d1) W (by (go_simp; (try rfl); try (intro hneg; omega))) ⟨g12, g13, by (simp only [Act.put, List.setIfInBounds_toArray, List.set_cons_succ, List.set_cons_zero, Manyd.upd, Nat.reduceAdd, Nat.reduceBEq, Bool.or_false, Bool.or_true, if_true]), by simpa [Manyd.upd] using hT⟩⟩
    · rintro s a W hun hdep hbeh ⟨g12, g13, rfl, hT⟩
      (try simp only [Nat.reduceAdd] at hun)
      have h2 : s 2 = true := Inv.depB_mem 2 hdep (by rfl)
      refine .inl ⟨by rfl, Inv.comesV_val (.int .i64 ((d1 : Int) + 1)) W (by (simp only [h2, if_true]; go_simp; (try rfl); try (intro hneg; omega))) ⟨g12, g13, by (simp only [Act.put, List.setIfInBounds_toArray, List.set_cons_succ, List.set_cons_zero, Manyd.upd, Nat.reduceAdd, Nat.reduceBEq, Bool.or_false, Bool.or_true, if_true]), by simpa [Manyd.upd] using hT⟩⟩
    · rintro s a W hun hdep hbeh ⟨g12, g13, rfl, hT⟩
      (try simp only [Nat.reduceAdd] at hun)
      have h1 : s 1 = true := Inv.depB_mem 1 hdep (by rfl)
      have h3 : s 3 = true := Inv.depB_mem 3 hdep (by rfl)
      refine .inl ⟨by rfl, Inv.comesV_call 48 #[.int .i64 s1, .int .i64 ((d1 : Int) + 1)] W (by (simp only [h1, h3, if_true]; go_simp; try rfl)) ((q5 W).mono fun e w5 hw5 => ⟨.int .i64 u1, hw5.1, g12, g13, ?_, ?_⟩)⟩
      · simp only [Act.put, List.setIfInBounds_toArray, List.set_cons_succ, List.set_cons_zero, Manyd.upd, Nat.reduceAdd, Nat.reduceBEq, Bool.or_false, Bool.or_true, if_true]
      · rw [hw5.2]; simpa [Manyd.upd] using hT
    · rintro s a W hun hdep hbeh ⟨g12, g13, rfl, hT⟩
      (try simp only [Nat.reduceAdd] at hun)
      refine .inl ⟨by rfl, Inv.comesV_val (.int .i64 d1) W (by (go_simp; (try rfl); try (intro hneg; omega))) ⟨g12, g13, by (simp only [Act.put, List.setIfInBounds_toArray, List.set_cons_succ, List.set_cons_zero, Manyd.upd, Nat.reduceAdd, Nat.reduceBEq, Bool.or_false, Bool.or_true, if_true]), by simpa [Manyd.upd] using hT⟩⟩
    · rintro s a W hun hdep hbeh ⟨g12, g13, rfl, hT⟩
      (try simp only [Nat.reduceAdd] at hun)
      have h4 : s 4 = true := Inv.depB_mem 4 hdep (by rfl)
      have h5 : s 5 = true := Inv.depB_mem 5 hdep (by rfl)
      refine .inl ⟨by rfl, Inv.comesV_call 23 #[.int .i64 u1, .int .i64 d1] W (by (simp only [h4, h5, if_true]; go_simp; try rfl)) ((qr1 W).mono fun e w5 hw5 => ⟨.agg #[.int .i64 A1, .int .i64 B1], hw5.1, g12, g13, ?_, ?_⟩)⟩
      · simp only [Act.put, List.setIfInBounds_toArray, List.set_cons_succ, List.set_cons_zero, Manyd.upd, Nat.reduceAdd, Nat.reduceBEq, Bool.or_false, Bool.or_true, if_true]
      · simpa [Manyd.upd] using hT.after hw5.2
    · rintro s a W hun hdep hbeh ⟨g12, g13, rfl, hT⟩
      (try simp only [Nat.reduceAdd] at hun)
      refine .inl ⟨by rfl, Inv.comesV_val (.pointer (some ⟨w.heap.size + 1 + 1, 3, none⟩)) W (by (go_simp; (try rfl); try (intro hneg; omega))) ⟨g12, g13, by (simp only [Act.put, List.setIfInBounds_toArray, List.set_cons_succ, List.set_cons_zero, Manyd.upd, Nat.reduceAdd, Nat.reduceBEq, Bool.or_false, Bool.or_true, if_true]), by simpa [Manyd.upd] using hT⟩⟩
    · rintro s a W hun hdep hbeh ⟨g12, g13, rfl, hT⟩
      (try simp only [Nat.reduceAdd] at hun)
      have h7 : s 7 = true := Inv.depB_mem 7 hdep (by rfl)
      have hc : W.cell? ⟨w.heap.size + 1 + 1, 3, none⟩ = some (.int .i64 s3) := by simp [World.cell?, hT.h5]
      refine .inl ⟨by rfl, Inv.comesV_val (.int .i64 s3) W (by (simp only [h7, if_true]; go_simp; (try rfl); try (intro hneg; omega))) ⟨g12, g13, by (simp only [Act.put, List.setIfInBounds_toArray, List.set_cons_succ, List.set_cons_zero, Manyd.upd, Nat.reduceAdd, Nat.reduceBEq, Bool.or_false, Bool.or_true, if_true]), by simpa [Manyd.upd] using hT⟩⟩
    · rintro s a W hun hdep hbeh ⟨g12, g13, rfl, hT⟩
      (try simp only [Nat.reduceAdd] at hun)
      refine .inl ⟨by rfl, Inv.comesV_val (.int .i64 d2) W (by (go_simp; (try rfl); try (intro hneg; omega))) ⟨g12, g13, by (simp only [Act.put, List.setIfInBounds_toArray, List.set_cons_succ, List.set_cons_zero, Manyd.upd, Nat.reduceAdd, Nat.reduceBEq, Bool.or_false, Bool.or_true, if_true]), by simpa [Manyd.upd] using hT⟩⟩
    · rintro s a W hun hdep hbeh ⟨g12, g13, rfl, hT⟩
      (try simp only [Nat.reduceAdd] at hun)
      have h9 : s 9 = true := Inv.depB_mem 9 hdep (by rfl)
      refine .inl ⟨by rfl, Inv.comesV_val (.int .i64 ((d2 : Int) + 1)) W (by (simp only [h9, if_true]; go_simp; (try rfl); try (intro hneg; omega))) ⟨g12, g13, by (simp only [Act.put, List.setIfInBounds_toArray, List.set_cons_succ, List.set_cons_zero, Manyd.upd, Nat.reduceAdd, Nat.reduceBEq, Bool.or_false, Bool.or_true, if_true]), by simpa [Manyd.upd] using hT⟩⟩
    · rintro s a W hun hdep hbeh ⟨g12, g13, rfl, hT⟩
      (try simp only [Nat.reduceAdd] at hun)
      have h8 : s 8 = true := Inv.depB_mem 8 hdep (by rfl)
      have h10 : s 10 = true := Inv.depB_mem 10 hdep (by rfl)
      refine .inl ⟨by rfl, Inv.comesV_call 48 #[.int .i64 s3, .int .i64 ((d2 : Int) + 1)] W (by (simp only [h8, h10, if_true]; go_simp; try rfl)) ((q6 W).mono fun e w5 hw5 => ⟨.int .i64 u2, hw5.1, g12, g13, ?_, ?_⟩)⟩
      · simp only [Act.put, List.setIfInBounds_toArray, List.set_cons_succ, List.set_cons_zero, Manyd.upd, Nat.reduceAdd, Nat.reduceBEq, Bool.or_false, Bool.or_true, if_true]
      · rw [hw5.2]; simpa [Manyd.upd] using hT
    · rintro s a W hun hdep hbeh ⟨g12, g13, rfl, hT⟩
      (try simp only [Nat.reduceAdd] at hun)
      refine .inl ⟨by rfl, Inv.comesV_val (.int .i64 d2) W (by (go_simp; (try rfl); try (intro hneg; omega))) ⟨g12, g13, by (simp only [Act.put, List.setIfInBounds_toArray, List.set_cons_succ, List.set_cons_zero, Manyd.upd, Nat.reduceAdd, Nat.reduceBEq, Bool.or_false, Bool.or_true, if_true]), by simpa [Manyd.upd] using hT⟩⟩
    · rintro s a W hun hdep hbeh ⟨g12, g13, rfl, hT⟩
      (try simp only [Nat.reduceAdd] at hun)
      have h11 : s 11 = true := Inv.depB_mem 11 hdep (by rfl)
      have h12 : s 12 = true := Inv.depB_mem 12 hdep (by rfl)
      refine .inl ⟨by rfl, Inv.comesV_call 23 #[.int .i64 u2, .int .i64 d2] W (by (simp only [h11, h12, if_true]; go_simp; try rfl)) ((qr2 W).mono fun e w5 hw5 => ⟨.agg #[.int .i64 A2, .int .i64 B2], hw5.1, g12, g13, ?_, ?_⟩)⟩
      · simp only [Act.put, List.setIfInBounds_toArray, List.set_cons_succ, List.set_cons_zero, Manyd.upd, Nat.reduceAdd, Nat.reduceBEq, Bool.or_false, Bool.or_true, if_true]
      · simpa [Manyd.upd] using hT.after hw5.2
    · rintro s a W hun hdep hbeh ⟨g12, g13, rfl, hT⟩
      (try simp only [Nat.reduceAdd] at hun)
      have n16 : s 16 = false := hbeh 16 (by kernel_rfl)
      rw [hun, n16] at hT
      refine .inl ⟨by rfl, Inv.comesV_val (.pointer (some ⟨W.heap.size, 0, none⟩)) (W.alloc (.cells #[.int .i64 0, .int .i64 0] 27)) (by (go_simp; try rfl)) ⟨W.heap.size, g13, ?_, ?_⟩⟩
      · simp only [Act.put, List.setIfInBounds_toArray, List.set_cons_succ, List.set_cons_zero, Manyd.upd, Nat.reduceAdd, Nat.reduceBEq, Bool.or_false, Bool.or_true, if_true]
      · simpa [Manyd.upd, n16] using hT.lay12
    · rintro s a W hun hdep hbeh ⟨g12, g13, rfl, hT⟩
      (try simp only [Nat.reduceAdd] at hun)
      have n17 : s 17 = false := hbeh 17 (by kernel_rfl)
      rw [hun, n17] at hT
      refine .inl ⟨by rfl, Inv.comesV_val (.pointer (some ⟨W.heap.size, 0, none⟩)) (W.alloc (.cells #[.int .i64 0, .int .i64 0] 27)) (by (go_simp; try rfl)) ⟨g12, W.heap.size, ?_, ?_⟩⟩
      · simp only [Act.put, List.setIfInBounds_toArray, List.set_cons_succ, List.set_cons_zero, Manyd.upd, Nat.reduceAdd, Nat.reduceBEq, Bool.or_false, Bool.or_true, if_true]
      · simpa [Manyd.upd, n17] using hT.lay13
    · rintro s a W hun hdep hbeh ⟨g12, g13, rfl, hT⟩
      (try simp only [Nat.reduceAdd] at hun)
      have h14 : s 14 = true := Inv.depB_mem 14 hdep (by rfl)
      have h6 : s 6 = true := Inv.depB_mem 6 hdep (by rfl)
      rw [hun, h14] at hT
      obtain ⟨o0, o1, o2, o3⟩ := hT.o12 rfl
      have hT2 := hT.put12
      refine .inl ⟨by rfl, Inv.comesV_skip ((W.setCell ⟨g12, 0, none⟩ (.int .i64 A1)).setCell ⟨g12, 1, none⟩ (.int .i64 B1)) (by (simp only [h14, h6, if_true]; go_simp; try rfl)) ⟨g12, g13, ?_, ?_⟩⟩
      · simp only [Act.put, List.setIfInBounds_toArray, List.set_cons_succ, List.set_cons_zero, Manyd.upd, Nat.reduceAdd, Nat.reduceBEq, Bool.or_false, Bool.or_true, if_true]
      · simpa [Manyd.upd, h14] using hT2
    · rintro s a W hun hdep hbeh ⟨g12, g13, rfl, hT⟩
      (try simp only [Nat.reduceAdd] at hun)
      have h15 : s 15 = true := Inv.depB_mem 15 hdep (by rfl)
      have h13 : s 13 = true := Inv.depB_mem 13 hdep (by rfl)
      rw [hun, h15] at hT
      obtain ⟨o0, o1, o2, o3⟩ := hT.o13 rfl
      have hT2 := hT.put13
      refine .inl ⟨by rfl, Inv.comesV_skip ((W.setCell ⟨g13, 0, none⟩ (.int .i64 A2)).setCell ⟨g13, 1, none⟩ (.int .i64 B2)) (by (simp only [h15, h13, if_true]; go_simp; try rfl)) ⟨g12, g13, ?_, ?_⟩⟩
      · simp only [Act.put, List.setIfInBounds_toArray, List.set_cons_succ, List.set_cons_zero, Manyd.upd, Nat.reduceAdd, Nat.reduceBEq, Bool.or_false, Bool.or_true, if_true]
      · simpa [Manyd.upd, h15] using hT2
  rintro s a W hs ⟨g12, g13, rfl, hT⟩
  rw [hs 14 (by decide), hs 15 (by decide), hs 16 (by decide), hs 17 (by decide)] at hT
  simp only [hs 0 (by decide), hs 1 (by decide), hs 2 (by decide), hs 3 (by decide), hs 4 (by decide), hs 5 (by decide), hs 6 (by decide), hs 7 (by decide), hs 8 (by decide), hs 9 (by decide), hs 10 (by decide), hs 11 (by decide), hs 12 (by decide), hs 13 (by decide), hs 14 (by decide), hs 15 (by decide), if_true]
  clear hs f4 f5 bw
  have hQ : Fl w (w.heap.size + 1) (.cells #[.int .i64 k0, .int .i64 k1] 22 (0, 0)) [(g12, .int .i64 A1, .int .i64 B1), (g13, .int .i64 A2, .int .i64 B2)] W := ⟨hT.h4, fun p hp => (by
    simp only [List.mem_cons, List.not_mem_nil, or_false] at hp
    rcases hp with rfl | rfl
    · simpa using hT.o12 rfl
    · simpa using hT.o13 rfl), hT.bw⟩
  clear hT
  unfold fracV at hcase
  have ek0 : ∀ W l, Fl w (w.heap.size + 1) (.cells #[.int .i64 k0, .int .i64 k1] 22 (0, 0)) l W → W.cell? ⟨w.heap.size + 1, 0, none⟩ = some (.int .i64 k0) ∧ W.cell? ⟨w.heap.size + 1, 1, none⟩ = some (.int .i64 k1) := fun W l h => ⟨by simp [World.cell?, h.h4], by simp [World.cell?, h.h4]⟩

  obtain ⟨k0f, k1f⟩ := ek0 _ _ hQ
  obtain ⟨o0f, o1f, _, _⟩ := hQ.hd
  obtain ⟨p0f, p1f, _, _⟩ := hQ.tl.hd
  clear iffA iffB q0 q1 q2 q3 q4 q5 q6 qr1 qr2
  rcases hcase.out with ⟨hne, q37⟩ | ⟨n, c, hnN, hcn, hle, hF3, hM3, q37⟩
  · clear hcase q18a q18b q49a q49b q46a q46b
    cases F with
    | true =>
      go_wp2_with (first
        | (go_at_call 37; (with_reducible refine (q37 _).mono ?_); rintro e v1 ⟨rfl, hb1⟩; have hQ := hQ.after hb1; obtain ⟨o0f, o1f, _, _⟩ := hQ.hd; obtain ⟨p0f, p1f, _, _⟩ := hQ.tl.hd; obtain ⟨k0f, k1f⟩ := ek0 _ _ hQ; clear hb1)
        | (go_at_call 48; (with_reducible refine (q7 _).mono ?_); rintro e v ⟨rfl, hv⟩; rw [hv]; clear hv v)
        | (go_at_call 48; (with_reducible refine (q8 _).mono ?_); rintro e v ⟨rfl, hv⟩; rw [hv]; clear hv v)
        | (go_at_call 18; (with_reducible refine (q18k _).mono ?_); rintro e v1 ⟨rfl, hb1⟩; have hQ := (hQ.after hb1).lay (.int .i64 X1) (.int .i64 Y1); obtain ⟨w7, hw7⟩ : ∃ w7, v1.alloc (.cells #[.int .i64 X1, .int .i64 Y1] 27) = w7 := ⟨_, rfl⟩; rw [hw7] at hQ; obtain ⟨o0f, o1f, _, _⟩ := hQ.hd; obtain ⟨p0f, p1f, _, _⟩ := hQ.tl.hd; obtain ⟨r0f, r1f, _, _⟩ := hQ.tl.tl.hd; obtain ⟨k0f, k1f⟩ := ek0 _ _ hQ; clear hb1)
        | (go_at_call 18; (with_reducible refine (q18l _).mono ?_); rintro e v1 ⟨rfl, hb1⟩; have hQ := (hQ.after hb1).lay (.int .i64 X2) (.int .i64 Y2); obtain ⟨w7, hw7⟩ : ∃ w7, v1.alloc (.cells #[.int .i64 X2, .int .i64 Y2] 27) = w7 := ⟨_, rfl⟩; rw [hw7] at hQ; obtain ⟨o0f, o1f, _, _⟩ := hQ.hd; obtain ⟨p0f, p1f, _, _⟩ := hQ.tl.hd; obtain ⟨r0f, r1f, _, _⟩ := hQ.tl.tl.hd; obtain ⟨s0f, s1f, _, _⟩ := hQ.tl.tl.tl.hd; obtain ⟨k0f, k1f⟩ := ek0 _ _ hQ; clear hb1)
        | (go_at_call 49; (with_reducible refine (q49k _).mono ?_); rintro e v1 ⟨rfl, hb1⟩; have hQ := hQ.after hb1; obtain ⟨o0f, o1f, _, _⟩ := hQ.hd; obtain ⟨p0f, p1f, _, _⟩ := hQ.tl.hd; obtain ⟨r0f, r1f, _, _⟩ := hQ.tl.tl.hd; obtain ⟨s0f, s1f, _, _⟩ := hQ.tl.tl.tl.hd; clear hb1)
        | (go_at_call 49; (with_reducible refine (q49l _).mono ?_); rintro e v1 ⟨rfl, hb1⟩; have hQ := hQ.after hb1; obtain ⟨o0f, o1f, _, _⟩ := hQ.hd; obtain ⟨p0f, p1f, _, _⟩ := hQ.tl.hd; obtain ⟨r0f, r1f, _, _⟩ := hQ.tl.tl.hd; obtain ⟨s0f, s1f, _, _⟩ := hQ.tl.tl.tl.hd; clear hb1)
        | (go_at_call 46; (with_reducible refine (q46k _).mono ?_); rintro e v1 ⟨rfl, hb1⟩; have hQ := hQ.after hb1; obtain ⟨o0f, o1f, _, _⟩ := hQ.hd; obtain ⟨p0f, p1f, _, _⟩ := hQ.tl.hd; obtain ⟨r0f, r1f, _, _⟩ := hQ.tl.tl.hd; obtain ⟨s0f, s1f, _, _⟩ := hQ.tl.tl.tl.hd; clear hb1)
        | (go_at_call 20; (with_reducible refine (awake_any _).mono ?_); rintro e v1 ⟨rfl, hb1⟩; have hQ := hQ.after hb1; clear hb1))
      go_ret
      exact ⟨rfl, hQ.bw⟩
    | false =>
      cases M with
      | true =>
        go_wp2_with (first
          | (go_at_call 37; (with_reducible refine (q37 _).mono ?_); rintro e v1 ⟨rfl, hb1⟩; have hQ := hQ.after hb1; obtain ⟨o0f, o1f, _, _⟩ := hQ.hd; obtain ⟨p0f, p1f, _, _⟩ := hQ.tl.hd; obtain ⟨k0f, k1f⟩ := ek0 _ _ hQ; clear hb1)
          | (go_at_call 48; (with_reducible refine (q7 _).mono ?_); rintro e v ⟨rfl, hv⟩; rw [hv]; clear hv v)
          | (go_at_call 48; (with_reducible refine (q8 _).mono ?_); rintro e v ⟨rfl, hv⟩; rw [hv]; clear hv v)
          | (go_at_call 18; (with_reducible refine (q18k _).mono ?_); rintro e v1 ⟨rfl, hb1⟩; have hQ := (hQ.after hb1).lay (.int .i64 X1) (.int .i64 Y1); obtain ⟨w7, hw7⟩ : ∃ w7, v1.alloc (.cells #[.int .i64 X1, .int .i64 Y1] 27) = w7 := ⟨_, rfl⟩; rw [hw7] at hQ; obtain ⟨o0f, o1f, _, _⟩ := hQ.hd; obtain ⟨p0f, p1f, _, _⟩ := hQ.tl.hd; obtain ⟨r0f, r1f, _, _⟩ := hQ.tl.tl.hd; obtain ⟨k0f, k1f⟩ := ek0 _ _ hQ; clear hb1)
          | (go_at_call 18; (with_reducible refine (q18l _).mono ?_); rintro e v1 ⟨rfl, hb1⟩; have hQ := (hQ.after hb1).lay (.int .i64 X2) (.int .i64 Y2); obtain ⟨w7, hw7⟩ : ∃ w7, v1.alloc (.cells #[.int .i64 X2, .int .i64 Y2] 27) = w7 := ⟨_, rfl⟩; rw [hw7] at hQ; obtain ⟨o0f, o1f, _, _⟩ := hQ.hd; obtain ⟨p0f, p1f, _, _⟩ := hQ.tl.hd; obtain ⟨r0f, r1f, _, _⟩ := hQ.tl.tl.hd; obtain ⟨s0f, s1f, _, _⟩ := hQ.tl.tl.tl.hd; obtain ⟨k0f, k1f⟩ := ek0 _ _ hQ; clear hb1)
          | (go_at_call 49; (with_reducible refine (q49k _).mono ?_); rintro e v1 ⟨rfl, hb1⟩; have hQ := hQ.after hb1; obtain ⟨o0f, o1f, _, _⟩ := hQ.hd; obtain ⟨p0f, p1f, _, _⟩ := hQ.tl.hd; obtain ⟨r0f, r1f, _, _⟩ := hQ.tl.tl.hd; obtain ⟨s0f, s1f, _, _⟩ := hQ.tl.tl.tl.hd; clear hb1)
          | (go_at_call 49; (with_reducible refine (q49l _).mono ?_); rintro e v1 ⟨rfl, hb1⟩; have hQ := hQ.after hb1; obtain ⟨o0f, o1f, _, _⟩ := hQ.hd; obtain ⟨p0f, p1f, _, _⟩ := hQ.tl.hd; obtain ⟨r0f, r1f, _, _⟩ := hQ.tl.tl.hd; obtain ⟨s0f, s1f, _, _⟩ := hQ.tl.tl.tl.hd; clear hb1)
          | (go_at_call 46; (with_reducible refine (q46k _).mono ?_); rintro e v1 ⟨rfl, hb1⟩; have hQ := hQ.after hb1; obtain ⟨o0f, o1f, _, _⟩ := hQ.hd; obtain ⟨p0f, p1f, _, _⟩ := hQ.tl.hd; obtain ⟨r0f, r1f, _, _⟩ := hQ.tl.tl.hd; obtain ⟨s0f, s1f, _, _⟩ := hQ.tl.tl.tl.hd; clear hb1)
          | (go_at_call 46; (with_reducible refine (q46l _).mono ?_); rintro e v1 ⟨rfl, hb1⟩; have hQ := hQ.after hb1; obtain ⟨o0f, o1f, _, _⟩ := hQ.hd; obtain ⟨p0f, p1f, _, _⟩ := hQ.tl.hd; obtain ⟨r0f, r1f, _, _⟩ := hQ.tl.tl.hd; obtain ⟨s0f, s1f, _, _⟩ := hQ.tl.tl.tl.hd; clear hb1)
          | (go_at_call 20; (with_reducible refine (awake_any _).mono ?_); rintro e v1 ⟨rfl, hb1⟩; have hQ := hQ.after hb1; clear hb1))
        go_ret
        exact ⟨rfl, hQ.bw⟩
      | false => exact absurd (hE.out rfl rfl) hne
  · have q18n := fun w => q18a.out n c hcn hnN w
    have q18m := fun w => q18b.out n c hcn hnN w
    have q49n := fun w => q49a.out n c hnN w
    have q49m := fun w => q49b.out n c hnN w
    have q46n := fun w => q46a.out n c hnN w
    have q46m := fun w => q46b.out n c hnN w
    simp only [hF3] at q46n
    simp only [hM3] at q46m
    simp only [redV, fracV] at q18n q18m q49n q49m q46n q46m
    clear hF3 hM3
    generalize rN (acc n (N - n) good (c + 1)) (ch N good) = X3 at q18n q49n q46n
    generalize rD (acc n (N - n) good (c + 1)) (ch N good) = Y3 at q18n q49n q46n
    generalize rN (acc n (N - n) bad (c + 1)) (ch N bad) = X4 at q18m q49m q46m
    generalize rD (acc n (N - n) bad (c + 1)) (ch N bad) = Y4 at q18m q49m q46m
    clear hcase q18a q18b q49a q49b q46a q46b
    cases F with
    | true =>
      go_wp2_with (first
        | (go_at_call 37; (with_reducible refine (q37 _).mono ?_); rintro e v1 ⟨rfl, hb1⟩; have hQ := hQ.after hb1; obtain ⟨o0f, o1f, _, _⟩ := hQ.hd; obtain ⟨p0f, p1f, _, _⟩ := hQ.tl.hd; obtain ⟨k0f, k1f⟩ := ek0 _ _ hQ; clear hb1)
        | (go_at_call 48; (with_reducible refine (q7 _).mono ?_); rintro e v ⟨rfl, hv⟩; rw [hv]; clear hv v)
        | (go_at_call 48; (with_reducible refine (q8 _).mono ?_); rintro e v ⟨rfl, hv⟩; rw [hv]; clear hv v)
        | (go_at_call 18; (with_reducible refine (q18k _).mono ?_); rintro e v1 ⟨rfl, hb1⟩; have hQ := (hQ.after hb1).lay (.int .i64 X1) (.int .i64 Y1); obtain ⟨w7, hw7⟩ : ∃ w7, v1.alloc (.cells #[.int .i64 X1, .int .i64 Y1] 27) = w7 := ⟨_, rfl⟩; rw [hw7] at hQ; obtain ⟨o0f, o1f, _, _⟩ := hQ.hd; obtain ⟨p0f, p1f, _, _⟩ := hQ.tl.hd; obtain ⟨r0f, r1f, _, _⟩ := hQ.tl.tl.hd; obtain ⟨k0f, k1f⟩ := ek0 _ _ hQ; clear hb1)
        | (go_at_call 18; (with_reducible refine (q18l _).mono ?_); rintro e v1 ⟨rfl, hb1⟩; have hQ := (hQ.after hb1).lay (.int .i64 X2) (.int .i64 Y2); obtain ⟨w7, hw7⟩ : ∃ w7, v1.alloc (.cells #[.int .i64 X2, .int .i64 Y2] 27) = w7 := ⟨_, rfl⟩; rw [hw7] at hQ; obtain ⟨o0f, o1f, _, _⟩ := hQ.hd; obtain ⟨p0f, p1f, _, _⟩ := hQ.tl.hd; obtain ⟨r0f, r1f, _, _⟩ := hQ.tl.tl.hd; obtain ⟨s0f, s1f, _, _⟩ := hQ.tl.tl.tl.hd; obtain ⟨k0f, k1f⟩ := ek0 _ _ hQ; clear hb1)
        | (go_at_call 49; (with_reducible refine (q49k _).mono ?_); rintro e v1 ⟨rfl, hb1⟩; have hQ := hQ.after hb1; obtain ⟨o0f, o1f, _, _⟩ := hQ.hd; obtain ⟨p0f, p1f, _, _⟩ := hQ.tl.hd; obtain ⟨r0f, r1f, _, _⟩ := hQ.tl.tl.hd; obtain ⟨s0f, s1f, _, _⟩ := hQ.tl.tl.tl.hd; clear hb1)
        | (go_at_call 49; (with_reducible refine (q49l _).mono ?_); rintro e v1 ⟨rfl, hb1⟩; have hQ := hQ.after hb1; obtain ⟨o0f, o1f, _, _⟩ := hQ.hd; obtain ⟨p0f, p1f, _, _⟩ := hQ.tl.hd; obtain ⟨r0f, r1f, _, _⟩ := hQ.tl.tl.hd; obtain ⟨s0f, s1f, _, _⟩ := hQ.tl.tl.tl.hd; clear hb1)
        | (go_at_call 46; (with_reducible refine (q46k _).mono ?_); rintro e v1 ⟨rfl, hb1⟩; have hQ := hQ.after hb1; obtain ⟨o0f, o1f, _, _⟩ := hQ.hd; obtain ⟨p0f, p1f, _, _⟩ := hQ.tl.hd; obtain ⟨r0f, r1f, _, _⟩ := hQ.tl.tl.hd; obtain ⟨s0f, s1f, _, _⟩ := hQ.tl.tl.tl.hd; clear hb1)
        | (go_at_call 18; (with_reducible refine (q18n _).mono ?_); rintro e v1 ⟨rfl, hb1⟩; have hQ := (hQ.after hb1).lay (.int .i64 X3) (.int .i64 Y3); obtain ⟨w7, hw7⟩ : ∃ w7, v1.alloc (.cells #[.int .i64 X3, .int .i64 Y3] 27) = w7 := ⟨_, rfl⟩; rw [hw7] at hQ; obtain ⟨o0f, o1f, _, _⟩ := hQ.hd; obtain ⟨p0f, p1f, _, _⟩ := hQ.tl.hd; obtain ⟨r0f, r1f, _, _⟩ := hQ.tl.tl.hd; obtain ⟨s0f, s1f, _, _⟩ := hQ.tl.tl.tl.hd; obtain ⟨t0f, t1f, _, _⟩ := hQ.tl.tl.tl.tl.hd; obtain ⟨k0f, k1f⟩ := ek0 _ _ hQ; clear hb1)
        | (go_at_call 18; (with_reducible refine (q18m _).mono ?_); rintro e v1 ⟨rfl, hb1⟩; have hQ := (hQ.after hb1).lay (.int .i64 X4) (.int .i64 Y4); obtain ⟨w7, hw7⟩ : ∃ w7, v1.alloc (.cells #[.int .i64 X4, .int .i64 Y4] 27) = w7 := ⟨_, rfl⟩; rw [hw7] at hQ; obtain ⟨o0f, o1f, _, _⟩ := hQ.hd; obtain ⟨p0f, p1f, _, _⟩ := hQ.tl.hd; obtain ⟨r0f, r1f, _, _⟩ := hQ.tl.tl.hd; obtain ⟨s0f, s1f, _, _⟩ := hQ.tl.tl.tl.hd; obtain ⟨t0f, t1f, _, _⟩ := hQ.tl.tl.tl.tl.hd; obtain ⟨v0f, v1f, _, _⟩ := hQ.tl.tl.tl.tl.tl.hd; obtain ⟨k0f, k1f⟩ := ek0 _ _ hQ; clear hb1)
        | (go_at_call 49; (with_reducible refine (q49n _).mono ?_); rintro e v1 ⟨rfl, hb1⟩; have hQ := hQ.after hb1; obtain ⟨o0f, o1f, _, _⟩ := hQ.hd; obtain ⟨p0f, p1f, _, _⟩ := hQ.tl.hd; obtain ⟨r0f, r1f, _, _⟩ := hQ.tl.tl.hd; obtain ⟨s0f, s1f, _, _⟩ := hQ.tl.tl.tl.hd; obtain ⟨t0f, t1f, _, _⟩ := hQ.tl.tl.tl.tl.hd; obtain ⟨v0f, v1f, _, _⟩ := hQ.tl.tl.tl.tl.tl.hd; clear hb1)
        | (go_at_call 49; (with_reducible refine (q49m _).mono ?_); rintro e v1 ⟨rfl, hb1⟩; have hQ := hQ.after hb1; obtain ⟨o0f, o1f, _, _⟩ := hQ.hd; obtain ⟨p0f, p1f, _, _⟩ := hQ.tl.hd; obtain ⟨r0f, r1f, _, _⟩ := hQ.tl.tl.hd; obtain ⟨s0f, s1f, _, _⟩ := hQ.tl.tl.tl.hd; obtain ⟨t0f, t1f, _, _⟩ := hQ.tl.tl.tl.tl.hd; obtain ⟨v0f, v1f, _, _⟩ := hQ.tl.tl.tl.tl.tl.hd; clear hb1)
        | (go_at_call 46; (with_reducible refine (q46n _).mono ?_); rintro e v1 ⟨rfl, hb1⟩; have hQ := hQ.after hb1; obtain ⟨o0f, o1f, _, _⟩ := hQ.hd; obtain ⟨p0f, p1f, _, _⟩ := hQ.tl.hd; obtain ⟨r0f, r1f, _, _⟩ := hQ.tl.tl.hd; obtain ⟨s0f, s1f, _, _⟩ := hQ.tl.tl.tl.hd; obtain ⟨t0f, t1f, _, _⟩ := hQ.tl.tl.tl.tl.hd; obtain ⟨v0f, v1f, _, _⟩ := hQ.tl.tl.tl.tl.tl.hd; clear hb1)
        | (go_at_call 46; (with_reducible refine (q46m _).mono ?_); rintro e v1 ⟨rfl, hb1⟩; have hQ := hQ.after hb1; obtain ⟨o0f, o1f, _, _⟩ := hQ.hd; obtain ⟨p0f, p1f, _, _⟩ := hQ.tl.hd; obtain ⟨r0f, r1f, _, _⟩ := hQ.tl.tl.hd; obtain ⟨s0f, s1f, _, _⟩ := hQ.tl.tl.tl.hd; obtain ⟨t0f, t1f, _, _⟩ := hQ.tl.tl.tl.tl.hd; obtain ⟨v0f, v1f, _, _⟩ := hQ.tl.tl.tl.tl.tl.hd; clear hb1)
        | (go_at_call 20; (with_reducible refine (awake_any _).mono ?_); rintro e v1 ⟨rfl, hb1⟩; have hQ := hQ.after hb1; clear hb1))
      go_ret
      exact ⟨rfl, hQ.bw⟩
    | false =>
      cases M with
      | true =>
        go_wp2_with (first
          | (go_at_call 37; (with_reducible refine (q37 _).mono ?_); rintro e v1 ⟨rfl, hb1⟩; have hQ := hQ.after hb1; obtain ⟨o0f, o1f, _, _⟩ := hQ.hd; obtain ⟨p0f, p1f, _, _⟩ := hQ.tl.hd; obtain ⟨k0f, k1f⟩ := ek0 _ _ hQ; clear hb1)
          | (go_at_call 48; (with_reducible refine (q7 _).mono ?_); rintro e v ⟨rfl, hv⟩; rw [hv]; clear hv v)
          | (go_at_call 48; (with_reducible refine (q8 _).mono ?_); rintro e v ⟨rfl, hv⟩; rw [hv]; clear hv v)
          | (go_at_call 18; (with_reducible refine (q18k _).mono ?_); rintro e v1 ⟨rfl, hb1⟩; have hQ := (hQ.after hb1).lay (.int .i64 X1) (.int .i64 Y1); obtain ⟨w7, hw7⟩ : ∃ w7, v1.alloc (.cells #[.int .i64 X1, .int .i64 Y1] 27) = w7 := ⟨_, rfl⟩; rw [hw7] at hQ; obtain ⟨o0f, o1f, _, _⟩ := hQ.hd; obtain ⟨p0f, p1f, _, _⟩ := hQ.tl.hd; obtain ⟨r0f, r1f, _, _⟩ := hQ.tl.tl.hd; obtain ⟨k0f, k1f⟩ := ek0 _ _ hQ; clear hb1)
          | (go_at_call 18; (with_reducible refine (q18l _).mono ?_); rintro e v1 ⟨rfl, hb1⟩; have hQ := (hQ.after hb1).lay (.int .i64 X2) (.int .i64 Y2); obtain ⟨w7, hw7⟩ : ∃ w7, v1.alloc (.cells #[.int .i64 X2, .int .i64 Y2] 27) = w7 := ⟨_, rfl⟩; rw [hw7] at hQ; obtain ⟨o0f, o1f, _, _⟩ := hQ.hd; obtain ⟨p0f, p1f, _, _⟩ := hQ.tl.hd; obtain ⟨r0f, r1f, _, _⟩ := hQ.tl.tl.hd; obtain ⟨s0f, s1f, _, _⟩ := hQ.tl.tl.tl.hd; obtain ⟨k0f, k1f⟩ := ek0 _ _ hQ; clear hb1)
          | (go_at_call 49; (with_reducible refine (q49k _).mono ?_); rintro e v1 ⟨rfl, hb1⟩; have hQ := hQ.after hb1; obtain ⟨o0f, o1f, _, _⟩ := hQ.hd; obtain ⟨p0f, p1f, _, _⟩ := hQ.tl.hd; obtain ⟨r0f, r1f, _, _⟩ := hQ.tl.tl.hd; obtain ⟨s0f, s1f, _, _⟩ := hQ.tl.tl.tl.hd; clear hb1)
          | (go_at_call 49; (with_reducible refine (q49l _).mono ?_); rintro e v1 ⟨rfl, hb1⟩; have hQ := hQ.after hb1; obtain ⟨o0f, o1f, _, _⟩ := hQ.hd; obtain ⟨p0f, p1f, _, _⟩ := hQ.tl.hd; obtain ⟨r0f, r1f, _, _⟩ := hQ.tl.tl.hd; obtain ⟨s0f, s1f, _, _⟩ := hQ.tl.tl.tl.hd; clear hb1)
          | (go_at_call 46; (with_reducible refine (q46k _).mono ?_); rintro e v1 ⟨rfl, hb1⟩; have hQ := hQ.after hb1; obtain ⟨o0f, o1f, _, _⟩ := hQ.hd; obtain ⟨p0f, p1f, _, _⟩ := hQ.tl.hd; obtain ⟨r0f, r1f, _, _⟩ := hQ.tl.tl.hd; obtain ⟨s0f, s1f, _, _⟩ := hQ.tl.tl.tl.hd; clear hb1)
          | (go_at_call 46; (with_reducible refine (q46l _).mono ?_); rintro e v1 ⟨rfl, hb1⟩; have hQ := hQ.after hb1; obtain ⟨o0f, o1f, _, _⟩ := hQ.hd; obtain ⟨p0f, p1f, _, _⟩ := hQ.tl.hd; obtain ⟨r0f, r1f, _, _⟩ := hQ.tl.tl.hd; obtain ⟨s0f, s1f, _, _⟩ := hQ.tl.tl.tl.hd; clear hb1)
          | (go_at_call 18; (with_reducible refine (q18n _).mono ?_); rintro e v1 ⟨rfl, hb1⟩; have hQ := (hQ.after hb1).lay (.int .i64 X3) (.int .i64 Y3); obtain ⟨w7, hw7⟩ : ∃ w7, v1.alloc (.cells #[.int .i64 X3, .int .i64 Y3] 27) = w7 := ⟨_, rfl⟩; rw [hw7] at hQ; obtain ⟨o0f, o1f, _, _⟩ := hQ.hd; obtain ⟨p0f, p1f, _, _⟩ := hQ.tl.hd; obtain ⟨r0f, r1f, _, _⟩ := hQ.tl.tl.hd; obtain ⟨s0f, s1f, _, _⟩ := hQ.tl.tl.tl.hd; obtain ⟨t0f, t1f, _, _⟩ := hQ.tl.tl.tl.tl.hd; obtain ⟨k0f, k1f⟩ := ek0 _ _ hQ; clear hb1)
          | (go_at_call 18; (with_reducible refine (q18m _).mono ?_); rintro e v1 ⟨rfl, hb1⟩; have hQ := (hQ.after hb1).lay (.int .i64 X4) (.int .i64 Y4); obtain ⟨w7, hw7⟩ : ∃ w7, v1.alloc (.cells #[.int .i64 X4, .int .i64 Y4] 27) = w7 := ⟨_, rfl⟩; rw [hw7] at hQ; obtain ⟨o0f, o1f, _, _⟩ := hQ.hd; obtain ⟨p0f, p1f, _, _⟩ := hQ.tl.hd; obtain ⟨r0f, r1f, _, _⟩ := hQ.tl.tl.hd; obtain ⟨s0f, s1f, _, _⟩ := hQ.tl.tl.tl.hd; obtain ⟨t0f, t1f, _, _⟩ := hQ.tl.tl.tl.tl.hd; obtain ⟨v0f, v1f, _, _⟩ := hQ.tl.tl.tl.tl.tl.hd; obtain ⟨k0f, k1f⟩ := ek0 _ _ hQ; clear hb1)
          | (go_at_call 49; (with_reducible refine (q49n _).mono ?_); rintro e v1 ⟨rfl, hb1⟩; have hQ := hQ.after hb1; obtain ⟨o0f, o1f, _, _⟩ := hQ.hd; obtain ⟨p0f, p1f, _, _⟩ := hQ.tl.hd; obtain ⟨r0f, r1f, _, _⟩ := hQ.tl.tl.hd; obtain ⟨s0f, s1f, _, _⟩ := hQ.tl.tl.tl.hd; obtain ⟨t0f, t1f, _, _⟩ := hQ.tl.tl.tl.tl.hd; obtain ⟨v0f, v1f, _, _⟩ := hQ.tl.tl.tl.tl.tl.hd; clear hb1)
          | (go_at_call 49; (with_reducible refine (q49m _).mono ?_); rintro e v1 ⟨rfl, hb1⟩; have hQ := hQ.after hb1; obtain ⟨o0f, o1f, _, _⟩ := hQ.hd; obtain ⟨p0f, p1f, _, _⟩ := hQ.tl.hd; obtain ⟨r0f, r1f, _, _⟩ := hQ.tl.tl.hd; obtain ⟨s0f, s1f, _, _⟩ := hQ.tl.tl.tl.hd; obtain ⟨t0f, t1f, _, _⟩ := hQ.tl.tl.tl.tl.hd; obtain ⟨v0f, v1f, _, _⟩ := hQ.tl.tl.tl.tl.tl.hd; clear hb1)
          | (go_at_call 46; (with_reducible refine (q46n _).mono ?_); rintro e v1 ⟨rfl, hb1⟩; have hQ := hQ.after hb1; obtain ⟨o0f, o1f, _, _⟩ := hQ.hd; obtain ⟨p0f, p1f, _, _⟩ := hQ.tl.hd; obtain ⟨r0f, r1f, _, _⟩ := hQ.tl.tl.hd; obtain ⟨s0f, s1f, _, _⟩ := hQ.tl.tl.tl.hd; obtain ⟨t0f, t1f, _, _⟩ := hQ.tl.tl.tl.tl.hd; obtain ⟨v0f, v1f, _, _⟩ := hQ.tl.tl.tl.tl.tl.hd; clear hb1)
          | (go_at_call 46; (with_reducible refine (q46m _).mono ?_); rintro e v1 ⟨rfl, hb1⟩; have hQ := hQ.after hb1; obtain ⟨o0f, o1f, _, _⟩ := hQ.hd; obtain ⟨p0f, p1f, _, _⟩ := hQ.tl.hd; obtain ⟨r0f, r1f, _, _⟩ := hQ.tl.tl.hd; obtain ⟨s0f, s1f, _, _⟩ := hQ.tl.tl.tl.hd; obtain ⟨t0f, t1f, _, _⟩ := hQ.tl.tl.tl.tl.hd; obtain ⟨v0f, v1f, _, _⟩ := hQ.tl.tl.tl.tl.tl.hd; clear hb1)
          | (go_at_call 20; (with_reducible refine (awake_any _).mono ?_); rintro e v1 ⟨rfl, hb1⟩; have hQ := hQ.after hb1; clear hb1))
        go_ret
        exact ⟨rfl, hQ.bw⟩
      | false =>
        have hle2 := hle (hE.out rfl rfl)
        clear hle hE
        rcases hle2 with hlt | ⟨hnk, hcd⟩
        · have hlti : (n : Int) < (k : Int) := by omega
          go_wp2_with (first
            | (go_at_call 37; (with_reducible refine (q37 _).mono ?_); rintro e v1 ⟨rfl, hb1⟩; have hQ := hQ.after hb1; obtain ⟨o0f, o1f, _, _⟩ := hQ.hd; obtain ⟨p0f, p1f, _, _⟩ := hQ.tl.hd; obtain ⟨k0f, k1f⟩ := ek0 _ _ hQ; clear hb1)
            | (go_at_call 48; (with_reducible refine (q7 _).mono ?_); rintro e v ⟨rfl, hv⟩; rw [hv]; clear hv v)
            | (go_at_call 48; (with_reducible refine (q8 _).mono ?_); rintro e v ⟨rfl, hv⟩; rw [hv]; clear hv v)
            | (go_at_call 18; (with_reducible refine (q18k _).mono ?_); rintro e v1 ⟨rfl, hb1⟩; have hQ := (hQ.after hb1).lay (.int .i64 X1) (.int .i64 Y1); obtain ⟨w7, hw7⟩ : ∃ w7, v1.alloc (.cells #[.int .i64 X1, .int .i64 Y1] 27) = w7 := ⟨_, rfl⟩; rw [hw7] at hQ; obtain ⟨o0f, o1f, _, _⟩ := hQ.hd; obtain ⟨p0f, p1f, _, _⟩ := hQ.tl.hd; obtain ⟨r0f, r1f, _, _⟩ := hQ.tl.tl.hd; obtain ⟨k0f, k1f⟩ := ek0 _ _ hQ; clear hb1)
            | (go_at_call 18; (with_reducible refine (q18l _).mono ?_); rintro e v1 ⟨rfl, hb1⟩; have hQ := (hQ.after hb1).lay (.int .i64 X2) (.int .i64 Y2); obtain ⟨w7, hw7⟩ : ∃ w7, v1.alloc (.cells #[.int .i64 X2, .int .i64 Y2] 27) = w7 := ⟨_, rfl⟩; rw [hw7] at hQ; obtain ⟨o0f, o1f, _, _⟩ := hQ.hd; obtain ⟨p0f, p1f, _, _⟩ := hQ.tl.hd; obtain ⟨r0f, r1f, _, _⟩ := hQ.tl.tl.hd; obtain ⟨s0f, s1f, _, _⟩ := hQ.tl.tl.tl.hd; obtain ⟨k0f, k1f⟩ := ek0 _ _ hQ; clear hb1)
            | (go_at_call 49; (with_reducible refine (q49k _).mono ?_); rintro e v1 ⟨rfl, hb1⟩; have hQ := hQ.after hb1; obtain ⟨o0f, o1f, _, _⟩ := hQ.hd; obtain ⟨p0f, p1f, _, _⟩ := hQ.tl.hd; obtain ⟨r0f, r1f, _, _⟩ := hQ.tl.tl.hd; obtain ⟨s0f, s1f, _, _⟩ := hQ.tl.tl.tl.hd; clear hb1)
            | (go_at_call 49; (with_reducible refine (q49l _).mono ?_); rintro e v1 ⟨rfl, hb1⟩; have hQ := hQ.after hb1; obtain ⟨o0f, o1f, _, _⟩ := hQ.hd; obtain ⟨p0f, p1f, _, _⟩ := hQ.tl.hd; obtain ⟨r0f, r1f, _, _⟩ := hQ.tl.tl.hd; obtain ⟨s0f, s1f, _, _⟩ := hQ.tl.tl.tl.hd; clear hb1)
            | (go_at_call 46; (with_reducible refine (q46k _).mono ?_); rintro e v1 ⟨rfl, hb1⟩; have hQ := hQ.after hb1; obtain ⟨o0f, o1f, _, _⟩ := hQ.hd; obtain ⟨p0f, p1f, _, _⟩ := hQ.tl.hd; obtain ⟨r0f, r1f, _, _⟩ := hQ.tl.tl.hd; obtain ⟨s0f, s1f, _, _⟩ := hQ.tl.tl.tl.hd; clear hb1)
            | (go_at_call 46; (with_reducible refine (q46l _).mono ?_); rintro e v1 ⟨rfl, hb1⟩; have hQ := hQ.after hb1; obtain ⟨o0f, o1f, _, _⟩ := hQ.hd; obtain ⟨p0f, p1f, _, _⟩ := hQ.tl.hd; obtain ⟨r0f, r1f, _, _⟩ := hQ.tl.tl.hd; obtain ⟨s0f, s1f, _, _⟩ := hQ.tl.tl.tl.hd; clear hb1)
            | (go_at_call 18; (with_reducible refine (q18n _).mono ?_); rintro e v1 ⟨rfl, hb1⟩; have hQ := (hQ.after hb1).lay (.int .i64 X3) (.int .i64 Y3); obtain ⟨w7, hw7⟩ : ∃ w7, v1.alloc (.cells #[.int .i64 X3, .int .i64 Y3] 27) = w7 := ⟨_, rfl⟩; rw [hw7] at hQ; obtain ⟨o0f, o1f, _, _⟩ := hQ.hd; obtain ⟨p0f, p1f, _, _⟩ := hQ.tl.hd; obtain ⟨r0f, r1f, _, _⟩ := hQ.tl.tl.hd; obtain ⟨s0f, s1f, _, _⟩ := hQ.tl.tl.tl.hd; obtain ⟨t0f, t1f, _, _⟩ := hQ.tl.tl.tl.tl.hd; obtain ⟨k0f, k1f⟩ := ek0 _ _ hQ; clear hb1)
            | (go_at_call 18; (with_reducible refine (q18m _).mono ?_); rintro e v1 ⟨rfl, hb1⟩; have hQ := (hQ.after hb1).lay (.int .i64 X4) (.int .i64 Y4); obtain ⟨w7, hw7⟩ : ∃ w7, v1.alloc (.cells #[.int .i64 X4, .int .i64 Y4] 27) = w7 := ⟨_, rfl⟩; rw [hw7] at hQ; obtain ⟨o0f, o1f, _, _⟩ := hQ.hd; obtain ⟨p0f, p1f, _, _⟩ := hQ.tl.hd; obtain ⟨r0f, r1f, _, _⟩ := hQ.tl.tl.hd; obtain ⟨s0f, s1f, _, _⟩ := hQ.tl.tl.tl.hd; obtain ⟨t0f, t1f, _, _⟩ := hQ.tl.tl.tl.tl.hd; obtain ⟨v0f, v1f, _, _⟩ := hQ.tl.tl.tl.tl.tl.hd; obtain ⟨k0f, k1f⟩ := ek0 _ _ hQ; clear hb1)
            | (go_at_call 49; (with_reducible refine (q49n _).mono ?_); rintro e v1 ⟨rfl, hb1⟩; have hQ := hQ.after hb1; obtain ⟨o0f, o1f, _, _⟩ := hQ.hd; obtain ⟨p0f, p1f, _, _⟩ := hQ.tl.hd; obtain ⟨r0f, r1f, _, _⟩ := hQ.tl.tl.hd; obtain ⟨s0f, s1f, _, _⟩ := hQ.tl.tl.tl.hd; obtain ⟨t0f, t1f, _, _⟩ := hQ.tl.tl.tl.tl.hd; obtain ⟨v0f, v1f, _, _⟩ := hQ.tl.tl.tl.tl.tl.hd; clear hb1)
            | (go_at_call 49; (with_reducible refine (q49m _).mono ?_); rintro e v1 ⟨rfl, hb1⟩; have hQ := hQ.after hb1; obtain ⟨o0f, o1f, _, _⟩ := hQ.hd; obtain ⟨p0f, p1f, _, _⟩ := hQ.tl.hd; obtain ⟨r0f, r1f, _, _⟩ := hQ.tl.tl.hd; obtain ⟨s0f, s1f, _, _⟩ := hQ.tl.tl.tl.hd; obtain ⟨t0f, t1f, _, _⟩ := hQ.tl.tl.tl.tl.hd; obtain ⟨v0f, v1f, _, _⟩ := hQ.tl.tl.tl.tl.tl.hd; clear hb1)
            | (go_at_call 46; (with_reducible refine (q46n _).mono ?_); rintro e v1 ⟨rfl, hb1⟩; have hQ := hQ.after hb1; obtain ⟨o0f, o1f, _, _⟩ := hQ.hd; obtain ⟨p0f, p1f, _, _⟩ := hQ.tl.hd; obtain ⟨r0f, r1f, _, _⟩ := hQ.tl.tl.hd; obtain ⟨s0f, s1f, _, _⟩ := hQ.tl.tl.tl.hd; obtain ⟨t0f, t1f, _, _⟩ := hQ.tl.tl.tl.tl.hd; obtain ⟨v0f, v1f, _, _⟩ := hQ.tl.tl.tl.tl.tl.hd; clear hb1)
            | (go_at_call 46; (with_reducible refine (q46m _).mono ?_); rintro e v1 ⟨rfl, hb1⟩; have hQ := hQ.after hb1; obtain ⟨o0f, o1f, _, _⟩ := hQ.hd; obtain ⟨p0f, p1f, _, _⟩ := hQ.tl.hd; obtain ⟨r0f, r1f, _, _⟩ := hQ.tl.tl.hd; obtain ⟨s0f, s1f, _, _⟩ := hQ.tl.tl.tl.hd; obtain ⟨t0f, t1f, _, _⟩ := hQ.tl.tl.tl.tl.hd; obtain ⟨v0f, v1f, _, _⟩ := hQ.tl.tl.tl.tl.tl.hd; clear hb1)
            | (go_at_call 20; (with_reducible refine (awake_any _).mono ?_); rintro e v1 ⟨rfl, hb1⟩; have hQ := hQ.after hb1; clear hb1))
          go_ret
          exact ⟨rfl, hQ.bw⟩
        · subst hnk
          have hlei : (c : Int) ≤ (d : Int) := by omega
          go_wp2_with (first
            | (go_at_call 37; (with_reducible refine (q37 _).mono ?_); rintro e v1 ⟨rfl, hb1⟩; have hQ := hQ.after hb1; obtain ⟨o0f, o1f, _, _⟩ := hQ.hd; obtain ⟨p0f, p1f, _, _⟩ := hQ.tl.hd; obtain ⟨k0f, k1f⟩ := ek0 _ _ hQ; clear hb1)
            | (go_at_call 48; (with_reducible refine (q7 _).mono ?_); rintro e v ⟨rfl, hv⟩; rw [hv]; clear hv v)
            | (go_at_call 48; (with_reducible refine (q8 _).mono ?_); rintro e v ⟨rfl, hv⟩; rw [hv]; clear hv v)
            | (go_at_call 18; (with_reducible refine (q18k _).mono ?_); rintro e v1 ⟨rfl, hb1⟩; have hQ := (hQ.after hb1).lay (.int .i64 X1) (.int .i64 Y1); obtain ⟨w7, hw7⟩ : ∃ w7, v1.alloc (.cells #[.int .i64 X1, .int .i64 Y1] 27) = w7 := ⟨_, rfl⟩; rw [hw7] at hQ; obtain ⟨o0f, o1f, _, _⟩ := hQ.hd; obtain ⟨p0f, p1f, _, _⟩ := hQ.tl.hd; obtain ⟨r0f, r1f, _, _⟩ := hQ.tl.tl.hd; obtain ⟨k0f, k1f⟩ := ek0 _ _ hQ; clear hb1)
            | (go_at_call 18; (with_reducible refine (q18l _).mono ?_); rintro e v1 ⟨rfl, hb1⟩; have hQ := (hQ.after hb1).lay (.int .i64 X2) (.int .i64 Y2); obtain ⟨w7, hw7⟩ : ∃ w7, v1.alloc (.cells #[.int .i64 X2, .int .i64 Y2] 27) = w7 := ⟨_, rfl⟩; rw [hw7] at hQ; obtain ⟨o0f, o1f, _, _⟩ := hQ.hd; obtain ⟨p0f, p1f, _, _⟩ := hQ.tl.hd; obtain ⟨r0f, r1f, _, _⟩ := hQ.tl.tl.hd; obtain ⟨s0f, s1f, _, _⟩ := hQ.tl.tl.tl.hd; obtain ⟨k0f, k1f⟩ := ek0 _ _ hQ; clear hb1)
            | (go_at_call 49; (with_reducible refine (q49k _).mono ?_); rintro e v1 ⟨rfl, hb1⟩; have hQ := hQ.after hb1; obtain ⟨o0f, o1f, _, _⟩ := hQ.hd; obtain ⟨p0f, p1f, _, _⟩ := hQ.tl.hd; obtain ⟨r0f, r1f, _, _⟩ := hQ.tl.tl.hd; obtain ⟨s0f, s1f, _, _⟩ := hQ.tl.tl.tl.hd; clear hb1)
            | (go_at_call 49; (with_reducible refine (q49l _).mono ?_); rintro e v1 ⟨rfl, hb1⟩; have hQ := hQ.after hb1; obtain ⟨o0f, o1f, _, _⟩ := hQ.hd; obtain ⟨p0f, p1f, _, _⟩ := hQ.tl.hd; obtain ⟨r0f, r1f, _, _⟩ := hQ.tl.tl.hd; obtain ⟨s0f, s1f, _, _⟩ := hQ.tl.tl.tl.hd; clear hb1)
            | (go_at_call 46; (with_reducible refine (q46k _).mono ?_); rintro e v1 ⟨rfl, hb1⟩; have hQ := hQ.after hb1; obtain ⟨o0f, o1f, _, _⟩ := hQ.hd; obtain ⟨p0f, p1f, _, _⟩ := hQ.tl.hd; obtain ⟨r0f, r1f, _, _⟩ := hQ.tl.tl.hd; obtain ⟨s0f, s1f, _, _⟩ := hQ.tl.tl.tl.hd; clear hb1)
            | (go_at_call 46; (with_reducible refine (q46l _).mono ?_); rintro e v1 ⟨rfl, hb1⟩; have hQ := hQ.after hb1; obtain ⟨o0f, o1f, _, _⟩ := hQ.hd; obtain ⟨p0f, p1f, _, _⟩ := hQ.tl.hd; obtain ⟨r0f, r1f, _, _⟩ := hQ.tl.tl.hd; obtain ⟨s0f, s1f, _, _⟩ := hQ.tl.tl.tl.hd; clear hb1)
            | (go_at_call 18; (with_reducible refine (q18n _).mono ?_); rintro e v1 ⟨rfl, hb1⟩; have hQ := (hQ.after hb1).lay (.int .i64 X3) (.int .i64 Y3); obtain ⟨w7, hw7⟩ : ∃ w7, v1.alloc (.cells #[.int .i64 X3, .int .i64 Y3] 27) = w7 := ⟨_, rfl⟩; rw [hw7] at hQ; obtain ⟨o0f, o1f, _, _⟩ := hQ.hd; obtain ⟨p0f, p1f, _, _⟩ := hQ.tl.hd; obtain ⟨r0f, r1f, _, _⟩ := hQ.tl.tl.hd; obtain ⟨s0f, s1f, _, _⟩ := hQ.tl.tl.tl.hd; obtain ⟨t0f, t1f, _, _⟩ := hQ.tl.tl.tl.tl.hd; obtain ⟨k0f, k1f⟩ := ek0 _ _ hQ; clear hb1)
            | (go_at_call 18; (with_reducible refine (q18m _).mono ?_); rintro e v1 ⟨rfl, hb1⟩; have hQ := (hQ.after hb1).lay (.int .i64 X4) (.int .i64 Y4); obtain ⟨w7, hw7⟩ : ∃ w7, v1.alloc (.cells #[.int .i64 X4, .int .i64 Y4] 27) = w7 := ⟨_, rfl⟩; rw [hw7] at hQ; obtain ⟨o0f, o1f, _, _⟩ := hQ.hd; obtain ⟨p0f, p1f, _, _⟩ := hQ.tl.hd; obtain ⟨r0f, r1f, _, _⟩ := hQ.tl.tl.hd; obtain ⟨s0f, s1f, _, _⟩ := hQ.tl.tl.tl.hd; obtain ⟨t0f, t1f, _, _⟩ := hQ.tl.tl.tl.tl.hd; obtain ⟨v0f, v1f, _, _⟩ := hQ.tl.tl.tl.tl.tl.hd; obtain ⟨k0f, k1f⟩ := ek0 _ _ hQ; clear hb1)
            | (go_at_call 49; (with_reducible refine (q49n _).mono ?_); rintro e v1 ⟨rfl, hb1⟩; have hQ := hQ.after hb1; obtain ⟨o0f, o1f, _, _⟩ := hQ.hd; obtain ⟨p0f, p1f, _, _⟩ := hQ.tl.hd; obtain ⟨r0f, r1f, _, _⟩ := hQ.tl.tl.hd; obtain ⟨s0f, s1f, _, _⟩ := hQ.tl.tl.tl.hd; obtain ⟨t0f, t1f, _, _⟩ := hQ.tl.tl.tl.tl.hd; obtain ⟨v0f, v1f, _, _⟩ := hQ.tl.tl.tl.tl.tl.hd; clear hb1)
            | (go_at_call 49; (with_reducible refine (q49m _).mono ?_); rintro e v1 ⟨rfl, hb1⟩; have hQ := hQ.after hb1; obtain ⟨o0f, o1f, _, _⟩ := hQ.hd; obtain ⟨p0f, p1f, _, _⟩ := hQ.tl.hd; obtain ⟨r0f, r1f, _, _⟩ := hQ.tl.tl.hd; obtain ⟨s0f, s1f, _, _⟩ := hQ.tl.tl.tl.hd; obtain ⟨t0f, t1f, _, _⟩ := hQ.tl.tl.tl.tl.hd; obtain ⟨v0f, v1f, _, _⟩ := hQ.tl.tl.tl.tl.tl.hd; clear hb1)
            | (go_at_call 46; (with_reducible refine (q46n _).mono ?_); rintro e v1 ⟨rfl, hb1⟩; have hQ := hQ.after hb1; obtain ⟨o0f, o1f, _, _⟩ := hQ.hd; obtain ⟨p0f, p1f, _, _⟩ := hQ.tl.hd; obtain ⟨r0f, r1f, _, _⟩ := hQ.tl.tl.hd; obtain ⟨s0f, s1f, _, _⟩ := hQ.tl.tl.tl.hd; obtain ⟨t0f, t1f, _, _⟩ := hQ.tl.tl.tl.tl.hd; obtain ⟨v0f, v1f, _, _⟩ := hQ.tl.tl.tl.tl.tl.hd; clear hb1)
            | (go_at_call 46; (with_reducible refine (q46m _).mono ?_); rintro e v1 ⟨rfl, hb1⟩; have hQ := hQ.after hb1; obtain ⟨o0f, o1f, _, _⟩ := hQ.hd; obtain ⟨p0f, p1f, _, _⟩ := hQ.tl.hd; obtain ⟨r0f, r1f, _, _⟩ := hQ.tl.tl.hd; obtain ⟨s0f, s1f, _, _⟩ := hQ.tl.tl.tl.hd; obtain ⟨t0f, t1f, _, _⟩ := hQ.tl.tl.tl.tl.hd; obtain ⟨v0f, v1f, _, _⟩ := hQ.tl.tl.tl.tl.tl.hd; clear hb1)
            | (go_at_call 20; (with_reducible refine (awake_any _).mono ?_); rintro e v1 ⟨rfl, hb1⟩; have hQ := hQ.after hb1; clear hb1))
          go_ret
          exact ⟨rfl, hQ.bw⟩
end Go.Proofs.Ytbmfipjnfbnjgaa
