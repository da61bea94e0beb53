/- The law SharesSmallest: its walk. -/
import Derived.Test.YtbocmbhinjkjlaaFvReg
set_option linter.unusedSimpArgs false
set_option linter.unusedVariables false
namespace Go.Proofs.Ytbocmbhinjkjlaa
open Go Go.Proofs Go.RowKit Go.Seq Go.Sort
/-- One variable floats: made by operation A, stored into by C. -/
structure Fv1 (W0 : World) (A C : Nat) (m0 m1 : Int) (t : Nat → Bool) (p7 : Nat) (W : World) : Prop where
  bw : Below W0.heap.size W0 W
  a7 : t A = true → W0.heap.size ≤ p7 ∧ BlkAt W p7 (if t C = true then #[.int .i64 m0, .int .i64 m1] else #[.int .i64 0, .int .i64 0]) 37
  d8 : t C = true → t A = true
section
variable {W0 W W' : World} {A C : Nat} {m0 m1 : Int} {t : Nat → Bool} {p7 : Nat}
theorem Fv1.start (hA : t A = false) (hC : t C = false) : Fv1 W0 A C m0 m1 t p7 W0.drew :=
  ⟨(Below.refl _ _).drew, (fun e => by rw [hA] at e; cases e), (fun e => by rw [hC] at e; cases e)⟩
theorem Fv1.keep {i : Nat} (h6 : i ≠ A) (h8 : i ≠ C) (h : Fv1 W0 A C m0 m1 t p7 W) : Fv1 W0 A C m0 m1 (Manyd.upd t i) p7 W :=
  ⟨h.bw, by rw [upd_off h6, upd_off h8]; exact h.a7, by rw [upd_off h8, upd_off h6]; exact h.d8⟩
theorem Fv1.after (h : Fv1 W0 A C m0 m1 t p7 W) (hb : Below W.heap.size W W') : Fv1 W0 A C m0 m1 t p7 W' :=
  ⟨h.bw.trans (hb.mono h.bw.size), fun k => ⟨(h.a7 k).1, (h.a7 k).2.after hb⟩, h.d8⟩
theorem Fv1.alloc7 (x : A ≠ C) (h : Fv1 W0 A C m0 m1 t p7 W) (hun : t A = false) : Fv1 W0 A C m0 m1 (Manyd.upd t A) W.heap.size (W.alloc (.cells #[.int .i64 0, .int .i64 0] 37)) := by
  have n8 : t C = false := by
    cases e : t C with
    | false => rfl
    | true => rw [h.d8 e] at hun; cases hun
  have h' := h.after ((Below.refl _ _).alloc (Nat.le_refl _) (.cells #[.int .i64 0, .int .i64 0] 37))
  refine ⟨h'.bw, fun _ => ⟨h.bw.size, ?_⟩, ?_⟩
  · rw [upd_off x, n8]; exact BlkAt.new _ _ _
  · rw [upd_off x, n8]; intro e; cases e
theorem Fv1.own7 (h : Fv1 W0 A C m0 m1 t p7 W) (k : t A = true) (hun : t C = false) : Own2 W p7 (.int .i64 0) (.int .i64 0) := by
  have := (h.a7 k).2
  rw [hun] at this
  exact Own2.of this
theorem Fv1.set7 (x : A ≠ C) (h : Fv1 W0 A C m0 m1 t p7 W) (k : t A = true) (hun : t C = false) : Fv1 W0 A C m0 m1 (Manyd.upd t C) p7 ((W.setCell ⟨p7, 0, none⟩ (.int .i64 m0)).setCell ⟨p7, 1, none⟩ (.int .i64 m1)) := by
  obtain ⟨g7, b7⟩ := h.a7 k
  rw [hun] at b7
  refine ⟨(h.bw.setCell (p := ⟨p7, 0, none⟩) g7 _).setCell (p := ⟨p7, 1, none⟩) g7 _, fun _ => ⟨g7, ?_⟩, fun _ => ?_⟩
  · rw [if_pos upd_on]; exact (b7.set 0 _).set 1 _
  · rw [upd_off x.symm]; exact k
end
/-- Four variables above what was. -/
structure Q4 (wa : World) (G0 p q r s : Nat) (a b c d : Int × Int) (W : World) : Prop where
  bw : Below G0 wa W
  size : G0 ≤ W.heap.size
  p : BlkAt W p #[.int .i64 a.1, .int .i64 a.2] 37
  q : BlkAt W q #[.int .i64 b.1, .int .i64 b.2] 37
  r : BlkAt W r #[.int .i64 c.1, .int .i64 c.2] 37
  s : BlkAt W s #[.int .i64 d.1, .int .i64 d.2] 37
structure Nq (G0 p q r s : Nat) : Prop where
  np : G0 ≤ p
  nq : G0 ≤ q
  nr : G0 ≤ r
  ns : G0 ≤ s
  pq : p ≠ q
  pr : p ≠ r
  ps : p ≠ s
  qr : q ≠ r
  qs : q ≠ s
  rs : r ≠ s
section
variable {wa W W' : World} {G0 p q r s : Nat} {a b c d : Int × Int}
theorem Q4.after (h : Q4 wa G0 p q r s a b c d W) (hb : Below W.heap.size W W') : Q4 wa G0 p q r s a b c d W' :=
  ⟨h.bw.trans (hb.mono h.size), Nat.le_trans h.size hb.size, h.p.after hb, h.q.after hb, h.r.after hb, h.s.after hb⟩
theorem Q4.setP (n : Nq G0 p q r s) (h : Q4 wa G0 p q r s a b c d W) (x y : Int) : Q4 wa G0 p q r s (x, y) b c d ((W.setCell ⟨p, 0, none⟩ (.int .i64 x)).setCell ⟨p, 1, none⟩ (.int .i64 y)) :=
  ⟨(h.bw.setCell (p := ⟨p, 0, none⟩) n.np _).setCell (p := ⟨p, 1, none⟩) n.np _, by simpa [World.setCell] using h.size, (h.p.set 0 _).set 1 _,
   (h.q.other (p := ⟨p, 0, none⟩) (by exact n.pq.symm) _).other (p := ⟨p, 1, none⟩) (by exact n.pq.symm) _, (h.r.other (p := ⟨p, 0, none⟩) (by exact n.pr.symm) _).other (p := ⟨p, 1, none⟩) (by exact n.pr.symm) _, (h.s.other (p := ⟨p, 0, none⟩) (by exact n.ps.symm) _).other (p := ⟨p, 1, none⟩) (by exact n.ps.symm) _⟩
theorem Q4.setQ (n : Nq G0 p q r s) (h : Q4 wa G0 p q r s a b c d W) (x y : Int) : Q4 wa G0 p q r s a (x, y) c d ((W.setCell ⟨q, 0, none⟩ (.int .i64 x)).setCell ⟨q, 1, none⟩ (.int .i64 y)) :=
  ⟨(h.bw.setCell (p := ⟨q, 0, none⟩) n.nq _).setCell (p := ⟨q, 1, none⟩) n.nq _, by simpa [World.setCell] using h.size,
   (h.p.other (p := ⟨q, 0, none⟩) (by exact n.pq) _).other (p := ⟨q, 1, none⟩) (by exact n.pq) _, (h.q.set 0 _).set 1 _, (h.r.other (p := ⟨q, 0, none⟩) (by exact n.qr.symm) _).other (p := ⟨q, 1, none⟩) (by exact n.qr.symm) _, (h.s.other (p := ⟨q, 0, none⟩) (by exact n.qs.symm) _).other (p := ⟨q, 1, none⟩) (by exact n.qs.symm) _⟩
theorem Q4.setR (n : Nq G0 p q r s) (h : Q4 wa G0 p q r s a b c d W) (x y : Int) : Q4 wa G0 p q r s a b (x, y) d ((W.setCell ⟨r, 0, none⟩ (.int .i64 x)).setCell ⟨r, 1, none⟩ (.int .i64 y)) :=
  ⟨(h.bw.setCell (p := ⟨r, 0, none⟩) n.nr _).setCell (p := ⟨r, 1, none⟩) n.nr _, by simpa [World.setCell] using h.size,
   (h.p.other (p := ⟨r, 0, none⟩) (by exact n.pr) _).other (p := ⟨r, 1, none⟩) (by exact n.pr) _, (h.q.other (p := ⟨r, 0, none⟩) (by exact n.qr) _).other (p := ⟨r, 1, none⟩) (by exact n.qr) _, (h.r.set 0 _).set 1 _, (h.s.other (p := ⟨r, 0, none⟩) (by exact n.rs.symm) _).other (p := ⟨r, 1, none⟩) (by exact n.rs.symm) _⟩
theorem Q4.setS (n : Nq G0 p q r s) (h : Q4 wa G0 p q r s a b c d W) (x y : Int) : Q4 wa G0 p q r s a b c (x, y) ((W.setCell ⟨s, 0, none⟩ (.int .i64 x)).setCell ⟨s, 1, none⟩ (.int .i64 y)) :=
  ⟨(h.bw.setCell (p := ⟨s, 0, none⟩) n.ns _).setCell (p := ⟨s, 1, none⟩) n.ns _, by simpa [World.setCell] using h.size,
   (h.p.other (p := ⟨s, 0, none⟩) (by exact n.ps) _).other (p := ⟨s, 1, none⟩) (by exact n.ps) _, (h.q.other (p := ⟨s, 0, none⟩) (by exact n.qs) _).other (p := ⟨s, 1, none⟩) (by exact n.qs) _, (h.r.other (p := ⟨s, 0, none⟩) (by exact n.rs) _).other (p := ⟨s, 1, none⟩) (by exact n.rs) _, (h.s.set 0 _).set 1 _⟩
end
theorem AwM.two {W : World} {G n : Nat} {r : Nat} {zs : List Int} {E N L : Int} (h : AwM W (.slice (some ⟨G, 0, none⟩) n n) r zs E N L) {k : Nat} (hk : k < zs.length) : W.cell? ⟨G, k * 2, none⟩ = some (.int .i64 (redN (awX r zs.sum E N L (zs.getD k 0)) (awD r zs.sum N))) ∧ W.cell? ⟨G, k * 2 + 1, none⟩ = some (.int .i64 (redD (awX r zs.sum E N L (zs.getD k 0)) (awD r zs.sum N))) := by
  obtain ⟨g, o, e, h1, h2⟩ := h.at hk
  injection e with e
  injection e with e1 e2
  subst e1 e2
  rw [Nat.zero_add] at h1 h2
  exact ⟨h1, h2⟩
def rp (p q : Int) : Int × Int := (redN p q, redD p q)
/-- The least one of the values f of the first j elements, or of k itself: k has it. -/
structure Lst (l : List Int) (f : Int → Int) (j : Nat) (k : Int) : Prop where
  mem : k ∈ l
  low : ∀ i, i < j → f k ≤ f (l.getD i 0)
theorem Lst.start {l : List Int} {f : Int → Int} (h : 0 < l.length) : Lst l f 0 (l.getD 0 0) := ⟨getz h, fun i hi => by omega⟩
theorem Lst.old {l : List Int} {f : Int → Int} {j : Nat} {k : Int} (h : Lst l f j k) (hc : f k ≤ f (l.getD j 0)) : Lst l f (j + 1) k := ⟨h.mem, fun i hi => by
  rcases Nat.lt_or_ge i j with hh | hh
  · exact h.low i hh
  · rw [show i = j by omega]; exact hc⟩
theorem Lst.new {l : List Int} {f : Int → Int} {j : Nat} {k : Int} (h : Lst l f j k) (hj : j < l.length) (hc : f (l.getD j 0) ≤ f k) : Lst l f (j + 1) (l.getD j 0) := ⟨getz hj, fun i hi => by
  rcases Nat.lt_or_ge i j with hh | hh
  · have := h.low i hh; omega
  · rw [show i = j by omega]; exact Int.le_refl _⟩
theorem Lst.all {l : List Int} {f : Int → Int} {k : Int} (h : Lst l f l.length k) : ∀ z ∈ l, f k ≤ f z := fun z hz => by
  obtain ⟨i, hi, rfl⟩ := get_mem hz
  exact h.low i hi
theorem sub_bd {r : Nat} {zs : List Int} {E N L c : Int} (hr : r ≤ 4) (hV : Valid zs) (hE : 0 ≤ E ∧ E ≤ zs.sum) (h : LevR r zs E N L) (hc : c ∈ zs) : Bd (c * awD r zs.sum N - awX r zs.sum E N L c) (awD r zs.sum N) := by
  have h1 := aw_bd hr hV hE h hc
  have h2 := awX_in (E := E) (L := L) (c := c) hr hE h.n1 h.l0 (hV.2.2 c hc).1
  have h3 := mul_in (a := c) (b := awD r zs.sum N) (A := 1000) (B := 10000) (hV.2.2 c hc).1 (hV.2.2 c hc).2 (by omega) (by omega)
  exact ⟨by omega, by omega, by omega, by omega⟩
theorem sub_call {r : Nat} {zs : List Int} {E N L c : Int} (hr : r ≤ 4) (hV : Valid zs) (hE : 0 ≤ E ∧ E ≤ zs.sum) (h : LevR r zs E N L) (hc : c ∈ zs) (w : World) : Calls Try.prog 58 #[fracV c 1, redV (awX r zs.sum E N L c) (awD r zs.sum N)] w fun e w' => e = .returned (redV (c * awD r zs.sum N - awX r zs.sum E N L c) (awD r zs.sum N)) ∧ Below w.heap.size w w' := by
  have hzb := hV.2.2 c hc
  have q := refSub_red (p := c) (q := 1) ⟨by omega, by omega, by omega, by omega⟩ (aw_Bd hr hV hE h hc) w
  rw [redV_one, Int.mul_one, Int.one_mul] at q
  exact q
theorem same_less {x y D : Int} (hD : 1 ≤ D) : decide (x * D < y * D) = decide (x < y) := by
  by_cases h : x < y
  · rw [decide_eq_true h, decide_eq_true (Int.mul_lt_mul_of_pos_right h (by omega))]
  · rw [decide_eq_false h, decide_eq_false (by have := Int.mul_le_mul_of_nonneg_right (show y ≤ x by omega) (show 0 ≤ D by omega); omega)]
set_option maxHeartbeats 8000000 in
set_option maxRecDepth 100000 in
theorem smallLaw_any {v : Value} {zs : List Int} {E R : Int} {w : World} (hv : IntsO w v zs) :
    Calls Try.prog 13 #[v, .int .i64 E, .int .i64 R] w fun e w' => e = .returned (.bool true) ∧ Below w.heap.size w w' := by
  have hvK := Keep.mk hv
  obtain ⟨A0, cap0, rfl, -⟩ := hv
  generalize zs.length = n0 at *
  have q57 := fun w => mod_bI R (m := 5) (by omega) (by omega) w
  have hr5 := modN_lt R (m := 5) (by omega)
  obtain ⟨r, hr⟩ : ∃ r, Keep (modN R 5 = r) := ⟨_, ⟨rfl⟩⟩
  rw [hr.out] at q57 hr5
  rw [show (((5 : Nat)) : Int) = 5 from rfl] at q57
  have hr4 : r ≤ 4 := by omega
  clear hr hr5
  go_enter Try.func13, Try.ntmps13
  go_wp2_with (first
    | (go_at_call 55; (with_reducible refine (tame_both hvK.out).mono ?_); rintro e w1 ⟨v', F, rfl, ho, hF, hb1⟩
       have hV := tameL_valid zs
       obtain ⟨l, hl⟩ : ∃ l, tameL zs = l := ⟨_, rfl⟩
       rw [hl] at ho hF hV
       clear hl hvK
       have hoK := Keep.mk ho
       obtain ⟨A, cap, rfl, hcell⟩ := ho
       have hcK := Keep.mk hcell
       obtain ⟨n, hn⟩ : ∃ n, Keep (l.length = n) := ⟨_, ⟨rfl⟩⟩
       rw [hn.out] at hoK ⊢
       have hVK := Keep.mk hV
       have hEK := Keep.mk hF
       have hn10 : n ≤ 10 := by have := hV.2.1; have := hn.out; omega
       have hn1 : 1 ≤ n := by have := hV.1; have := hn.out; omega
       have q1 := fun W (hb : Below w1.heap.size w1 W) => show Calls Try.prog 22 #[.int .i64 1, .slice A l.length cap, .int .i64 F] W _ from awardM (r := 1) (w := W) (by omega) (intsO_below (by rw [hn.out]; exact hoK.out) hb) hVK.out hEK.out
       have q2 := fun W (hb : Below w1.heap.size w1 W) => show Calls Try.prog 22 #[.int .i64 2, .slice A l.length cap, .int .i64 F] W _ from awardM (r := 2) (w := W) (by omega) (intsO_below (by rw [hn.out]; exact hoK.out) hb) hVK.out hEK.out
       have q3 := fun W (hb : Below w1.heap.size w1 W) => show Calls Try.prog 22 #[.int .i64 (r : Nat), .slice A l.length cap, .int .i64 F] W _ from awardM (r := r) (w := W) hr4 (intsO_below (by rw [hn.out]; exact hoK.out) hb) hVK.out hEK.out
       rw [hn.out] at q1 q2 q3
       clear hV hF hcell)
    | (go_at_call 22; (with_reducible refine (q1 _ (Below.refl _ _)).mono ?_); rintro e w5 ⟨G1, N1, L1, rfl, m1, hG1, hb15⟩)
    | (go_at_call 22; (with_reducible refine (q2 _ hb15).mono ?_); rintro e w6 ⟨G2, N2, L2, rfl, m2, hG2, hb6⟩
       have hb16 := hb15.trans (hb6.mono hb15.size)
       have m1 := m1.after hb6
       clear hb6)
    | (go_at_call 57; (with_reducible refine (q57 _).mono ?_); rintro e w7 ⟨rfl, hb7⟩
       have hb17 := hb16.trans (hb7.mono hb16.size)
       have m1 := m1.after hb7
       have m2 := m2.after hb7
       clear hb7)
    | (go_at_call 22; (with_reducible refine (q3 _ hb17).mono ?_); rintro e w8 ⟨G3, N3, L3, rfl, m3, hG3, hb8⟩
       have hb18 := hb17.trans (hb8.mono hb17.size)
       have m1 := m1.after hb8
       have m2 := m2.after hb8
       have qf1 := fun W (hb : Below w8.heap.size w8 W) => fitM (by omega) hVK.out hEK.out (m1.after hb)
       have qf2 := fun W (hb : Below w8.heap.size w8 W) => fitM (by omega) hVK.out hEK.out (m2.after hb)
       have qf3 := fun W (hb : Below w8.heap.size w8 W) => fitM hr4 hVK.out hEK.out (m3.after hb)
       clear hb8)
    | (go_at_call 56; (with_reducible refine (qf1 _ (Below.refl _ _)).mono ?_); rintro e w9 ⟨rfl, hb9⟩)
    | (go_at_call 56; (with_reducible refine (qf2 _ hb9).mono ?_); rintro e w10 ⟨rfl, hb10⟩
       have hb10 := hb9.trans (hb10.mono hb9.size))
    | (go_at_call 56; (with_reducible refine (qf3 _ hb10).mono ?_); rintro e w11 ⟨rfl, hb11⟩
       have hb11 := hb10.trans (hb11.mono hb10.size)
       have m1 := m1.after hb11
       have m2 := m2.after hb11
       have m3 := m3.after hb11
       have hb1b := hb18.trans (hb11.mono hb18.size)
       clear qf1 qf2 qf3 hb9 hb10 hb11 hb15 hb16 hb17 hb18 q1 q2 q3 q57))
  have lv1 := Keep.mk m1.lev
  have lv2 := Keep.mk m2.lev
  have lv3 := Keep.mk m3.lev
  have hM1 := fun W (hb : Below w11.heap.size w11 W) => m1.after hb
  have hM2 := fun W (hb : Below w11.heap.size w11 W) => m2.after hb
  have hM3 := fun W (hb : Below w11.heap.size w11 W) => m3.after hb
  clear m1 m2 m3
  obtain ⟨S, hS⟩ : ∃ S, Keep (l.sum = S) := ⟨_, ⟨rfl⟩⟩
  obtain ⟨fa, hfa⟩ : ∃ f : Int → Int, Keep (∀ c, awX 1 l.sum F N1 L1 c = f c) := ⟨_, ⟨fun _ => rfl⟩⟩
  obtain ⟨fb, hfb⟩ : ∃ f : Int → Int, Keep (∀ c, awX 2 l.sum F N2 L2 c = f c) := ⟨_, ⟨fun _ => rfl⟩⟩
  obtain ⟨fc, hfc⟩ : ∃ f : Int → Int, Keep (∀ c, awX r l.sum F N3 L3 c = f c) := ⟨_, ⟨fun _ => rfl⟩⟩
  obtain ⟨D1, hD1⟩ : ∃ D, Keep (awD 1 l.sum N1 = D) := ⟨_, ⟨rfl⟩⟩
  obtain ⟨D2, hD2⟩ : ∃ D, Keep (awD 2 l.sum N2 = D) := ⟨_, ⟨rfl⟩⟩
  obtain ⟨D3, hD3⟩ : ∃ D, Keep (awD r l.sum N3 = D) := ⟨_, ⟨rfl⟩⟩
  have hA : ∀ k, k < n → ∀ W, Below w11.heap.size w11 W → W.cell? ⟨G1, k * 2, none⟩ = some (.int .i64 (redN (fa (l.getD k 0)) D1)) ∧ W.cell? ⟨G1, k * 2 + 1, none⟩ = some (.int .i64 (redD (fa (l.getD k 0)) D1)) := fun k hk W hb => by
    have := (hM1 W hb).two (k := k) (by have := hn.out; omega)
    rwa [hfa.out, hD1.out] at this
  have hB : ∀ k, k < n → ∀ W, Below w11.heap.size w11 W → W.cell? ⟨G2, k * 2, none⟩ = some (.int .i64 (redN (fb (l.getD k 0)) D2)) ∧ W.cell? ⟨G2, k * 2 + 1, none⟩ = some (.int .i64 (redD (fb (l.getD k 0)) D2)) := fun k hk W hb => by
    have := (hM2 W hb).two (k := k) (by have := hn.out; omega)
    rwa [hfb.out, hD2.out] at this
  have hC : ∀ k, k < n → ∀ W, Below w11.heap.size w11 W → W.cell? ⟨G3, k * 2, none⟩ = some (.int .i64 (redN (fc (l.getD k 0)) D3)) ∧ W.cell? ⟨G3, k * 2 + 1, none⟩ = some (.int .i64 (redD (fc (l.getD k 0)) D3)) := fun k hk W hb => by
    have := (hM3 W hb).two (k := k) (by have := hn.out; omega)
    rwa [hfc.out, hD3.out] at this
  have bA : Keep (∀ c ∈ l, Bd (fa c) D1) := ⟨fun c hc => by have := aw_Bd (by omega) hVK.out hEK.out lv1.out hc; rwa [hfa.out, hD1.out] at this⟩
  have bC : Keep (∀ c ∈ l, Bd (fc c) D3) := ⟨fun c hc => by have := aw_Bd hr4 hVK.out hEK.out lv3.out hc; rwa [hfc.out, hD3.out] at this⟩
  have bL : Keep (∀ c ∈ l, Bd (c * D2 - fb c) D2) := ⟨fun c hc => by have := sub_bd (by omega) hVK.out hEK.out lv2.out hc; rwa [hfb.out, hD2.out] at this⟩
  have bM : Keep (∀ c ∈ l, Bd (c * D3 - fc c) D3) := ⟨fun c hc => by have := sub_bd hr4 hVK.out hEK.out lv3.out hc; rwa [hfc.out, hD3.out] at this⟩
  have q58b : Keep (∀ c ∈ l, ∀ w, Calls Try.prog 58 #[fracV c 1, redV (fb c) D2] w fun e w' => e = .returned (redV (c * D2 - fb c) D2) ∧ Below w.heap.size w w') := ⟨fun c hc w => by have := sub_call (by omega) hVK.out hEK.out lv2.out hc w; rwa [hfb.out, hD2.out] at this⟩
  have q58c : Keep (∀ c ∈ l, ∀ w, Calls Try.prog 58 #[fracV c 1, redV (fc c) D3] w fun e w' => e = .returned (redV (c * D3 - fc c) D3) ∧ Below w.heap.size w w') := ⟨fun c hc w => by have := sub_call hr4 hVK.out hEK.out lv3.out hc w; rwa [hfc.out, hD3.out] at this⟩
  have hz : ∀ k, k < n → ∃ gz oz, A = some ⟨gz, oz, none⟩ ∧ ∀ W, Below w11.heap.size w11 W → W.cell? ⟨gz, oz + k, none⟩ = some (.int .i64 (l.getD k 0)) := fun k hk => by
    obtain ⟨gz, oz, e, h⟩ := hcK.out k (by have := hn.out; omega)
    exact ⟨gz, oz, e, fun W hb => cell_below h (hb1b.trans (hb.mono hb1b.size))⟩
  have hw11 := Keep.mk (hb1.trans (hb1b.mono hb1.size))
  have hSm : Keep (∀ k ∈ l, ∃ z ∈ l, fc z * D1 ≤ fa k * D3) := ⟨fun k hk => by
    have hl := lv1.out.lev (by omega)
    have := small_math (D := D3) (X := fc) hl (by rw [← hD3.out]; exact awD_one lv3.out.n1) (fun z hz => by
      have := (awX_in (E := F) (N := N3) (L := L3) (c := z) hr4 hEK.out lv3.out.n1 lv3.out.l0 (hVK.out.2.2 z hz).1).2
      rwa [hfc.out, hD3.out] at this) (by
      have := aw_sum lv3.out hEK.out hr4
      rw [hD3.out] at this
      rw [show fc = fun c => awX r l.sum F N3 L3 c from funext fun c => (hfc.out c).symm]; exact this) hk
    obtain ⟨z, hz, h⟩ := this
    exact ⟨z, hz, by rw [← hfa.out, ← hD1.out]; exact h⟩⟩
  have hLo : Keep (∀ k ∈ l, ∃ z ∈ l, (k * D2 - fb k) * D3 ≤ (z * D3 - fc z) * D2) := ⟨fun k hk => by
    have hl : Lev l (l.sum - F) N2 L2 := lv2.out.lev (by omega)
    have := loss_math (D := D3) (X := fc) hl (by rw [← hD3.out]; exact awD_one lv3.out.n1) (fun z hz => by
      have := (awX_in (E := F) (N := N3) (L := L3) (c := z) hr4 hEK.out lv3.out.n1 lv3.out.l0 (hVK.out.2.2 z hz).1).1
      rwa [hfc.out] at this) (by
      have := aw_sum lv3.out hEK.out hr4
      rw [hD3.out] at this
      rw [show fc = fun c => awX r l.sum F N3 L3 c from funext fun c => (hfc.out c).symm]; exact this) hk
    obtain ⟨z, hz, h⟩ := this
    have e2 : k * D2 - fb k = mnI (k * N2) L2 := by
      rw [← hfb.out, ← hD2.out]
      show k * N2 - (k * N2 - mnI (k * N2) L2) = _
      omega
    exact ⟨z, hz, by rw [e2, ← hD2.out]; exact h⟩⟩
  clear hM1 hM2 hM3 hfa hfb hfc hD1 hD2 hD3 lv1 lv2 lv3 hcK hoK hVK hEK hS hb1b hb1
  have hn0 : ¬ n = 0 := by omega
  obtain ⟨gz, oz, rfl, hz0⟩ := hz 0 (by omega)
  obtain ⟨z0, hz0e⟩ : ∃ z, Keep (l.getD 0 0 = z) := ⟨_, ⟨rfl⟩⟩
  have hzm := getz (zs := l) (k := 0) (by have := hn.out; omega)
  have hA0 := hA 0 (by omega)
  have hB0 := hB 0 (by omega)
  have hC0 := hC 0 (by omega)
  have hLst : ∀ f, Keep (Lst l f 0 z0) := fun f => ⟨by rw [← hz0e.out]; exact Lst.start (by have := hn.out; omega)⟩
  rw [hz0e.out] at hA0 hB0 hC0 hz0 hzm
  simp only [Nat.zero_mul, Nat.zero_add] at hA0 hB0 hC0
  simp only [Nat.add_zero] at hz0
  obtain ⟨a0, ha0⟩ : ∃ z, Keep (redN (fa z0) D1 = z) := ⟨_, ⟨rfl⟩⟩
  obtain ⟨a1, ha1⟩ : ∃ z, Keep (redD (fa z0) D1 = z) := ⟨_, ⟨rfl⟩⟩
  obtain ⟨ib0, hb0⟩ : ∃ z, Keep (redN (fb z0) D2 = z) := ⟨_, ⟨rfl⟩⟩
  obtain ⟨ib1, hb1⟩ : ∃ z, Keep (redD (fb z0) D2 = z) := ⟨_, ⟨rfl⟩⟩
  obtain ⟨cc0, hc0⟩ : ∃ z, Keep (redN (fc z0) D3 = z) := ⟨_, ⟨rfl⟩⟩
  obtain ⟨cc1, hc1⟩ : ∃ z, Keep (redD (fc z0) D3 = z) := ⟨_, ⟨rfl⟩⟩
  obtain ⟨il0, hl0⟩ : ∃ z, Keep (redN (z0 * D2 - fb z0) D2 = z) := ⟨_, ⟨rfl⟩⟩
  obtain ⟨il1, hl1⟩ : ∃ z, Keep (redD (z0 * D2 - fb z0) D2 = z) := ⟨_, ⟨rfl⟩⟩
  obtain ⟨im0, hm0⟩ : ∃ z, Keep (redN (z0 * D3 - fc z0) D3 = z) := ⟨_, ⟨rfl⟩⟩
  obtain ⟨im1, hm1⟩ : ∃ z, Keep (redD (z0 * D3 - fc z0) D3 = z) := ⟨_, ⟨rfl⟩⟩
  have qb := q58b.out z0 hzm
  have qc := q58c.out z0 hzm
  have q29 := fun w => refWhole_any z0 w
  unfold redV fracV at qb qc
  unfold fracV at q29
  rw [ha0.out, ha1.out] at hA0
  rw [hb0.out, hb1.out] at hB0 qb
  rw [hc0.out, hc1.out] at hC0 qc
  rw [hl0.out, hl1.out] at qb
  rw [hm0.out, hm1.out] at qc
  refine (wpIn_wide (n := 0)).1 ?_
  refine Inv.region_inv (fun t act W => ∃ p7, ∃ p8, act = { tmps := #[Value.slice A0 n0 cap0, Value.int IntKind.i64 F, Value.int IntKind.i64 R, undef, undef, undef, Value.bool false, Value.slice (some ⟨gz, oz, none⟩) n cap, Value.slice (some ⟨G1, 0, none⟩) n n, Value.int IntKind.i64 0, Value.slice (some ⟨G2, 0, none⟩) n n, Value.int IntKind.i64 0, Value.slice (some ⟨G3, 0, none⟩) n n, Value.int IntKind.i64 0, if t 6 = true then .pointer (some ⟨p7, 0, none⟩) else undef, if t 7 = true then .pointer (some ⟨p8, 0, none⟩) else undef, undef, undef, undef, undef, undef, Value.tuple #[Value.slice (some ⟨gz, oz, none⟩) n cap, Value.int IntKind.i64 F], Value.slice A0 n0 cap0, Value.int IntKind.i64 E, Value.tuple #[Value.slice (some ⟨gz, oz, none⟩) n cap, Value.int IntKind.i64 F], Value.slice (some ⟨gz, oz, none⟩) n cap, Value.int IntKind.i64 F, Value.tuple #[Value.slice (some ⟨G1, 0, none⟩) n n, Value.int IntKind.i64 0], Value.slice (some ⟨gz, oz, none⟩) n cap, Value.int IntKind.i64 F, Value.tuple #[Value.slice (some ⟨G1, 0, none⟩) n n, Value.int IntKind.i64 0], Value.slice (some ⟨G1, 0, none⟩) n n, Value.int IntKind.i64 0, Value.tuple #[Value.slice (some ⟨G2, 0, none⟩) n n, Value.int IntKind.i64 0], Value.slice (some ⟨gz, oz, none⟩) n cap, Value.int IntKind.i64 F, Value.tuple #[Value.slice (some ⟨G2, 0, none⟩) n n, Value.int IntKind.i64 0], Value.slice (some ⟨G2, 0, none⟩) n n, Value.int IntKind.i64 0, Value.tuple #[Value.slice (some ⟨G3, 0, none⟩) n n, Value.int IntKind.i64 0], Value.int IntKind.i64 R, Value.int IntKind.i64 (r : Nat), Value.slice (some ⟨gz, oz, none⟩) n cap, Value.int IntKind.i64 F, Value.tuple #[Value.slice (some ⟨G3, 0, none⟩) n n, Value.int IntKind.i64 0], Value.slice (some ⟨G3, 0, none⟩) n n, Value.int IntKind.i64 0, Value.int IntKind.i64 0, Value.bool false, Value.bool false, Value.int IntKind.i64 0, Value.bool false, Value.bool false, Value.bool false, Value.int IntKind.i64 0, Value.bool false, Value.bool false, Value.bool false, Value.slice (some ⟨G1, 0, none⟩) n n, Value.int IntKind.i64 (n : Nat), Value.slice (some ⟨gz, oz, none⟩) n cap, Value.int IntKind.i64 (n : Nat), Value.bool false, Value.bool false, Value.bool false, Value.slice (some ⟨G2, 0, none⟩) n n, Value.int IntKind.i64 (n : Nat), Value.slice (some ⟨gz, oz, none⟩) n cap, Value.int IntKind.i64 (n : Nat), Value.bool false, Value.bool false, Value.bool false, Value.slice (some ⟨G3, 0, none⟩) n n, Value.int IntKind.i64 (n : Nat), Value.slice (some ⟨gz, oz, none⟩) n cap, Value.int IntKind.i64 (n : Nat), Value.bool false, Value.bool false, Value.bool false, Value.slice (some ⟨G1, 0, none⟩) n n, Value.bool true, Value.bool false, Value.bool false, Value.bool false, Value.slice (some ⟨G2, 0, none⟩) n n, Value.bool true, Value.bool false, Value.bool false, Value.bool false, Value.slice (some ⟨G3, 0, none⟩) n n, Value.bool true, Value.bool false, Value.bool false, if t 0 = true then .slice (some ⟨G1, 0, none⟩) n n else undef, if t 1 = true then .pointer (some ⟨G1, 0, none⟩) else undef, if t 2 = true then .agg #[.int .i64 a0, .int .i64 a1] else undef, if t 3 = true then .slice (some ⟨G3, 0, none⟩) n n else undef, if t 4 = true then .pointer (some ⟨G3, 0, none⟩) else undef, if t 5 = true then .agg #[.int .i64 cc0, .int .i64 cc1] else undef, undef, undef, undef, undef, undef, undef, undef, undef, undef, undef, undef, undef, undef, undef, undef, undef, undef, undef, undef, undef, undef, undef, undef, undef, undef, undef, undef, undef, undef, undef, undef, undef, undef, undef, undef, undef, undef, undef, undef, undef, undef, undef, undef, undef, undef, undef, undef, undef, undef, undef, undef, undef, undef, undef, undef, undef, undef, undef, undef, undef, undef, undef, undef, undef, undef, undef, undef, undef, undef, undef, undef, undef, undef, undef, undef, undef, undef, undef, undef, undef, undef, undef, undef], defers := [] } ∧ FvI w11 6 7 8 9 a0 a1 cc0 cc1 t p7 p8 W) mixed_ok (by kernel_rfl) ?_ ?_ ?_
  · intro t hs
    refine ⟨0, 0, ?_, FvI.start (hs 6 (by decide)) (hs 7 (by decide)) (hs 8 (by decide)) (hs 9 (by decide))⟩
    simp only [hs 0 (by decide), hs 1 (by decide), hs 2 (by decide), hs 3 (by decide), hs 4 (by decide), hs 5 (by decide), hs 6 (by decide), hs 7 (by decide), hs 8 (by decide), hs 9 (by decide), Bool.false_eq_true, if_false]
  · refine ⟨?_, ?_, ?_, ?_, ?_, ?_, ?_, ?_, ?_, ?_, trivial⟩
    · rintro t act W hun hdep hbeh ⟨p7, p8, rfl, hT⟩
      (try simp only [Nat.reduceAdd] at hun)
      refine .inl ⟨by rfl, Inv.comesV_val (.slice (some ⟨G1, 0, none⟩) n n) W (by (go_simp; try rfl)) ⟨p7, p8, by (simp only [Act.put, List.setIfInBounds_toArray, List.set_cons_succ, List.set_cons_zero, Manyd.upd, Nat.reduceAdd, Nat.reduceBEq, Bool.or_false, Bool.or_true, if_true]), FvI.keep (i := 0) (by decide) (by decide) (by decide) (by decide) hT⟩⟩
    · rintro t act W hun hdep hbeh ⟨p7, p8, rfl, hT⟩
      (try simp only [Nat.reduceAdd] at hun)
      have h0 : t 0 = true := Inv.depB_mem 0 hdep (by rfl)
      refine .inl ⟨by rfl, Inv.comesV_val (.pointer (some ⟨G1, 0, none⟩)) W (by (simp only [h0, if_true, Bool.false_eq_true, if_false]; go_simp; try rfl)) ⟨p7, p8, by (simp only [Act.put, List.setIfInBounds_toArray, List.set_cons_succ, List.set_cons_zero, Manyd.upd, Nat.reduceAdd, Nat.reduceBEq, Bool.or_false, Bool.or_true, if_true]), FvI.keep (i := 1) (by decide) (by decide) (by decide) (by decide) hT⟩⟩
    · rintro t act W hun hdep hbeh ⟨p7, p8, rfl, hT⟩
      (try simp only [Nat.reduceAdd] at hun)
      have h1 : t 1 = true := Inv.depB_mem 1 hdep (by rfl)
      obtain ⟨c0, c1⟩ := hA0 _ hT.bw
      refine .inl ⟨by rfl, Inv.comesV_val (.agg #[.int .i64 a0, .int .i64 a1]) W (by (simp only [h1, if_true, Bool.false_eq_true, if_false]; go_simp; try rfl)) ⟨p7, p8, by (simp only [Act.put, List.setIfInBounds_toArray, List.set_cons_succ, List.set_cons_zero, Manyd.upd, Nat.reduceAdd, Nat.reduceBEq, Bool.or_false, Bool.or_true, if_true]), FvI.keep (i := 2) (by decide) (by decide) (by decide) (by decide) hT⟩⟩
    · rintro t act W hun hdep hbeh ⟨p7, p8, rfl, hT⟩
      (try simp only [Nat.reduceAdd] at hun)
      refine .inl ⟨by rfl, Inv.comesV_val (.slice (some ⟨G3, 0, none⟩) n n) W (by (go_simp; try rfl)) ⟨p7, p8, by (simp only [Act.put, List.setIfInBounds_toArray, List.set_cons_succ, List.set_cons_zero, Manyd.upd, Nat.reduceAdd, Nat.reduceBEq, Bool.or_false, Bool.or_true, if_true]), FvI.keep (i := 3) (by decide) (by decide) (by decide) (by decide) hT⟩⟩
    · rintro t act W hun hdep hbeh ⟨p7, p8, rfl, hT⟩
      (try simp only [Nat.reduceAdd] at hun)
      have h3 : t 3 = true := Inv.depB_mem 3 hdep (by rfl)
      refine .inl ⟨by rfl, Inv.comesV_val (.pointer (some ⟨G3, 0, none⟩)) W (by (simp only [h3, if_true, Bool.false_eq_true, if_false]; go_simp; try rfl)) ⟨p7, p8, by (simp only [Act.put, List.setIfInBounds_toArray, List.set_cons_succ, List.set_cons_zero, Manyd.upd, Nat.reduceAdd, Nat.reduceBEq, Bool.or_false, Bool.or_true, if_true]), FvI.keep (i := 4) (by decide) (by decide) (by decide) (by decide) hT⟩⟩
    · rintro t act W hun hdep hbeh ⟨p7, p8, rfl, hT⟩
      (try simp only [Nat.reduceAdd] at hun)
      have h4 : t 4 = true := Inv.depB_mem 4 hdep (by rfl)
      obtain ⟨e0, e1⟩ := hC0 _ hT.bw
      refine .inl ⟨by rfl, Inv.comesV_val (.agg #[.int .i64 cc0, .int .i64 cc1]) W (by (simp only [h4, if_true, Bool.false_eq_true, if_false]; go_simp; try rfl)) ⟨p7, p8, by (simp only [Act.put, List.setIfInBounds_toArray, List.set_cons_succ, List.set_cons_zero, Manyd.upd, Nat.reduceAdd, Nat.reduceBEq, Bool.or_false, Bool.or_true, if_true]), FvI.keep (i := 5) (by decide) (by decide) (by decide) (by decide) hT⟩⟩
    · rintro t act W hun hdep hbeh ⟨p7, p8, rfl, hT⟩
      (try simp only [Nat.reduceAdd] at hun)
      refine .inl ⟨by rfl, Inv.comesV_val (.pointer (some ⟨W.heap.size, 0, none⟩)) (W.alloc (.cells #[.int .i64 0, .int .i64 0] 37)) (by (go_simp; try rfl)) ⟨W.heap.size, p8, by (simp only [Act.put, List.setIfInBounds_toArray, List.set_cons_succ, List.set_cons_zero, Manyd.upd, Nat.reduceAdd, Nat.reduceBEq, Bool.or_false, Bool.or_true, if_true]), hT.alloc7 ⟨by decide, by decide, by decide, by decide, by decide, by decide⟩ hun⟩⟩
    · rintro t act W hun hdep hbeh ⟨p7, p8, rfl, hT⟩
      (try simp only [Nat.reduceAdd] at hun)
      refine .inl ⟨by rfl, Inv.comesV_val (.pointer (some ⟨W.heap.size, 0, none⟩)) (W.alloc (.cells #[.int .i64 0, .int .i64 0] 37)) (by (go_simp; try rfl)) ⟨p7, W.heap.size, by (simp only [Act.put, List.setIfInBounds_toArray, List.set_cons_succ, List.set_cons_zero, Manyd.upd, Nat.reduceAdd, Nat.reduceBEq, Bool.or_false, Bool.or_true, if_true]), hT.alloc8 ⟨by decide, by decide, by decide, by decide, by decide, by decide⟩ hun⟩⟩
    · rintro t act W hun hdep hbeh ⟨p7, p8, rfl, hT⟩
      (try simp only [Nat.reduceAdd] at hun)
      have h6 : t 6 = true := Inv.depB_mem 6 hdep (by rfl)
      have h2 : t 2 = true := Inv.depB_mem 2 hdep (by rfl)
      obtain ⟨c0, c1, f0, f1⟩ := hT.own7 h6 hun
      refine .inl ⟨by rfl, Inv.comesV_skip ((W.setCell ⟨p7, 0, none⟩ (.int .i64 a0)).setCell ⟨p7, 1, none⟩ (.int .i64 a1)) (by (simp only [h6, h2, if_true, Bool.false_eq_true, if_false]; go_simp; try rfl)) ⟨p7, p8, by (simp only [Act.put, List.setIfInBounds_toArray, List.set_cons_succ, List.set_cons_zero, Manyd.upd, Nat.reduceAdd, Nat.reduceBEq, Bool.or_false, Bool.or_true, if_true]), hT.set7 ⟨by decide, by decide, by decide, by decide, by decide, by decide⟩ h6 hun⟩⟩
    · rintro t act W hun hdep hbeh ⟨p7, p8, rfl, hT⟩
      (try simp only [Nat.reduceAdd] at hun)
      have h7 : t 7 = true := Inv.depB_mem 7 hdep (by rfl)
      have h5 : t 5 = true := Inv.depB_mem 5 hdep (by rfl)
      obtain ⟨c0, c1, f0, f1⟩ := hT.own8 h7 hun
      refine .inl ⟨by rfl, Inv.comesV_skip ((W.setCell ⟨p8, 0, none⟩ (.int .i64 cc0)).setCell ⟨p8, 1, none⟩ (.int .i64 cc1)) (by (simp only [h7, h5, if_true, Bool.false_eq_true, if_false]; go_simp; try rfl)) ⟨p7, p8, by (simp only [Act.put, List.setIfInBounds_toArray, List.set_cons_succ, List.set_cons_zero, Manyd.upd, Nat.reduceAdd, Nat.reduceBEq, Bool.or_false, Bool.or_true, if_true]), hT.set8 ⟨by decide, by decide, by decide, by decide, by decide, by decide⟩ h7 hun⟩⟩
  rintro t a' w12 hs ⟨p7, p8, rfl, hT⟩
  simp only [hs 0 (by decide), hs 1 (by decide), hs 2 (by decide), hs 3 (by decide), hs 4 (by decide), hs 5 (by decide), hs 6 (by decide), hs 7 (by decide), hs 8 (by decide), hs 9 (by decide), if_true]
  obtain ⟨hb12, ⟨g7, k7⟩, ⟨g8, k8⟩, h78⟩ := hT.fin (hs 6 (by decide)) (hs 7 (by decide)) (hs 8 (by decide)) (hs 9 (by decide))
  clear hT hs
  go_wp2
  refine (wpIn_wide (n := 0)).1 ?_
  refine Inv.region_inv (fun t act W => ∃ r7, ∃ r8, act = { tmps := #[Value.slice A0 n0 cap0, Value.int IntKind.i64 F, Value.int IntKind.i64 R, undef, undef, undef, Value.bool false, Value.slice (some ⟨gz, oz, none⟩) n cap, Value.slice (some ⟨G1, 0, none⟩) n n, Value.int IntKind.i64 0, Value.slice (some ⟨G2, 0, none⟩) n n, Value.int IntKind.i64 0, Value.slice (some ⟨G3, 0, none⟩) n n, Value.int IntKind.i64 0, .pointer (some ⟨p7, 0, none⟩), .pointer (some ⟨p8, 0, none⟩), if t 16 = true then .pointer (some ⟨r7, 0, none⟩) else undef, if t 17 = true then .pointer (some ⟨r8, 0, none⟩) else undef, undef, undef, undef, Value.tuple #[Value.slice (some ⟨gz, oz, none⟩) n cap, Value.int IntKind.i64 F], Value.slice A0 n0 cap0, Value.int IntKind.i64 E, Value.tuple #[Value.slice (some ⟨gz, oz, none⟩) n cap, Value.int IntKind.i64 F], Value.slice (some ⟨gz, oz, none⟩) n cap, Value.int IntKind.i64 F, Value.tuple #[Value.slice (some ⟨G1, 0, none⟩) n n, Value.int IntKind.i64 0], Value.slice (some ⟨gz, oz, none⟩) n cap, Value.int IntKind.i64 F, Value.tuple #[Value.slice (some ⟨G1, 0, none⟩) n n, Value.int IntKind.i64 0], Value.slice (some ⟨G1, 0, none⟩) n n, Value.int IntKind.i64 0, Value.tuple #[Value.slice (some ⟨G2, 0, none⟩) n n, Value.int IntKind.i64 0], Value.slice (some ⟨gz, oz, none⟩) n cap, Value.int IntKind.i64 F, Value.tuple #[Value.slice (some ⟨G2, 0, none⟩) n n, Value.int IntKind.i64 0], Value.slice (some ⟨G2, 0, none⟩) n n, Value.int IntKind.i64 0, Value.tuple #[Value.slice (some ⟨G3, 0, none⟩) n n, Value.int IntKind.i64 0], Value.int IntKind.i64 R, Value.int IntKind.i64 (r : Nat), Value.slice (some ⟨gz, oz, none⟩) n cap, Value.int IntKind.i64 F, Value.tuple #[Value.slice (some ⟨G3, 0, none⟩) n n, Value.int IntKind.i64 0], Value.slice (some ⟨G3, 0, none⟩) n n, Value.int IntKind.i64 0, Value.int IntKind.i64 0, Value.bool false, Value.bool false, Value.int IntKind.i64 0, Value.bool false, Value.bool false, Value.bool false, Value.int IntKind.i64 0, Value.bool false, Value.bool false, Value.bool false, Value.slice (some ⟨G1, 0, none⟩) n n, Value.int IntKind.i64 (n : Nat), Value.slice (some ⟨gz, oz, none⟩) n cap, Value.int IntKind.i64 (n : Nat), Value.bool false, Value.bool false, Value.bool false, Value.slice (some ⟨G2, 0, none⟩) n n, Value.int IntKind.i64 (n : Nat), Value.slice (some ⟨gz, oz, none⟩) n cap, Value.int IntKind.i64 (n : Nat), Value.bool false, Value.bool false, Value.bool false, Value.slice (some ⟨G3, 0, none⟩) n n, Value.int IntKind.i64 (n : Nat), Value.slice (some ⟨gz, oz, none⟩) n cap, Value.int IntKind.i64 (n : Nat), Value.bool false, Value.bool false, Value.bool false, Value.slice (some ⟨G1, 0, none⟩) n n, Value.bool true, Value.bool false, Value.bool false, Value.bool false, Value.slice (some ⟨G2, 0, none⟩) n n, Value.bool true, Value.bool false, Value.bool false, Value.bool false, Value.slice (some ⟨G3, 0, none⟩) n n, Value.bool true, Value.bool false, Value.bool false, .slice (some ⟨G1, 0, none⟩) n n, .pointer (some ⟨G1, 0, none⟩), .agg #[.int .i64 a0, .int .i64 a1], .slice (some ⟨G3, 0, none⟩) n n, .pointer (some ⟨G3, 0, none⟩), .agg #[.int .i64 cc0, .int .i64 cc1], if t 0 = true then .slice (some ⟨gz, oz, none⟩) n cap else undef, if t 1 = true then .pointer (some ⟨gz, oz, none⟩) else undef, if t 2 = true then .int .i64 z0 else undef, if t 3 = true then .agg #[.int .i64 z0, .int .i64 1] else undef, if t 4 = true then .slice (some ⟨G2, 0, none⟩) n n else undef, if t 5 = true then .pointer (some ⟨G2, 0, none⟩) else undef, if t 6 = true then .agg #[.int .i64 ib0, .int .i64 ib1] else undef, if t 7 = true then .agg #[.int .i64 il0, .int .i64 il1] else undef, if t 8 = true then .slice (some ⟨gz, oz, none⟩) n cap else undef, if t 9 = true then .pointer (some ⟨gz, oz, none⟩) else undef, if t 10 = true then .int .i64 z0 else undef, if t 11 = true then .agg #[.int .i64 z0, .int .i64 1] else undef, if t 12 = true then .slice (some ⟨G3, 0, none⟩) n n else undef, if t 13 = true then .pointer (some ⟨G3, 0, none⟩) else undef, if t 14 = true then .agg #[.int .i64 cc0, .int .i64 cc1] else undef, if t 15 = true then .agg #[.int .i64 im0, .int .i64 im1] else undef, undef, undef, undef, undef, undef, undef, undef, undef, undef, undef, undef, undef, undef, undef, undef, undef, undef, undef, undef, undef, undef, undef, undef, undef, undef, undef, undef, undef, undef, undef, undef, undef, undef, undef, undef, undef, undef, undef, undef, undef, undef, undef, undef, undef, undef, undef, undef, undef, undef, undef, undef, undef, undef, undef, undef, undef, undef, undef, undef, undef, undef, undef, undef, undef, undef, undef, undef], defers := [] } ∧ FvI w12 16 17 18 19 il0 il1 im0 im1 t r7 r8 W) mixed_ok (by kernel_rfl) ?_ ?_ ?_
  · intro t hs
    refine ⟨0, 0, ?_, FvI.start (hs 16 (by decide)) (hs 17 (by decide)) (hs 18 (by decide)) (hs 19 (by decide))⟩
    simp only [hs 0 (by decide), hs 1 (by decide), hs 2 (by decide), hs 3 (by decide), hs 4 (by decide), hs 5 (by decide), hs 6 (by decide), hs 7 (by decide), hs 8 (by decide), hs 9 (by decide), hs 10 (by decide), hs 11 (by decide), hs 12 (by decide), hs 13 (by decide), hs 14 (by decide), hs 15 (by decide), hs 16 (by decide), hs 17 (by decide), hs 18 (by decide), hs 19 (by decide), Bool.false_eq_true, if_false]
  · refine ⟨?_, ?_, ?_, ?_, ?_, ?_, ?_, ?_, ?_, ?_, ?_, ?_, ?_, ?_, ?_, ?_, ?_, ?_, ?_, ?_, trivial⟩
    · rintro t act W hun hdep hbeh ⟨r7, r8, rfl, hT⟩
      (try simp only [Nat.reduceAdd] at hun)
      refine .inl ⟨by rfl, Inv.comesV_val (.slice (some ⟨gz, oz, none⟩) n cap) W (by (go_simp; try rfl)) ⟨r7, r8, by (simp only [Act.put, List.setIfInBounds_toArray, List.set_cons_succ, List.set_cons_zero, Manyd.upd, Nat.reduceAdd, Nat.reduceBEq, Bool.or_false, Bool.or_true, if_true]), FvI.keep (i := 0) (by decide) (by decide) (by decide) (by decide) hT⟩⟩
    · rintro t act W hun hdep hbeh ⟨r7, r8, rfl, hT⟩
      (try simp only [Nat.reduceAdd] at hun)
      have h0 : t 0 = true := Inv.depB_mem 0 hdep (by rfl)
      refine .inl ⟨by rfl, Inv.comesV_val (.pointer (some ⟨gz, oz, none⟩)) W (by (simp only [h0, if_true, Bool.false_eq_true, if_false]; go_simp; try rfl)) ⟨r7, r8, by (simp only [Act.put, List.setIfInBounds_toArray, List.set_cons_succ, List.set_cons_zero, Manyd.upd, Nat.reduceAdd, Nat.reduceBEq, Bool.or_false, Bool.or_true, if_true]), FvI.keep (i := 1) (by decide) (by decide) (by decide) (by decide) hT⟩⟩
    · rintro t act W hun hdep hbeh ⟨r7, r8, rfl, hT⟩
      (try simp only [Nat.reduceAdd] at hun)
      have h1 : t 1 = true := Inv.depB_mem 1 hdep (by rfl)
      have c0 := hz0 _ (hb12.trans (hT.bw.mono hb12.size))
      refine .inl ⟨by rfl, Inv.comesV_val (.int .i64 z0) W (by (simp only [h1, if_true, Bool.false_eq_true, if_false]; go_simp; try rfl)) ⟨r7, r8, by (simp only [Act.put, List.setIfInBounds_toArray, List.set_cons_succ, List.set_cons_zero, Manyd.upd, Nat.reduceAdd, Nat.reduceBEq, Bool.or_false, Bool.or_true, if_true]), FvI.keep (i := 2) (by decide) (by decide) (by decide) (by decide) hT⟩⟩
    · rintro t act W hun hdep hbeh ⟨r7, r8, rfl, hT⟩
      (try simp only [Nat.reduceAdd] at hun)
      have h2 : t 2 = true := Inv.depB_mem 2 hdep (by rfl)
      refine .inl ⟨by rfl, Inv.comesV_call 29 #[.int .i64 z0] W (by (simp only [h2, if_true, Bool.false_eq_true, if_false]; go_simp; try rfl)) ((q29 W).mono fun e w5 hw5 => ⟨_, hw5.1, r7, r8, by (simp only [Act.put, List.setIfInBounds_toArray, List.set_cons_succ, List.set_cons_zero, Manyd.upd, Nat.reduceAdd, Nat.reduceBEq, Bool.or_false, Bool.or_true, if_true]), FvI.keep (i := 3) (by decide) (by decide) (by decide) (by decide) (hT.after hw5.2)⟩)⟩
    · rintro t act W hun hdep hbeh ⟨r7, r8, rfl, hT⟩
      (try simp only [Nat.reduceAdd] at hun)
      refine .inl ⟨by rfl, Inv.comesV_val (.slice (some ⟨G2, 0, none⟩) n n) W (by (go_simp; try rfl)) ⟨r7, r8, by (simp only [Act.put, List.setIfInBounds_toArray, List.set_cons_succ, List.set_cons_zero, Manyd.upd, Nat.reduceAdd, Nat.reduceBEq, Bool.or_false, Bool.or_true, if_true]), FvI.keep (i := 4) (by decide) (by decide) (by decide) (by decide) hT⟩⟩
    · rintro t act W hun hdep hbeh ⟨r7, r8, rfl, hT⟩
      (try simp only [Nat.reduceAdd] at hun)
      have h4 : t 4 = true := Inv.depB_mem 4 hdep (by rfl)
      refine .inl ⟨by rfl, Inv.comesV_val (.pointer (some ⟨G2, 0, none⟩)) W (by (simp only [h4, if_true, Bool.false_eq_true, if_false]; go_simp; try rfl)) ⟨r7, r8, by (simp only [Act.put, List.setIfInBounds_toArray, List.set_cons_succ, List.set_cons_zero, Manyd.upd, Nat.reduceAdd, Nat.reduceBEq, Bool.or_false, Bool.or_true, if_true]), FvI.keep (i := 5) (by decide) (by decide) (by decide) (by decide) hT⟩⟩
    · rintro t act W hun hdep hbeh ⟨r7, r8, rfl, hT⟩
      (try simp only [Nat.reduceAdd] at hun)
      have h5 : t 5 = true := Inv.depB_mem 5 hdep (by rfl)
      obtain ⟨e0, e1⟩ := hB0 _ (hb12.trans (hT.bw.mono hb12.size))
      refine .inl ⟨by rfl, Inv.comesV_val (.agg #[.int .i64 ib0, .int .i64 ib1]) W (by (simp only [h5, if_true, Bool.false_eq_true, if_false]; go_simp; try rfl)) ⟨r7, r8, by (simp only [Act.put, List.setIfInBounds_toArray, List.set_cons_succ, List.set_cons_zero, Manyd.upd, Nat.reduceAdd, Nat.reduceBEq, Bool.or_false, Bool.or_true, if_true]), FvI.keep (i := 6) (by decide) (by decide) (by decide) (by decide) hT⟩⟩
    · rintro t act W hun hdep hbeh ⟨r7, r8, rfl, hT⟩
      (try simp only [Nat.reduceAdd] at hun)
      have h3 : t 3 = true := Inv.depB_mem 3 hdep (by rfl)
      have h6 : t 6 = true := Inv.depB_mem 6 hdep (by rfl)
      refine .inl ⟨by rfl, Inv.comesV_call 58 #[.agg #[.int .i64 z0, .int .i64 1], .agg #[.int .i64 ib0, .int .i64 ib1]] W (by (simp only [h3, h6, if_true, Bool.false_eq_true, if_false]; go_simp; try rfl)) ((qb W).mono fun e w5 hw5 => ⟨_, hw5.1, r7, r8, by (simp only [Act.put, List.setIfInBounds_toArray, List.set_cons_succ, List.set_cons_zero, Manyd.upd, Nat.reduceAdd, Nat.reduceBEq, Bool.or_false, Bool.or_true, if_true]), FvI.keep (i := 7) (by decide) (by decide) (by decide) (by decide) (hT.after hw5.2)⟩)⟩
    · rintro t act W hun hdep hbeh ⟨r7, r8, rfl, hT⟩
      (try simp only [Nat.reduceAdd] at hun)
      refine .inl ⟨by rfl, Inv.comesV_val (.slice (some ⟨gz, oz, none⟩) n cap) W (by (go_simp; try rfl)) ⟨r7, r8, by (simp only [Act.put, List.setIfInBounds_toArray, List.set_cons_succ, List.set_cons_zero, Manyd.upd, Nat.reduceAdd, Nat.reduceBEq, Bool.or_false, Bool.or_true, if_true]), FvI.keep (i := 8) (by decide) (by decide) (by decide) (by decide) hT⟩⟩
    · rintro t act W hun hdep hbeh ⟨r7, r8, rfl, hT⟩
      (try simp only [Nat.reduceAdd] at hun)
      have h8 : t 8 = true := Inv.depB_mem 8 hdep (by rfl)
      refine .inl ⟨by rfl, Inv.comesV_val (.pointer (some ⟨gz, oz, none⟩)) W (by (simp only [h8, if_true, Bool.false_eq_true, if_false]; go_simp; try rfl)) ⟨r7, r8, by (simp only [Act.put, List.setIfInBounds_toArray, List.set_cons_succ, List.set_cons_zero, Manyd.upd, Nat.reduceAdd, Nat.reduceBEq, Bool.or_false, Bool.or_true, if_true]), FvI.keep (i := 9) (by decide) (by decide) (by decide) (by decide) hT⟩⟩
    · rintro t act W hun hdep hbeh ⟨r7, r8, rfl, hT⟩
      (try simp only [Nat.reduceAdd] at hun)
      have h9 : t 9 = true := Inv.depB_mem 9 hdep (by rfl)
      have c0 := hz0 _ (hb12.trans (hT.bw.mono hb12.size))
      refine .inl ⟨by rfl, Inv.comesV_val (.int .i64 z0) W (by (simp only [h9, if_true, Bool.false_eq_true, if_false]; go_simp; try rfl)) ⟨r7, r8, by (simp only [Act.put, List.setIfInBounds_toArray, List.set_cons_succ, List.set_cons_zero, Manyd.upd, Nat.reduceAdd, Nat.reduceBEq, Bool.or_false, Bool.or_true, if_true]), FvI.keep (i := 10) (by decide) (by decide) (by decide) (by decide) hT⟩⟩
    · rintro t act W hun hdep hbeh ⟨r7, r8, rfl, hT⟩
      (try simp only [Nat.reduceAdd] at hun)
      have h10 : t 10 = true := Inv.depB_mem 10 hdep (by rfl)
      refine .inl ⟨by rfl, Inv.comesV_call 29 #[.int .i64 z0] W (by (simp only [h10, if_true, Bool.false_eq_true, if_false]; go_simp; try rfl)) ((q29 W).mono fun e w5 hw5 => ⟨_, hw5.1, r7, r8, by (simp only [Act.put, List.setIfInBounds_toArray, List.set_cons_succ, List.set_cons_zero, Manyd.upd, Nat.reduceAdd, Nat.reduceBEq, Bool.or_false, Bool.or_true, if_true]), FvI.keep (i := 11) (by decide) (by decide) (by decide) (by decide) (hT.after hw5.2)⟩)⟩
    · rintro t act W hun hdep hbeh ⟨r7, r8, rfl, hT⟩
      (try simp only [Nat.reduceAdd] at hun)
      refine .inl ⟨by rfl, Inv.comesV_val (.slice (some ⟨G3, 0, none⟩) n n) W (by (go_simp; try rfl)) ⟨r7, r8, by (simp only [Act.put, List.setIfInBounds_toArray, List.set_cons_succ, List.set_cons_zero, Manyd.upd, Nat.reduceAdd, Nat.reduceBEq, Bool.or_false, Bool.or_true, if_true]), FvI.keep (i := 12) (by decide) (by decide) (by decide) (by decide) hT⟩⟩
    · rintro t act W hun hdep hbeh ⟨r7, r8, rfl, hT⟩
      (try simp only [Nat.reduceAdd] at hun)
      have h12 : t 12 = true := Inv.depB_mem 12 hdep (by rfl)
      refine .inl ⟨by rfl, Inv.comesV_val (.pointer (some ⟨G3, 0, none⟩)) W (by (simp only [h12, if_true, Bool.false_eq_true, if_false]; go_simp; try rfl)) ⟨r7, r8, by (simp only [Act.put, List.setIfInBounds_toArray, List.set_cons_succ, List.set_cons_zero, Manyd.upd, Nat.reduceAdd, Nat.reduceBEq, Bool.or_false, Bool.or_true, if_true]), FvI.keep (i := 13) (by decide) (by decide) (by decide) (by decide) hT⟩⟩
    · rintro t act W hun hdep hbeh ⟨r7, r8, rfl, hT⟩
      (try simp only [Nat.reduceAdd] at hun)
      have h13 : t 13 = true := Inv.depB_mem 13 hdep (by rfl)
      obtain ⟨e0, e1⟩ := hC0 _ (hb12.trans (hT.bw.mono hb12.size))
      refine .inl ⟨by rfl, Inv.comesV_val (.agg #[.int .i64 cc0, .int .i64 cc1]) W (by (simp only [h13, if_true, Bool.false_eq_true, if_false]; go_simp; try rfl)) ⟨r7, r8, by (simp only [Act.put, List.setIfInBounds_toArray, List.set_cons_succ, List.set_cons_zero, Manyd.upd, Nat.reduceAdd, Nat.reduceBEq, Bool.or_false, Bool.or_true, if_true]), FvI.keep (i := 14) (by decide) (by decide) (by decide) (by decide) hT⟩⟩
    · rintro t act W hun hdep hbeh ⟨r7, r8, rfl, hT⟩
      (try simp only [Nat.reduceAdd] at hun)
      have h11 : t 11 = true := Inv.depB_mem 11 hdep (by rfl)
      have h14 : t 14 = true := Inv.depB_mem 14 hdep (by rfl)
      refine .inl ⟨by rfl, Inv.comesV_call 58 #[.agg #[.int .i64 z0, .int .i64 1], .agg #[.int .i64 cc0, .int .i64 cc1]] W (by (simp only [h11, h14, if_true, Bool.false_eq_true, if_false]; go_simp; try rfl)) ((qc W).mono fun e w5 hw5 => ⟨_, hw5.1, r7, r8, by (simp only [Act.put, List.setIfInBounds_toArray, List.set_cons_succ, List.set_cons_zero, Manyd.upd, Nat.reduceAdd, Nat.reduceBEq, Bool.or_false, Bool.or_true, if_true]), FvI.keep (i := 15) (by decide) (by decide) (by decide) (by decide) (hT.after hw5.2)⟩)⟩
    · rintro t act W hun hdep hbeh ⟨r7, r8, rfl, hT⟩
      (try simp only [Nat.reduceAdd] at hun)
      refine .inl ⟨by rfl, Inv.comesV_val (.pointer (some ⟨W.heap.size, 0, none⟩)) (W.alloc (.cells #[.int .i64 0, .int .i64 0] 37)) (by (go_simp; try rfl)) ⟨W.heap.size, r8, by (simp only [Act.put, List.setIfInBounds_toArray, List.set_cons_succ, List.set_cons_zero, Manyd.upd, Nat.reduceAdd, Nat.reduceBEq, Bool.or_false, Bool.or_true, if_true]), hT.alloc7 ⟨by decide, by decide, by decide, by decide, by decide, by decide⟩ hun⟩⟩
    · rintro t act W hun hdep hbeh ⟨r7, r8, rfl, hT⟩
      (try simp only [Nat.reduceAdd] at hun)
      refine .inl ⟨by rfl, Inv.comesV_val (.pointer (some ⟨W.heap.size, 0, none⟩)) (W.alloc (.cells #[.int .i64 0, .int .i64 0] 37)) (by (go_simp; try rfl)) ⟨r7, W.heap.size, by (simp only [Act.put, List.setIfInBounds_toArray, List.set_cons_succ, List.set_cons_zero, Manyd.upd, Nat.reduceAdd, Nat.reduceBEq, Bool.or_false, Bool.or_true, if_true]), hT.alloc8 ⟨by decide, by decide, by decide, by decide, by decide, by decide⟩ hun⟩⟩
    · rintro t act W hun hdep hbeh ⟨r7, r8, rfl, hT⟩
      (try simp only [Nat.reduceAdd] at hun)
      have h16 : t 16 = true := Inv.depB_mem 16 hdep (by rfl)
      have h7 : t 7 = true := Inv.depB_mem 7 hdep (by rfl)
      obtain ⟨c0, c1, f0, f1⟩ := hT.own7 h16 hun
      refine .inl ⟨by rfl, Inv.comesV_skip ((W.setCell ⟨r7, 0, none⟩ (.int .i64 il0)).setCell ⟨r7, 1, none⟩ (.int .i64 il1)) (by (simp only [h16, h7, if_true, Bool.false_eq_true, if_false]; go_simp; try rfl)) ⟨r7, r8, by (simp only [Act.put, List.setIfInBounds_toArray, List.set_cons_succ, List.set_cons_zero, Manyd.upd, Nat.reduceAdd, Nat.reduceBEq, Bool.or_false, Bool.or_true, if_true]), hT.set7 ⟨by decide, by decide, by decide, by decide, by decide, by decide⟩ h16 hun⟩⟩
    · rintro t act W hun hdep hbeh ⟨r7, r8, rfl, hT⟩
      (try simp only [Nat.reduceAdd] at hun)
      have h17 : t 17 = true := Inv.depB_mem 17 hdep (by rfl)
      have h15 : t 15 = true := Inv.depB_mem 15 hdep (by rfl)
      obtain ⟨c0, c1, f0, f1⟩ := hT.own8 h17 hun
      refine .inl ⟨by rfl, Inv.comesV_skip ((W.setCell ⟨r8, 0, none⟩ (.int .i64 im0)).setCell ⟨r8, 1, none⟩ (.int .i64 im1)) (by (simp only [h17, h15, if_true, Bool.false_eq_true, if_false]; go_simp; try rfl)) ⟨r7, r8, by (simp only [Act.put, List.setIfInBounds_toArray, List.set_cons_succ, List.set_cons_zero, Manyd.upd, Nat.reduceAdd, Nat.reduceBEq, Bool.or_false, Bool.or_true, if_true]), hT.set8 ⟨by decide, by decide, by decide, by decide, by decide, by decide⟩ h17 hun⟩⟩
  rintro t a' w13 hs ⟨r7, r8, rfl, hT⟩
  simp only [hs 0 (by decide), hs 1 (by decide), hs 2 (by decide), hs 3 (by decide), hs 4 (by decide), hs 5 (by decide), hs 6 (by decide), hs 7 (by decide), hs 8 (by decide), hs 9 (by decide), hs 10 (by decide), hs 11 (by decide), hs 12 (by decide), hs 13 (by decide), hs 14 (by decide), hs 15 (by decide), hs 16 (by decide), hs 17 (by decide), hs 18 (by decide), hs 19 (by decide), if_true]
  obtain ⟨hb13, ⟨e7, x7⟩, ⟨e8, x8⟩, hr78⟩ := hT.fin (hs 16 (by decide)) (hs 17 (by decide)) (hs 18 (by decide)) (hs 19 (by decide))
  have hQ0 : Q4 w11 w11.heap.size p7 p8 r7 r8 (rp (fa z0) D1) (rp (fc z0) D3) (rp (z0 * D2 - fb z0) D2) (rp (z0 * D3 - fc z0) D3) w13 := ⟨hb12.trans (hb13.mono hb12.size), Nat.le_trans hb12.size hb13.size, by unfold rp; rw [ha0.out, ha1.out]; exact k7.after hb13, by unfold rp; rw [hc0.out, hc1.out]; exact k8.after hb13, by unfold rp; rw [hl0.out, hl1.out]; exact x7, by unfold rp; rw [hm0.out, hm1.out]; exact x8⟩
  have hN : Nq w11.heap.size p7 p8 r7 r8 := ⟨g7, g8, Nat.le_trans hb12.size e7, Nat.le_trans hb12.size e8, h78, by have := k7.lt; omega, by have := k7.lt; omega, by have := k8.lt; omega, by have := k8.lt; omega, hr78⟩
  clear hT hs hA0 hB0 hC0 hz0 qb qc q29 ha0 ha1 hb0 hb1 hc0 hc1 hl0 hl1 hm0 hm1 hb12 hb13 k7 k8 x7 x8 e7 e8 g7 g8 h78 hr78
  go_wp2
  go_loopw [18] (fun i wr => ∃ (j : Nat) (ka ko kl km : Int), j ≤ n ∧ i = .int .i64 j ∧ Q4 w11 w11.heap.size p7 p8 r7 r8 (rp (fa ka) D1) (rp (fc ko) D3) (rp (kl * D2 - fb kl) D2) (rp (km * D3 - fc km) D3) wr ∧ Keep (Lst l fa j ka ∧ Lst l fc j ko ∧ Lst l (fun c => -(c * D2 - fb c)) j kl ∧ Lst l (fun c => -(c * D3 - fc c)) j km)) (fun i _ => n - (intOf i).toNat)
  case atStart => exact ⟨0, z0, z0, z0, z0, by omega, rfl, hQ0, ⟨(hLst _).out, (hLst _).out, (hLst _).out, (hLst _).out⟩⟩
  case round =>
    obtain ⟨j, ka, ko, kl, km, hj, rfl, hQ, hLL⟩ := hrel
    by_cases hjn : j < n
    · have hjn' : (j : Int) < (n : Int) := by omega
      obtain ⟨gj, oj, e1, hzj⟩ := hz j hjn
      injection e1 with e1
      injection e1 with e1 e2
      subst e1 e2
      have hcm := getz (zs := l) (k := j) (by have := hn.out; omega)
      have hAj := hA j hjn
      have hBj := hB j hjn
      have hCj := hC j hjn
      obtain ⟨c, hc⟩ : ∃ c, Keep (l.getD j 0 = c) := ⟨_, ⟨rfl⟩⟩
      rw [hc.out] at hzj hcm hAj hBj hCj
      have hlow := Keep.mk (fun (f : Int → Int) (k : Int) (h : Lst l f j k) (hc' : f k ≤ f c) => h.old (by rw [hc.out]; exact hc'))
      have hnew := Keep.mk (fun (f : Int → Int) (k : Int) (h : Lst l f j k) (hc' : f c ≤ f k) => by have := h.new (by have := hn.out; omega) (by rw [hc.out]; exact hc'); rwa [hc.out] at this)
      have q53s := fun w => refLess_red (bA.out c hcm) (bA.out ka hLL.out.1.mem) w
      rw [same_less (bA.out c hcm).q1] at q53s
      have q53o := fun w => refLess_red (bC.out c hcm) (bC.out ko hLL.out.2.1.mem) w
      rw [same_less (bC.out c hcm).q1] at q53o
      have q53l := fun w => refLess_red (bL.out kl hLL.out.2.2.1.mem) (bL.out c hcm) w
      rw [same_less (bL.out c hcm).q1] at q53l
      have q53m := fun w => refLess_red (bM.out km hLL.out.2.2.2.mem) (bM.out c hcm) w
      rw [same_less (bM.out c hcm).q1] at q53m
      have qb := q58b.out c hcm
      have qc := q58c.out c hcm
      have q29 := fun w => refWhole_any c w
      unfold redV fracV at qb qc
      unfold redV fracV at q53s q53o q53l q53m
      unfold fracV at q29
      have n1 := Keep.mk (rfl : rp (fa c) D1 = rp (fa c) D1)
      unfold rp at hQ
      obtain ⟨x0, hx0⟩ : ∃ z, Keep (redN (fa c) D1 = z) := ⟨_, ⟨rfl⟩⟩
      obtain ⟨x1, hx1⟩ : ∃ z, Keep (redD (fa c) D1 = z) := ⟨_, ⟨rfl⟩⟩
      obtain ⟨b0, hb0⟩ : ∃ z, Keep (redN (fb c) D2 = z) := ⟨_, ⟨rfl⟩⟩
      obtain ⟨b1, hb1⟩ : ∃ z, Keep (redD (fb c) D2 = z) := ⟨_, ⟨rfl⟩⟩
      obtain ⟨y0, hy0⟩ : ∃ z, Keep (redN (fc c) D3 = z) := ⟨_, ⟨rfl⟩⟩
      obtain ⟨y1, hy1⟩ : ∃ z, Keep (redD (fc c) D3 = z) := ⟨_, ⟨rfl⟩⟩
      obtain ⟨u0, hu0⟩ : ∃ z, Keep (redN (c * D2 - fb c) D2 = z) := ⟨_, ⟨rfl⟩⟩
      obtain ⟨u1, hu1⟩ : ∃ z, Keep (redD (c * D2 - fb c) D2 = z) := ⟨_, ⟨rfl⟩⟩
      obtain ⟨v0, hv0⟩ : ∃ z, Keep (redN (c * D3 - fc c) D3 = z) := ⟨_, ⟨rfl⟩⟩
      obtain ⟨v1, hv1⟩ : ∃ z, Keep (redD (c * D3 - fc c) D3 = z) := ⟨_, ⟨rfl⟩⟩
      obtain ⟨s0, hs0⟩ : ∃ z, Keep (redN (fa ka) D1 = z) := ⟨_, ⟨rfl⟩⟩
      obtain ⟨s1, hs1⟩ : ∃ z, Keep (redD (fa ka) D1 = z) := ⟨_, ⟨rfl⟩⟩
      obtain ⟨o0, ho0⟩ : ∃ z, Keep (redN (fc ko) D3 = z) := ⟨_, ⟨rfl⟩⟩
      obtain ⟨o1, ho1⟩ : ∃ z, Keep (redD (fc ko) D3 = z) := ⟨_, ⟨rfl⟩⟩
      obtain ⟨l0, hl0⟩ : ∃ z, Keep (redN (kl * D2 - fb kl) D2 = z) := ⟨_, ⟨rfl⟩⟩
      obtain ⟨l1, hl1⟩ : ∃ z, Keep (redD (kl * D2 - fb kl) D2 = z) := ⟨_, ⟨rfl⟩⟩
      obtain ⟨m0, hm0⟩ : ∃ z, Keep (redN (km * D3 - fc km) D3 = z) := ⟨_, ⟨rfl⟩⟩
      obtain ⟨m1, hm1⟩ : ∃ z, Keep (redD (km * D3 - fc km) D3 = z) := ⟨_, ⟨rfl⟩⟩
      have fin : ∀ W (a b d e : Int × Int), Q4 w11 w11.heap.size p7 p8 r7 r8 a b d e W → Keep ((a = (s0, s1) ∧ fa ka ≤ fa c) ∨ (a = (x0, x1) ∧ fa c ≤ fa ka)) → Keep ((b = (o0, o1) ∧ fc ko ≤ fc c) ∨ (b = (y0, y1) ∧ fc c ≤ fc ko)) → Keep ((d = (l0, l1) ∧ c * D2 - fb c ≤ kl * D2 - fb kl) ∨ (d = (u0, u1) ∧ kl * D2 - fb kl ≤ c * D2 - fb c)) → Keep ((e = (m0, m1) ∧ c * D3 - fc c ≤ km * D3 - fc km) ∨ (e = (v0, v1) ∧ km * D3 - fc km ≤ c * D3 - fc c)) → ∃ (j' : Nat) (ka ko kl km : Int), j' ≤ n ∧ Value.int .i64 ((j : Int) + 1) = .int .i64 j' ∧ Q4 w11 w11.heap.size p7 p8 r7 r8 (rp (fa ka) D1) (rp (fc ko) D3) (rp (kl * D2 - fb kl) D2) (rp (km * D3 - fc km) D3) W ∧ Keep (Lst l fa j' ka ∧ Lst l fc j' ko ∧ Lst l (fun c => -(c * D2 - fb c)) j' kl ∧ Lst l (fun c => -(c * D3 - fc c)) j' km) := by
        intro W a b d e h h1 h2 h3 h4
        have g1 : ∃ k, a = rp (fa k) D1 ∧ Lst l fa (j + 1) k := by
          rcases h1.out with ⟨e1, e2⟩ | ⟨e1, e2⟩
          · exact ⟨ka, by rw [e1, rp, hs0.out, hs1.out], hlow.out _ _ hLL.out.1 e2⟩
          · exact ⟨c, by rw [e1, rp, hx0.out, hx1.out], hnew.out _ _ hLL.out.1 e2⟩
        have g2 : ∃ k, b = rp (fc k) D3 ∧ Lst l fc (j + 1) k := by
          rcases h2.out with ⟨e1, e2⟩ | ⟨e1, e2⟩
          · exact ⟨ko, by rw [e1, rp, ho0.out, ho1.out], hlow.out _ _ hLL.out.2.1 e2⟩
          · exact ⟨c, by rw [e1, rp, hy0.out, hy1.out], hnew.out _ _ hLL.out.2.1 e2⟩
        have g3 : ∃ k, d = rp (k * D2 - fb k) D2 ∧ Lst l (fun c => -(c * D2 - fb c)) (j + 1) k := by
          rcases h3.out with ⟨e1, e2⟩ | ⟨e1, e2⟩
          · exact ⟨kl, by rw [e1, rp, hl0.out, hl1.out], hlow.out _ _ hLL.out.2.2.1 (show -(kl * D2 - fb kl) ≤ -(c * D2 - fb c) by omega)⟩
          · exact ⟨c, by rw [e1, rp, hu0.out, hu1.out], hnew.out _ _ hLL.out.2.2.1 (show -(c * D2 - fb c) ≤ -(kl * D2 - fb kl) by omega)⟩
        have g4 : ∃ k, e = rp (k * D3 - fc k) D3 ∧ Lst l (fun c => -(c * D3 - fc c)) (j + 1) k := by
          rcases h4.out with ⟨e1, e2⟩ | ⟨e1, e2⟩
          · exact ⟨km, by rw [e1, rp, hm0.out, hm1.out], hlow.out _ _ hLL.out.2.2.2 (show -(km * D3 - fc km) ≤ -(c * D3 - fc c) by omega)⟩
          · exact ⟨c, by rw [e1, rp, hv0.out, hv1.out], hnew.out _ _ hLL.out.2.2.2 (show -(c * D3 - fc c) ≤ -(km * D3 - fc km) by omega)⟩
        obtain ⟨k1, rfl, t1⟩ := g1
        obtain ⟨k2, rfl, t2⟩ := g2
        obtain ⟨k3, rfl, t3⟩ := g3
        obtain ⟨k4, rfl, t4⟩ := g4
        exact ⟨j + 1, k1, k2, k3, k4, by omega, by go_num, h, ⟨t1, t2, t3, t4⟩⟩
      rw [hx0.out, hx1.out] at hAj q53s
      rw [hb0.out, hb1.out] at hBj qb
      rw [hy0.out, hy1.out] at hCj q53o qc
      rw [hu0.out, hu1.out] at q53l qb
      rw [hv0.out, hv1.out] at q53m qc
      rw [hs0.out, hs1.out] at q53s hQ
      rw [ho0.out, ho1.out] at q53o hQ
      rw [hl0.out, hl1.out] at q53l hQ
      rw [hm0.out, hm1.out] at q53m hQ
      obtain ⟨fl, hfl⟩ : ∃ x, Keep (kl * D2 - fb kl = x) := ⟨_, ⟨rfl⟩⟩
      obtain ⟨fl', hfl'⟩ : ∃ x, Keep (c * D2 - fb c = x) := ⟨_, ⟨rfl⟩⟩
      obtain ⟨fm, hfm⟩ : ∃ x, Keep (km * D3 - fc km = x) := ⟨_, ⟨rfl⟩⟩
      obtain ⟨fm', hfm'⟩ : ∃ x, Keep (c * D3 - fc c = x) := ⟨_, ⟨rfl⟩⟩
      rw [hfl.out, hfl'.out] at q53l
      rw [hfm.out, hfm'.out] at q53m
      rw [hfl.out, hfl'.out, hfm.out, hfm'.out] at fin
      clear hx0 hx1 hb0 hb1 hy0 hy1 hu0 hu1 hv0 hv1 hs0 hs1 ho0 ho1 hl0 hl1 hm0 hm1 hlow hnew hcm hLL hc n1
      obtain ⟨wi, rfl⟩ : ∃ x, x = wr := ⟨_, rfl⟩
      go_wp2
      by_cases h1 : fa c < fa ka
      · have op : Own2 wi p7 (.int .i64 s0) (.int .i64 s1) := Own2.of hQ.p
        rw [decide_eq_true h1] at q53s
        refine (wpIn_wide (n := 0)).1 ?_
        refine Many.region_many (Go.Proofs.Ytbocmbhinjkjlaa.Cb wi) mixed_ok (by kernel_rfl) (fun _ _ _ _ h => h) (fun s _ => Go.Proofs.Ytbocmbhinjkjlaa.Cb.start wi s) ?_
        refine Many.lex_want (by rfl) (rdb (fun w hb => by (go_simp; try rfl))) ?_
        simp only [Act.put, List.setIfInBounds_toArray, List.set_cons_succ, List.set_cons_zero, Nat.reduceAdd]
        refine Many.lex_want (by rfl) (rdb (fun w hb => by (go_simp; try rfl))) ?_
        simp only [Act.put, List.setIfInBounds_toArray, List.set_cons_succ, List.set_cons_zero, Nat.reduceAdd]
        refine Many.lex_want (by rfl) (rdb (v := .pointer (some ⟨G1, j * 2, none⟩)) (fun w hb => by (skip; go_simp; try rfl))) ?_
        simp only [Act.put, List.setIfInBounds_toArray, List.set_cons_succ, List.set_cons_zero, Nat.reduceAdd]
        refine Many.lex_want (by rfl) (rdb (v := .agg #[.int .i64 x0, .int .i64 x1]) (fun w hb => by (obtain ⟨c0, c1⟩ := hAj _ (hQ.bw.trans (hb.mono hQ.size)); go_simp; try rfl))) ?_
        simp only [Act.put, List.setIfInBounds_toArray, List.set_cons_succ, List.set_cons_zero, Nat.reduceAdd]
        refine Many.lex_want (by rfl) (rdb (v := .agg #[.int .i64 s0, .int .i64 s1]) (fun w hb => by (obtain ⟨c0, c1, f0, f1⟩ := (op).after hb; go_simp; try rfl))) ?_
        simp only [Act.put, List.setIfInBounds_toArray, List.set_cons_succ, List.set_cons_zero, Nat.reduceAdd]
        refine Many.lex_want (by rfl) (clb q53s (fun w hb => by (go_simp; try rfl))) ?_
        simp only [Act.put, List.setIfInBounds_toArray, List.set_cons_succ, List.set_cons_zero, Nat.reduceAdd]
        refine Many.lex_nil fun s wia hs hC => ?_
        have hC : Below wi.heap.size wi wia := hC
        have hQ := hQ.after hC
        clear hC hs op q53s
        obtain ⟨c0, c1⟩ := hAj _ hQ.bw
        obtain ⟨c50, c51, f50, f51⟩ := (Own2.of hQ.p : Own2 wia p7 (.int .i64 s0) (.int .i64 s1))
        go_wp2
        clear c0 c1 c50 c51 f50 f51
        have hQ := hQ.setP hN x0 x1
        generalize (wia.setCell ⟨p7, 0, none⟩ (.int .i64 x0)).setCell ⟨p7, 1, none⟩ (.int .i64 x1) = wib at hQ ⊢
        by_cases h2 : fc c < fc ko
        · have op : Own2 wib p8 (.int .i64 o0) (.int .i64 o1) := Own2.of hQ.q
          rw [decide_eq_true h2] at q53o
          refine (wpIn_wide (n := 0)).1 ?_
          refine Many.region_many (Go.Proofs.Ytbocmbhinjkjlaa.Cb wib) mixed_ok (by kernel_rfl) (fun _ _ _ _ h => h) (fun s _ => Go.Proofs.Ytbocmbhinjkjlaa.Cb.start wib s) ?_
          refine Many.lex_want (by rfl) (rdb (fun w hb => by (go_simp; try rfl))) ?_
          simp only [Act.put, List.setIfInBounds_toArray, List.set_cons_succ, List.set_cons_zero, Nat.reduceAdd]
          refine Many.lex_want (by rfl) (rdb (fun w hb => by (go_simp; try rfl))) ?_
          simp only [Act.put, List.setIfInBounds_toArray, List.set_cons_succ, List.set_cons_zero, Nat.reduceAdd]
          refine Many.lex_want (by rfl) (rdb (v := .pointer (some ⟨G3, j * 2, none⟩)) (fun w hb => by (skip; go_simp; try rfl))) ?_
          simp only [Act.put, List.setIfInBounds_toArray, List.set_cons_succ, List.set_cons_zero, Nat.reduceAdd]
          refine Many.lex_want (by rfl) (rdb (v := .agg #[.int .i64 y0, .int .i64 y1]) (fun w hb => by (obtain ⟨c0, c1⟩ := hCj _ (hQ.bw.trans (hb.mono hQ.size)); go_simp; try rfl))) ?_
          simp only [Act.put, List.setIfInBounds_toArray, List.set_cons_succ, List.set_cons_zero, Nat.reduceAdd]
          refine Many.lex_want (by rfl) (rdb (v := .agg #[.int .i64 o0, .int .i64 o1]) (fun w hb => by (obtain ⟨c0, c1, f0, f1⟩ := (op).after hb; go_simp; try rfl))) ?_
          simp only [Act.put, List.setIfInBounds_toArray, List.set_cons_succ, List.set_cons_zero, Nat.reduceAdd]
          refine Many.lex_want (by rfl) (clb q53o (fun w hb => by (go_simp; try rfl))) ?_
          simp only [Act.put, List.setIfInBounds_toArray, List.set_cons_succ, List.set_cons_zero, Nat.reduceAdd]
          refine Many.lex_nil fun s wiba hs hC => ?_
          have hC : Below wib.heap.size wib wiba := hC
          have hQ := hQ.after hC
          clear hC hs op q53o
          obtain ⟨c0, c1⟩ := hCj _ hQ.bw
          obtain ⟨c50, c51, f50, f51⟩ := (Own2.of hQ.q : Own2 wiba p8 (.int .i64 o0) (.int .i64 o1))
          go_wp2
          clear c0 c1 c50 c51 f50 f51
          have hQ := hQ.setQ hN y0 y1
          generalize (wiba.setCell ⟨p8, 0, none⟩ (.int .i64 y0)).setCell ⟨p8, 1, none⟩ (.int .i64 y1) = wibb at hQ ⊢
          refine (wpIn_wide (n := 0)).1 ?_
          refine Inv.region_inv (fun t act W => ∃ p9, act = { tmps := #[Value.slice A0 n0 cap0, Value.int IntKind.i64 F, Value.int IntKind.i64 R, undef, undef, undef, Value.bool false, Value.slice (some ⟨gz, oz, none⟩) n cap, Value.slice (some ⟨G1, 0, none⟩) n n, Value.int IntKind.i64 0, Value.slice (some ⟨G2, 0, none⟩) n n, Value.int IntKind.i64 0, Value.slice (some ⟨G3, 0, none⟩) n n, Value.int IntKind.i64 0, Value.pointer (some ⟨p7, 0, none⟩), Value.pointer (some ⟨p8, 0, none⟩), Value.pointer (some ⟨r7, 0, none⟩), Value.pointer (some ⟨r8, 0, none⟩), Value.int IntKind.i64 (j : Nat), if t 10 = true then .pointer (some ⟨p9, 0, none⟩) else u19, u20, Value.tuple #[Value.slice (some ⟨gz, oz, none⟩) n cap, Value.int IntKind.i64 F], Value.slice A0 n0 cap0, Value.int IntKind.i64 E, Value.tuple #[Value.slice (some ⟨gz, oz, none⟩) n cap, Value.int IntKind.i64 F], Value.slice (some ⟨gz, oz, none⟩) n cap, Value.int IntKind.i64 F, Value.tuple #[Value.slice (some ⟨G1, 0, none⟩) n n, Value.int IntKind.i64 0], Value.slice (some ⟨gz, oz, none⟩) n cap, Value.int IntKind.i64 F, Value.tuple #[Value.slice (some ⟨G1, 0, none⟩) n n, Value.int IntKind.i64 0], Value.slice (some ⟨G1, 0, none⟩) n n, Value.int IntKind.i64 0, Value.tuple #[Value.slice (some ⟨G2, 0, none⟩) n n, Value.int IntKind.i64 0], Value.slice (some ⟨gz, oz, none⟩) n cap, Value.int IntKind.i64 F, Value.tuple #[Value.slice (some ⟨G2, 0, none⟩) n n, Value.int IntKind.i64 0], Value.slice (some ⟨G2, 0, none⟩) n n, Value.int IntKind.i64 0, Value.tuple #[Value.slice (some ⟨G3, 0, none⟩) n n, Value.int IntKind.i64 0], Value.int IntKind.i64 R, Value.int IntKind.i64 (r : Nat), Value.slice (some ⟨gz, oz, none⟩) n cap, Value.int IntKind.i64 F, Value.tuple #[Value.slice (some ⟨G3, 0, none⟩) n n, Value.int IntKind.i64 0], Value.slice (some ⟨G3, 0, none⟩) n n, Value.int IntKind.i64 0, Value.int IntKind.i64 0, Value.bool false, Value.bool false, Value.int IntKind.i64 0, Value.bool false, Value.bool false, Value.bool false, Value.int IntKind.i64 0, Value.bool false, Value.bool false, Value.bool false, Value.slice (some ⟨G1, 0, none⟩) n n, Value.int IntKind.i64 (n : Nat), Value.slice (some ⟨gz, oz, none⟩) n cap, Value.int IntKind.i64 (n : Nat), Value.bool false, Value.bool false, Value.bool false, Value.slice (some ⟨G2, 0, none⟩) n n, Value.int IntKind.i64 (n : Nat), Value.slice (some ⟨gz, oz, none⟩) n cap, Value.int IntKind.i64 (n : Nat), Value.bool false, Value.bool false, Value.bool false, Value.slice (some ⟨G3, 0, none⟩) n n, Value.int IntKind.i64 (n : Nat), Value.slice (some ⟨gz, oz, none⟩) n cap, Value.int IntKind.i64 (n : Nat), Value.bool false, Value.bool false, Value.bool false, Value.slice (some ⟨G1, 0, none⟩) n n, Value.bool true, Value.bool false, Value.bool false, Value.bool false, Value.slice (some ⟨G2, 0, none⟩) n n, Value.bool true, Value.bool false, Value.bool false, Value.bool false, Value.slice (some ⟨G3, 0, none⟩) n n, Value.bool true, Value.bool false, Value.bool false, Value.slice (some ⟨G1, 0, none⟩) n n, Value.pointer (some ⟨G1, 0, none⟩), Value.agg #[Value.int IntKind.i64 a0, Value.int IntKind.i64 a1], Value.slice (some ⟨G3, 0, none⟩) n n, Value.pointer (some ⟨G3, 0, none⟩), Value.agg #[Value.int IntKind.i64 cc0, Value.int IntKind.i64 cc1], Value.slice (some ⟨gz, oz, none⟩) n cap, Value.pointer (some ⟨gz, oz, none⟩), Value.int IntKind.i64 z0, Value.agg #[Value.int IntKind.i64 z0, Value.int IntKind.i64 1], Value.slice (some ⟨G2, 0, none⟩) n n, Value.pointer (some ⟨G2, 0, none⟩), Value.agg #[Value.int IntKind.i64 ib0, Value.int IntKind.i64 ib1], Value.agg #[Value.int IntKind.i64 il0, Value.int IntKind.i64 il1], Value.slice (some ⟨gz, oz, none⟩) n cap, Value.pointer (some ⟨gz, oz, none⟩), Value.int IntKind.i64 z0, Value.agg #[Value.int IntKind.i64 z0, Value.int IntKind.i64 1], Value.slice (some ⟨G3, 0, none⟩) n n, Value.pointer (some ⟨G3, 0, none⟩), Value.agg #[Value.int IntKind.i64 cc0, Value.int IntKind.i64 cc1], Value.agg #[Value.int IntKind.i64 im0, Value.int IntKind.i64 im1], Value.int IntKind.i64 (j : Nat), Value.slice (some ⟨gz, oz, none⟩) n cap, Value.int IntKind.i64 (n : Nat), Value.bool true, u119, u120, .slice (some ⟨G1, 0, none⟩) n n, .int .i64 (j : Nat), .pointer (some ⟨G1, j * 2, none⟩), .agg #[.int .i64 x0, .int .i64 x1], .agg #[.int .i64 s0, .int .i64 s1], .bool true, .slice (some ⟨G1, 0, none⟩) n n, .int .i64 (j : Nat), .pointer (some ⟨G1, j * 2, none⟩), .agg #[.int .i64 x0, .int .i64 x1], .slice (some ⟨G3, 0, none⟩) n n, .int .i64 (j : Nat), .pointer (some ⟨G3, j * 2, none⟩), .agg #[.int .i64 y0, .int .i64 y1], .agg #[.int .i64 o0, .int .i64 o1], .bool true, .slice (some ⟨G3, 0, none⟩) n n, .int .i64 (j : Nat), .pointer (some ⟨G3, j * 2, none⟩), .agg #[.int .i64 y0, .int .i64 y1], if t 0 = true then .slice (some ⟨gz, oz, none⟩) n cap else u141, if t 1 = true then .int .i64 (j : Nat) else u142, if t 2 = true then .pointer (some ⟨gz, oz + j, none⟩) else u143, if t 3 = true then .int .i64 c else u144, if t 4 = true then .agg #[.int .i64 c, .int .i64 1] else u145, if t 5 = true then .slice (some ⟨G2, 0, none⟩) n n else u146, if t 6 = true then .int .i64 (j : Nat) else u147, if t 7 = true then .pointer (some ⟨G2, j * 2, none⟩) else u148, if t 8 = true then .agg #[.int .i64 b0, .int .i64 b1] else u149, if t 9 = true then .agg #[.int .i64 u0, .int .i64 u1] else u150, u151, u152, u153, u154, u155, u156, u157, u158, u159, u160, u161, u162, u163, u164, u165, u166, u167, u168, undef, undef, undef, undef, undef, undef, undef, undef, undef, undef, undef, undef, undef], defers := [] } ∧ Fv1 wibb 10 11 u0 u1 t p9 W) mixed_ok (by kernel_rfl) ?_ ?_ ?_
          · intro t hs
            refine ⟨0, ?_, Fv1.start (hs 10 (by decide)) (hs 11 (by decide))⟩
            simp only [hs 0 (by decide), hs 1 (by decide), hs 2 (by decide), hs 3 (by decide), hs 4 (by decide), hs 5 (by decide), hs 6 (by decide), hs 7 (by decide), hs 8 (by decide), hs 9 (by decide), hs 10 (by decide), hs 11 (by decide), Bool.false_eq_true, if_false]
          · refine ⟨?_, ?_, ?_, ?_, ?_, ?_, ?_, ?_, ?_, ?_, ?_, ?_, trivial⟩
            · rintro t act W hun hdep hbeh ⟨p9, rfl, hT⟩
              (try simp only [Nat.reduceAdd] at hun)
              refine .inl ⟨by rfl, Inv.comesV_val (.slice (some ⟨gz, oz, none⟩) n cap) W (by (go_simp; try rfl)) ⟨p9, by (simp only [Act.put, List.setIfInBounds_toArray, List.set_cons_succ, List.set_cons_zero, Manyd.upd, Nat.reduceAdd, Nat.reduceBEq, Bool.or_false, Bool.or_true, if_true]), Fv1.keep (i := 0) (by decide) (by decide) hT⟩⟩
            · rintro t act W hun hdep hbeh ⟨p9, rfl, hT⟩
              (try simp only [Nat.reduceAdd] at hun)
              refine .inl ⟨by rfl, Inv.comesV_val (.int .i64 (j : Nat)) W (by (go_simp; try rfl)) ⟨p9, by (simp only [Act.put, List.setIfInBounds_toArray, List.set_cons_succ, List.set_cons_zero, Manyd.upd, Nat.reduceAdd, Nat.reduceBEq, Bool.or_false, Bool.or_true, if_true]), Fv1.keep (i := 1) (by decide) (by decide) hT⟩⟩
            · rintro t act W hun hdep hbeh ⟨p9, rfl, hT⟩
              (try simp only [Nat.reduceAdd] at hun)
              have h0 : t 0 = true := Inv.depB_mem 0 hdep (by rfl)
              have h1 : t 1 = true := Inv.depB_mem 1 hdep (by rfl)
              refine .inl ⟨by rfl, Inv.comesV_val (.pointer (some ⟨gz, oz + j, none⟩)) W (by (simp only [h0, h1, if_true, Bool.false_eq_true, if_false]; go_simp; try rfl)) ⟨p9, by (simp only [Act.put, List.setIfInBounds_toArray, List.set_cons_succ, List.set_cons_zero, Manyd.upd, Nat.reduceAdd, Nat.reduceBEq, Bool.or_false, Bool.or_true, if_true]), Fv1.keep (i := 2) (by decide) (by decide) hT⟩⟩
            · rintro t act W hun hdep hbeh ⟨p9, rfl, hT⟩
              (try simp only [Nat.reduceAdd] at hun)
              have h2 : t 2 = true := Inv.depB_mem 2 hdep (by rfl)
              have c0 := hzj _ (hQ.bw.trans (hT.bw.mono hQ.size))
              refine .inl ⟨by rfl, Inv.comesV_val (.int .i64 c) W (by (simp only [h2, if_true, Bool.false_eq_true, if_false]; go_simp; try rfl)) ⟨p9, by (simp only [Act.put, List.setIfInBounds_toArray, List.set_cons_succ, List.set_cons_zero, Manyd.upd, Nat.reduceAdd, Nat.reduceBEq, Bool.or_false, Bool.or_true, if_true]), Fv1.keep (i := 3) (by decide) (by decide) hT⟩⟩
            · rintro t act W hun hdep hbeh ⟨p9, rfl, hT⟩
              (try simp only [Nat.reduceAdd] at hun)
              have h3 : t 3 = true := Inv.depB_mem 3 hdep (by rfl)
              refine .inl ⟨by rfl, Inv.comesV_call 29 #[.int .i64 c] W (by (simp only [h3, if_true, Bool.false_eq_true, if_false]; go_simp; try rfl)) ((q29 W).mono fun e w5 hw5 => ⟨_, hw5.1, p9, by (simp only [Act.put, List.setIfInBounds_toArray, List.set_cons_succ, List.set_cons_zero, Manyd.upd, Nat.reduceAdd, Nat.reduceBEq, Bool.or_false, Bool.or_true, if_true]), Fv1.keep (i := 4) (by decide) (by decide) (hT.after hw5.2)⟩)⟩
            · rintro t act W hun hdep hbeh ⟨p9, rfl, hT⟩
              (try simp only [Nat.reduceAdd] at hun)
              refine .inl ⟨by rfl, Inv.comesV_val (.slice (some ⟨G2, 0, none⟩) n n) W (by (go_simp; try rfl)) ⟨p9, by (simp only [Act.put, List.setIfInBounds_toArray, List.set_cons_succ, List.set_cons_zero, Manyd.upd, Nat.reduceAdd, Nat.reduceBEq, Bool.or_false, Bool.or_true, if_true]), Fv1.keep (i := 5) (by decide) (by decide) hT⟩⟩
            · rintro t act W hun hdep hbeh ⟨p9, rfl, hT⟩
              (try simp only [Nat.reduceAdd] at hun)
              refine .inl ⟨by rfl, Inv.comesV_val (.int .i64 (j : Nat)) W (by (go_simp; try rfl)) ⟨p9, by (simp only [Act.put, List.setIfInBounds_toArray, List.set_cons_succ, List.set_cons_zero, Manyd.upd, Nat.reduceAdd, Nat.reduceBEq, Bool.or_false, Bool.or_true, if_true]), Fv1.keep (i := 6) (by decide) (by decide) hT⟩⟩
            · rintro t act W hun hdep hbeh ⟨p9, rfl, hT⟩
              (try simp only [Nat.reduceAdd] at hun)
              have h5 : t 5 = true := Inv.depB_mem 5 hdep (by rfl)
              have h6 : t 6 = true := Inv.depB_mem 6 hdep (by rfl)
              refine .inl ⟨by rfl, Inv.comesV_val (.pointer (some ⟨G2, j * 2, none⟩)) W (by (simp only [h5, h6, if_true, Bool.false_eq_true, if_false]; go_simp; try rfl)) ⟨p9, by (simp only [Act.put, List.setIfInBounds_toArray, List.set_cons_succ, List.set_cons_zero, Manyd.upd, Nat.reduceAdd, Nat.reduceBEq, Bool.or_false, Bool.or_true, if_true]), Fv1.keep (i := 7) (by decide) (by decide) hT⟩⟩
            · rintro t act W hun hdep hbeh ⟨p9, rfl, hT⟩
              (try simp only [Nat.reduceAdd] at hun)
              have h7 : t 7 = true := Inv.depB_mem 7 hdep (by rfl)
              obtain ⟨c0, c1⟩ := hBj _ (hQ.bw.trans (hT.bw.mono hQ.size))
              refine .inl ⟨by rfl, Inv.comesV_val (.agg #[.int .i64 b0, .int .i64 b1]) W (by (simp only [h7, if_true, Bool.false_eq_true, if_false]; go_simp; try rfl)) ⟨p9, by (simp only [Act.put, List.setIfInBounds_toArray, List.set_cons_succ, List.set_cons_zero, Manyd.upd, Nat.reduceAdd, Nat.reduceBEq, Bool.or_false, Bool.or_true, if_true]), Fv1.keep (i := 8) (by decide) (by decide) hT⟩⟩
            · rintro t act W hun hdep hbeh ⟨p9, rfl, hT⟩
              (try simp only [Nat.reduceAdd] at hun)
              have h4 : t 4 = true := Inv.depB_mem 4 hdep (by rfl)
              have h8 : t 8 = true := Inv.depB_mem 8 hdep (by rfl)
              refine .inl ⟨by rfl, Inv.comesV_call 58 #[.agg #[.int .i64 c, .int .i64 1], .agg #[.int .i64 b0, .int .i64 b1]] W (by (simp only [h4, h8, if_true, Bool.false_eq_true, if_false]; go_simp; try rfl)) ((qb W).mono fun e w5 hw5 => ⟨_, hw5.1, p9, by (simp only [Act.put, List.setIfInBounds_toArray, List.set_cons_succ, List.set_cons_zero, Manyd.upd, Nat.reduceAdd, Nat.reduceBEq, Bool.or_false, Bool.or_true, if_true]), Fv1.keep (i := 9) (by decide) (by decide) (hT.after hw5.2)⟩)⟩
            · rintro t act W hun hdep hbeh ⟨p9, rfl, hT⟩
              (try simp only [Nat.reduceAdd] at hun)
              refine .inl ⟨by rfl, Inv.comesV_val (.pointer (some ⟨W.heap.size, 0, none⟩)) (W.alloc (.cells #[.int .i64 0, .int .i64 0] 37)) (by (go_simp; try rfl)) ⟨W.heap.size, by (simp only [Act.put, List.setIfInBounds_toArray, List.set_cons_succ, List.set_cons_zero, Manyd.upd, Nat.reduceAdd, Nat.reduceBEq, Bool.or_false, Bool.or_true, if_true]), hT.alloc7 (by decide) hun⟩⟩
            · rintro t act W hun hdep hbeh ⟨p9, rfl, hT⟩
              (try simp only [Nat.reduceAdd] at hun)
              have h10 : t 10 = true := Inv.depB_mem 10 hdep (by rfl)
              have h9 : t 9 = true := Inv.depB_mem 9 hdep (by rfl)
              obtain ⟨c0, c1, f0, f1⟩ := hT.own7 h10 hun
              refine .inl ⟨by rfl, Inv.comesV_skip ((W.setCell ⟨p9, 0, none⟩ (.int .i64 u0)).setCell ⟨p9, 1, none⟩ (.int .i64 u1)) (by (simp only [h10, h9, if_true, Bool.false_eq_true, if_false]; go_simp; try rfl)) ⟨p9, by (simp only [Act.put, List.setIfInBounds_toArray, List.set_cons_succ, List.set_cons_zero, Manyd.upd, Nat.reduceAdd, Nat.reduceBEq, Bool.or_false, Bool.or_true, if_true]), hT.set7 (by decide) h10 hun⟩⟩
          rintro t a' wibbc hs ⟨p9, rfl, hT⟩
          simp only [hs 0 (by decide), hs 1 (by decide), hs 2 (by decide), hs 3 (by decide), hs 4 (by decide), hs 5 (by decide), hs 6 (by decide), hs 7 (by decide), hs 8 (by decide), hs 9 (by decide), hs 10 (by decide), hs 11 (by decide), if_true]
          obtain ⟨hg9, b9⟩ := hT.a7 (hs 10 (by decide))
          rw [if_pos (hs 11 (by decide))] at b9
          have o9 := Own2.of b9
          have hQ := hQ.after hT.bw
          have ov : Own2 wibbc r7 (.int .i64 l0) (.int .i64 l1) := Own2.of hQ.r
          clear hT hs b9 hg9
          by_cases h3 : fl < fl'
          · rw [decide_eq_true h3] at q53l
            obtain ⟨c90, c91, f90, f91⟩ := o9
            obtain ⟨c50, c51, f50, f51⟩ := ov
            go_wp2_with (go_at_call 53; (with_reducible refine (q53l _).mono ?_); rintro e wibbd ⟨rfl, hbe⟩
                         have hQ := hQ.after hbe
                         obtain ⟨d90, d91, g90, g91⟩ := (⟨c90, c91, f90, f91⟩ : Own2 wibbc p9 (.int .i64 u0) (.int .i64 u1)).after hbe
                         obtain ⟨d50, d51, g50, g51⟩ := (⟨c50, c51, f50, f51⟩ : Own2 wibbc r7 (.int .i64 l0) (.int .i64 l1)).after hbe
                         clear hbe q53l c90 c91 f90 f91 c50 c51 f50 f51)
            clear d90 d91 g90 g91 d50 d51 g50 g51
            have hQ := hQ.setR hN u0 u1
            generalize (wibbd.setCell ⟨r7, 0, none⟩ (.int .i64 u0)).setCell ⟨r7, 1, none⟩ (.int .i64 u1) = wibbe at hQ ⊢
            refine (wpIn_wide (n := 0)).1 ?_
            refine Inv.region_inv (fun t act W => ∃ p10, act = { tmps := #[Value.slice A0 n0 cap0, Value.int IntKind.i64 F, Value.int IntKind.i64 R, undef, undef, undef, Value.bool false, Value.slice (some ⟨gz, oz, none⟩) n cap, Value.slice (some ⟨G1, 0, none⟩) n n, Value.int IntKind.i64 0, Value.slice (some ⟨G2, 0, none⟩) n n, Value.int IntKind.i64 0, Value.slice (some ⟨G3, 0, none⟩) n n, Value.int IntKind.i64 0, Value.pointer (some ⟨p7, 0, none⟩), Value.pointer (some ⟨p8, 0, none⟩), Value.pointer (some ⟨r7, 0, none⟩), Value.pointer (some ⟨r8, 0, none⟩), Value.int IntKind.i64 (j : Nat), .pointer (some ⟨p9, 0, none⟩), if t 10 = true then .pointer (some ⟨p10, 0, none⟩) else u20, Value.tuple #[Value.slice (some ⟨gz, oz, none⟩) n cap, Value.int IntKind.i64 F], Value.slice A0 n0 cap0, Value.int IntKind.i64 E, Value.tuple #[Value.slice (some ⟨gz, oz, none⟩) n cap, Value.int IntKind.i64 F], Value.slice (some ⟨gz, oz, none⟩) n cap, Value.int IntKind.i64 F, Value.tuple #[Value.slice (some ⟨G1, 0, none⟩) n n, Value.int IntKind.i64 0], Value.slice (some ⟨gz, oz, none⟩) n cap, Value.int IntKind.i64 F, Value.tuple #[Value.slice (some ⟨G1, 0, none⟩) n n, Value.int IntKind.i64 0], Value.slice (some ⟨G1, 0, none⟩) n n, Value.int IntKind.i64 0, Value.tuple #[Value.slice (some ⟨G2, 0, none⟩) n n, Value.int IntKind.i64 0], Value.slice (some ⟨gz, oz, none⟩) n cap, Value.int IntKind.i64 F, Value.tuple #[Value.slice (some ⟨G2, 0, none⟩) n n, Value.int IntKind.i64 0], Value.slice (some ⟨G2, 0, none⟩) n n, Value.int IntKind.i64 0, Value.tuple #[Value.slice (some ⟨G3, 0, none⟩) n n, Value.int IntKind.i64 0], Value.int IntKind.i64 R, Value.int IntKind.i64 (r : Nat), Value.slice (some ⟨gz, oz, none⟩) n cap, Value.int IntKind.i64 F, Value.tuple #[Value.slice (some ⟨G3, 0, none⟩) n n, Value.int IntKind.i64 0], Value.slice (some ⟨G3, 0, none⟩) n n, Value.int IntKind.i64 0, Value.int IntKind.i64 0, Value.bool false, Value.bool false, Value.int IntKind.i64 0, Value.bool false, Value.bool false, Value.bool false, Value.int IntKind.i64 0, Value.bool false, Value.bool false, Value.bool false, Value.slice (some ⟨G1, 0, none⟩) n n, Value.int IntKind.i64 (n : Nat), Value.slice (some ⟨gz, oz, none⟩) n cap, Value.int IntKind.i64 (n : Nat), Value.bool false, Value.bool false, Value.bool false, Value.slice (some ⟨G2, 0, none⟩) n n, Value.int IntKind.i64 (n : Nat), Value.slice (some ⟨gz, oz, none⟩) n cap, Value.int IntKind.i64 (n : Nat), Value.bool false, Value.bool false, Value.bool false, Value.slice (some ⟨G3, 0, none⟩) n n, Value.int IntKind.i64 (n : Nat), Value.slice (some ⟨gz, oz, none⟩) n cap, Value.int IntKind.i64 (n : Nat), Value.bool false, Value.bool false, Value.bool false, Value.slice (some ⟨G1, 0, none⟩) n n, Value.bool true, Value.bool false, Value.bool false, Value.bool false, Value.slice (some ⟨G2, 0, none⟩) n n, Value.bool true, Value.bool false, Value.bool false, Value.bool false, Value.slice (some ⟨G3, 0, none⟩) n n, Value.bool true, Value.bool false, Value.bool false, Value.slice (some ⟨G1, 0, none⟩) n n, Value.pointer (some ⟨G1, 0, none⟩), Value.agg #[Value.int IntKind.i64 a0, Value.int IntKind.i64 a1], Value.slice (some ⟨G3, 0, none⟩) n n, Value.pointer (some ⟨G3, 0, none⟩), Value.agg #[Value.int IntKind.i64 cc0, Value.int IntKind.i64 cc1], Value.slice (some ⟨gz, oz, none⟩) n cap, Value.pointer (some ⟨gz, oz, none⟩), Value.int IntKind.i64 z0, Value.agg #[Value.int IntKind.i64 z0, Value.int IntKind.i64 1], Value.slice (some ⟨G2, 0, none⟩) n n, Value.pointer (some ⟨G2, 0, none⟩), Value.agg #[Value.int IntKind.i64 ib0, Value.int IntKind.i64 ib1], Value.agg #[Value.int IntKind.i64 il0, Value.int IntKind.i64 il1], Value.slice (some ⟨gz, oz, none⟩) n cap, Value.pointer (some ⟨gz, oz, none⟩), Value.int IntKind.i64 z0, Value.agg #[Value.int IntKind.i64 z0, Value.int IntKind.i64 1], Value.slice (some ⟨G3, 0, none⟩) n n, Value.pointer (some ⟨G3, 0, none⟩), Value.agg #[Value.int IntKind.i64 cc0, Value.int IntKind.i64 cc1], Value.agg #[Value.int IntKind.i64 im0, Value.int IntKind.i64 im1], Value.int IntKind.i64 (j : Nat), Value.slice (some ⟨gz, oz, none⟩) n cap, Value.int IntKind.i64 (n : Nat), Value.bool true, u119, u120, .slice (some ⟨G1, 0, none⟩) n n, .int .i64 (j : Nat), .pointer (some ⟨G1, j * 2, none⟩), .agg #[.int .i64 x0, .int .i64 x1], .agg #[.int .i64 s0, .int .i64 s1], .bool true, .slice (some ⟨G1, 0, none⟩) n n, .int .i64 (j : Nat), .pointer (some ⟨G1, j * 2, none⟩), .agg #[.int .i64 x0, .int .i64 x1], .slice (some ⟨G3, 0, none⟩) n n, .int .i64 (j : Nat), .pointer (some ⟨G3, j * 2, none⟩), .agg #[.int .i64 y0, .int .i64 y1], .agg #[.int .i64 o0, .int .i64 o1], .bool true, .slice (some ⟨G3, 0, none⟩) n n, .int .i64 (j : Nat), .pointer (some ⟨G3, j * 2, none⟩), .agg #[.int .i64 y0, .int .i64 y1], .slice (some ⟨gz, oz, none⟩) n cap, .int .i64 (j : Nat), .pointer (some ⟨gz, oz + j, none⟩), .int .i64 c, .agg #[.int .i64 c, .int .i64 1], .slice (some ⟨G2, 0, none⟩) n n, .int .i64 (j : Nat), .pointer (some ⟨G2, j * 2, none⟩), .agg #[.int .i64 b0, .int .i64 b1], .agg #[.int .i64 u0, .int .i64 u1], .agg #[.int .i64 l0, .int .i64 l1], .agg #[.int .i64 u0, .int .i64 u1], .bool true, .agg #[.int .i64 u0, .int .i64 u1], if t 0 = true then .slice (some ⟨gz, oz, none⟩) n cap else u155, if t 1 = true then .int .i64 (j : Nat) else u156, if t 2 = true then .pointer (some ⟨gz, oz + j, none⟩) else u157, if t 3 = true then .int .i64 c else u158, if t 4 = true then .agg #[.int .i64 c, .int .i64 1] else u159, if t 5 = true then .slice (some ⟨G3, 0, none⟩) n n else u160, if t 6 = true then .int .i64 (j : Nat) else u161, if t 7 = true then .pointer (some ⟨G3, j * 2, none⟩) else u162, if t 8 = true then .agg #[.int .i64 y0, .int .i64 y1] else u163, if t 9 = true then .agg #[.int .i64 v0, .int .i64 v1] else u164, u165, u166, u167, u168, undef, undef, undef, undef, undef, undef, undef, undef, undef, undef, undef, undef, undef], defers := [] } ∧ Fv1 wibbe 10 11 v0 v1 t p10 W) mixed_ok (by kernel_rfl) ?_ ?_ ?_
            · intro t hs
              refine ⟨0, ?_, Fv1.start (hs 10 (by decide)) (hs 11 (by decide))⟩
              simp only [hs 0 (by decide), hs 1 (by decide), hs 2 (by decide), hs 3 (by decide), hs 4 (by decide), hs 5 (by decide), hs 6 (by decide), hs 7 (by decide), hs 8 (by decide), hs 9 (by decide), hs 10 (by decide), hs 11 (by decide), Bool.false_eq_true, if_false]
            · refine ⟨?_, ?_, ?_, ?_, ?_, ?_, ?_, ?_, ?_, ?_, ?_, ?_, trivial⟩
              · rintro t act W hun hdep hbeh ⟨p10, rfl, hT⟩
                (try simp only [Nat.reduceAdd] at hun)
                refine .inl ⟨by rfl, Inv.comesV_val (.slice (some ⟨gz, oz, none⟩) n cap) W (by (go_simp; try rfl)) ⟨p10, by (simp only [Act.put, List.setIfInBounds_toArray, List.set_cons_succ, List.set_cons_zero, Manyd.upd, Nat.reduceAdd, Nat.reduceBEq, Bool.or_false, Bool.or_true, if_true]), Fv1.keep (i := 0) (by decide) (by decide) hT⟩⟩
              · rintro t act W hun hdep hbeh ⟨p10, rfl, hT⟩
                (try simp only [Nat.reduceAdd] at hun)
                refine .inl ⟨by rfl, Inv.comesV_val (.int .i64 (j : Nat)) W (by (go_simp; try rfl)) ⟨p10, by (simp only [Act.put, List.setIfInBounds_toArray, List.set_cons_succ, List.set_cons_zero, Manyd.upd, Nat.reduceAdd, Nat.reduceBEq, Bool.or_false, Bool.or_true, if_true]), Fv1.keep (i := 1) (by decide) (by decide) hT⟩⟩
              · rintro t act W hun hdep hbeh ⟨p10, rfl, hT⟩
                (try simp only [Nat.reduceAdd] at hun)
                have h0 : t 0 = true := Inv.depB_mem 0 hdep (by rfl)
                have h1 : t 1 = true := Inv.depB_mem 1 hdep (by rfl)
                refine .inl ⟨by rfl, Inv.comesV_val (.pointer (some ⟨gz, oz + j, none⟩)) W (by (simp only [h0, h1, if_true, Bool.false_eq_true, if_false]; go_simp; try rfl)) ⟨p10, by (simp only [Act.put, List.setIfInBounds_toArray, List.set_cons_succ, List.set_cons_zero, Manyd.upd, Nat.reduceAdd, Nat.reduceBEq, Bool.or_false, Bool.or_true, if_true]), Fv1.keep (i := 2) (by decide) (by decide) hT⟩⟩
              · rintro t act W hun hdep hbeh ⟨p10, rfl, hT⟩
                (try simp only [Nat.reduceAdd] at hun)
                have h2 : t 2 = true := Inv.depB_mem 2 hdep (by rfl)
                have c0 := hzj _ (hQ.bw.trans (hT.bw.mono hQ.size))
                refine .inl ⟨by rfl, Inv.comesV_val (.int .i64 c) W (by (simp only [h2, if_true, Bool.false_eq_true, if_false]; go_simp; try rfl)) ⟨p10, by (simp only [Act.put, List.setIfInBounds_toArray, List.set_cons_succ, List.set_cons_zero, Manyd.upd, Nat.reduceAdd, Nat.reduceBEq, Bool.or_false, Bool.or_true, if_true]), Fv1.keep (i := 3) (by decide) (by decide) hT⟩⟩
              · rintro t act W hun hdep hbeh ⟨p10, rfl, hT⟩
                (try simp only [Nat.reduceAdd] at hun)
                have h3 : t 3 = true := Inv.depB_mem 3 hdep (by rfl)
                refine .inl ⟨by rfl, Inv.comesV_call 29 #[.int .i64 c] W (by (simp only [h3, if_true, Bool.false_eq_true, if_false]; go_simp; try rfl)) ((q29 W).mono fun e w5 hw5 => ⟨_, hw5.1, p10, by (simp only [Act.put, List.setIfInBounds_toArray, List.set_cons_succ, List.set_cons_zero, Manyd.upd, Nat.reduceAdd, Nat.reduceBEq, Bool.or_false, Bool.or_true, if_true]), Fv1.keep (i := 4) (by decide) (by decide) (hT.after hw5.2)⟩)⟩
              · rintro t act W hun hdep hbeh ⟨p10, rfl, hT⟩
                (try simp only [Nat.reduceAdd] at hun)
                refine .inl ⟨by rfl, Inv.comesV_val (.slice (some ⟨G3, 0, none⟩) n n) W (by (go_simp; try rfl)) ⟨p10, by (simp only [Act.put, List.setIfInBounds_toArray, List.set_cons_succ, List.set_cons_zero, Manyd.upd, Nat.reduceAdd, Nat.reduceBEq, Bool.or_false, Bool.or_true, if_true]), Fv1.keep (i := 5) (by decide) (by decide) hT⟩⟩
              · rintro t act W hun hdep hbeh ⟨p10, rfl, hT⟩
                (try simp only [Nat.reduceAdd] at hun)
                refine .inl ⟨by rfl, Inv.comesV_val (.int .i64 (j : Nat)) W (by (go_simp; try rfl)) ⟨p10, by (simp only [Act.put, List.setIfInBounds_toArray, List.set_cons_succ, List.set_cons_zero, Manyd.upd, Nat.reduceAdd, Nat.reduceBEq, Bool.or_false, Bool.or_true, if_true]), Fv1.keep (i := 6) (by decide) (by decide) hT⟩⟩
              · rintro t act W hun hdep hbeh ⟨p10, rfl, hT⟩
                (try simp only [Nat.reduceAdd] at hun)
                have h5 : t 5 = true := Inv.depB_mem 5 hdep (by rfl)
                have h6 : t 6 = true := Inv.depB_mem 6 hdep (by rfl)
                refine .inl ⟨by rfl, Inv.comesV_val (.pointer (some ⟨G3, j * 2, none⟩)) W (by (simp only [h5, h6, if_true, Bool.false_eq_true, if_false]; go_simp; try rfl)) ⟨p10, by (simp only [Act.put, List.setIfInBounds_toArray, List.set_cons_succ, List.set_cons_zero, Manyd.upd, Nat.reduceAdd, Nat.reduceBEq, Bool.or_false, Bool.or_true, if_true]), Fv1.keep (i := 7) (by decide) (by decide) hT⟩⟩
              · rintro t act W hun hdep hbeh ⟨p10, rfl, hT⟩
                (try simp only [Nat.reduceAdd] at hun)
                have h7 : t 7 = true := Inv.depB_mem 7 hdep (by rfl)
                obtain ⟨c0, c1⟩ := hCj _ (hQ.bw.trans (hT.bw.mono hQ.size))
                refine .inl ⟨by rfl, Inv.comesV_val (.agg #[.int .i64 y0, .int .i64 y1]) W (by (simp only [h7, if_true, Bool.false_eq_true, if_false]; go_simp; try rfl)) ⟨p10, by (simp only [Act.put, List.setIfInBounds_toArray, List.set_cons_succ, List.set_cons_zero, Manyd.upd, Nat.reduceAdd, Nat.reduceBEq, Bool.or_false, Bool.or_true, if_true]), Fv1.keep (i := 8) (by decide) (by decide) hT⟩⟩
              · rintro t act W hun hdep hbeh ⟨p10, rfl, hT⟩
                (try simp only [Nat.reduceAdd] at hun)
                have h4 : t 4 = true := Inv.depB_mem 4 hdep (by rfl)
                have h8 : t 8 = true := Inv.depB_mem 8 hdep (by rfl)
                refine .inl ⟨by rfl, Inv.comesV_call 58 #[.agg #[.int .i64 c, .int .i64 1], .agg #[.int .i64 y0, .int .i64 y1]] W (by (simp only [h4, h8, if_true, Bool.false_eq_true, if_false]; go_simp; try rfl)) ((qc W).mono fun e w5 hw5 => ⟨_, hw5.1, p10, by (simp only [Act.put, List.setIfInBounds_toArray, List.set_cons_succ, List.set_cons_zero, Manyd.upd, Nat.reduceAdd, Nat.reduceBEq, Bool.or_false, Bool.or_true, if_true]), Fv1.keep (i := 9) (by decide) (by decide) (hT.after hw5.2)⟩)⟩
              · rintro t act W hun hdep hbeh ⟨p10, rfl, hT⟩
                (try simp only [Nat.reduceAdd] at hun)
                refine .inl ⟨by rfl, Inv.comesV_val (.pointer (some ⟨W.heap.size, 0, none⟩)) (W.alloc (.cells #[.int .i64 0, .int .i64 0] 37)) (by (go_simp; try rfl)) ⟨W.heap.size, by (simp only [Act.put, List.setIfInBounds_toArray, List.set_cons_succ, List.set_cons_zero, Manyd.upd, Nat.reduceAdd, Nat.reduceBEq, Bool.or_false, Bool.or_true, if_true]), hT.alloc7 (by decide) hun⟩⟩
              · rintro t act W hun hdep hbeh ⟨p10, rfl, hT⟩
                (try simp only [Nat.reduceAdd] at hun)
                have h10 : t 10 = true := Inv.depB_mem 10 hdep (by rfl)
                have h9 : t 9 = true := Inv.depB_mem 9 hdep (by rfl)
                obtain ⟨c0, c1, f0, f1⟩ := hT.own7 h10 hun
                refine .inl ⟨by rfl, Inv.comesV_skip ((W.setCell ⟨p10, 0, none⟩ (.int .i64 v0)).setCell ⟨p10, 1, none⟩ (.int .i64 v1)) (by (simp only [h10, h9, if_true, Bool.false_eq_true, if_false]; go_simp; try rfl)) ⟨p10, by (simp only [Act.put, List.setIfInBounds_toArray, List.set_cons_succ, List.set_cons_zero, Manyd.upd, Nat.reduceAdd, Nat.reduceBEq, Bool.or_false, Bool.or_true, if_true]), hT.set7 (by decide) h10 hun⟩⟩
            rintro t a' wibbec hs ⟨p10, rfl, hT⟩
            simp only [hs 0 (by decide), hs 1 (by decide), hs 2 (by decide), hs 3 (by decide), hs 4 (by decide), hs 5 (by decide), hs 6 (by decide), hs 7 (by decide), hs 8 (by decide), hs 9 (by decide), hs 10 (by decide), hs 11 (by decide), if_true]
            obtain ⟨hg9, b9⟩ := hT.a7 (hs 10 (by decide))
            rw [if_pos (hs 11 (by decide))] at b9
            have o9 := Own2.of b9
            have hQ := hQ.after hT.bw
            have ov : Own2 wibbec r8 (.int .i64 m0) (.int .i64 m1) := Own2.of hQ.s
            clear hT hs b9 hg9
            by_cases h4 : fm < fm'
            · rw [decide_eq_true h4] at q53m
              obtain ⟨c90, c91, f90, f91⟩ := o9
              obtain ⟨c50, c51, f50, f51⟩ := ov
              go_wp2_with (go_at_call 53; (with_reducible refine (q53m _).mono ?_); rintro e wibbed ⟨rfl, hbe⟩
                           have hQ := hQ.after hbe
                           obtain ⟨d90, d91, g90, g91⟩ := (⟨c90, c91, f90, f91⟩ : Own2 wibbec p10 (.int .i64 v0) (.int .i64 v1)).after hbe
                           obtain ⟨d50, d51, g50, g51⟩ := (⟨c50, c51, f50, f51⟩ : Own2 wibbec r8 (.int .i64 m0) (.int .i64 m1)).after hbe
                           clear hbe q53m c90 c91 f90 f91 c50 c51 f50 f51)
              clear d90 d91 g90 g91 d50 d51 g50 g51
              have hQ := hQ.setS hN v0 v1
              generalize (wibbed.setCell ⟨r8, 0, none⟩ (.int .i64 v0)).setCell ⟨r8, 1, none⟩ (.int .i64 v1) = wibbee at hQ ⊢
              exact ⟨fin _ _ _ _ _ hQ ⟨.inr ⟨rfl, by omega⟩⟩ ⟨.inr ⟨rfl, by omega⟩⟩ ⟨.inr ⟨rfl, by omega⟩⟩ ⟨.inr ⟨rfl, by omega⟩⟩, by simp [intOf]; omega⟩
            · rw [decide_eq_false h4] at q53m
              obtain ⟨c90, c91, f90, f91⟩ := o9
              obtain ⟨c50, c51, f50, f51⟩ := ov
              go_wp2_with (go_at_call 53; (with_reducible refine (q53m _).mono ?_); rintro e wibbed ⟨rfl, hbe⟩
                           have hQ := hQ.after hbe
                           obtain ⟨d90, d91, g90, g91⟩ := (⟨c90, c91, f90, f91⟩ : Own2 wibbec p10 (.int .i64 v0) (.int .i64 v1)).after hbe
                           obtain ⟨d50, d51, g50, g51⟩ := (⟨c50, c51, f50, f51⟩ : Own2 wibbec r8 (.int .i64 m0) (.int .i64 m1)).after hbe
                           clear hbe q53m c90 c91 f90 f91 c50 c51 f50 f51)
              clear d90 d91 g90 g91 d50 d51 g50 g51
              obtain ⟨wibbee, rfl⟩ : ∃ x, x = wibbed := ⟨_, rfl⟩
              exact ⟨fin _ _ _ _ _ hQ ⟨.inr ⟨rfl, by omega⟩⟩ ⟨.inr ⟨rfl, by omega⟩⟩ ⟨.inr ⟨rfl, by omega⟩⟩ ⟨.inl ⟨rfl, by omega⟩⟩, by simp [intOf]; omega⟩
          · rw [decide_eq_false h3] at q53l
            obtain ⟨c90, c91, f90, f91⟩ := o9
            obtain ⟨c50, c51, f50, f51⟩ := ov
            go_wp2_with (go_at_call 53; (with_reducible refine (q53l _).mono ?_); rintro e wibbd ⟨rfl, hbe⟩
                         have hQ := hQ.after hbe
                         obtain ⟨d90, d91, g90, g91⟩ := (⟨c90, c91, f90, f91⟩ : Own2 wibbc p9 (.int .i64 u0) (.int .i64 u1)).after hbe
                         obtain ⟨d50, d51, g50, g51⟩ := (⟨c50, c51, f50, f51⟩ : Own2 wibbc r7 (.int .i64 l0) (.int .i64 l1)).after hbe
                         clear hbe q53l c90 c91 f90 f91 c50 c51 f50 f51)
            clear d90 d91 g90 g91 d50 d51 g50 g51
            obtain ⟨wibbe, rfl⟩ : ∃ x, x = wibbd := ⟨_, rfl⟩
            refine (wpIn_wide (n := 0)).1 ?_
            refine Inv.region_inv (fun t act W => ∃ p10, act = { tmps := #[Value.slice A0 n0 cap0, Value.int IntKind.i64 F, Value.int IntKind.i64 R, undef, undef, undef, Value.bool false, Value.slice (some ⟨gz, oz, none⟩) n cap, Value.slice (some ⟨G1, 0, none⟩) n n, Value.int IntKind.i64 0, Value.slice (some ⟨G2, 0, none⟩) n n, Value.int IntKind.i64 0, Value.slice (some ⟨G3, 0, none⟩) n n, Value.int IntKind.i64 0, Value.pointer (some ⟨p7, 0, none⟩), Value.pointer (some ⟨p8, 0, none⟩), Value.pointer (some ⟨r7, 0, none⟩), Value.pointer (some ⟨r8, 0, none⟩), Value.int IntKind.i64 (j : Nat), .pointer (some ⟨p9, 0, none⟩), if t 10 = true then .pointer (some ⟨p10, 0, none⟩) else u20, Value.tuple #[Value.slice (some ⟨gz, oz, none⟩) n cap, Value.int IntKind.i64 F], Value.slice A0 n0 cap0, Value.int IntKind.i64 E, Value.tuple #[Value.slice (some ⟨gz, oz, none⟩) n cap, Value.int IntKind.i64 F], Value.slice (some ⟨gz, oz, none⟩) n cap, Value.int IntKind.i64 F, Value.tuple #[Value.slice (some ⟨G1, 0, none⟩) n n, Value.int IntKind.i64 0], Value.slice (some ⟨gz, oz, none⟩) n cap, Value.int IntKind.i64 F, Value.tuple #[Value.slice (some ⟨G1, 0, none⟩) n n, Value.int IntKind.i64 0], Value.slice (some ⟨G1, 0, none⟩) n n, Value.int IntKind.i64 0, Value.tuple #[Value.slice (some ⟨G2, 0, none⟩) n n, Value.int IntKind.i64 0], Value.slice (some ⟨gz, oz, none⟩) n cap, Value.int IntKind.i64 F, Value.tuple #[Value.slice (some ⟨G2, 0, none⟩) n n, Value.int IntKind.i64 0], Value.slice (some ⟨G2, 0, none⟩) n n, Value.int IntKind.i64 0, Value.tuple #[Value.slice (some ⟨G3, 0, none⟩) n n, Value.int IntKind.i64 0], Value.int IntKind.i64 R, Value.int IntKind.i64 (r : Nat), Value.slice (some ⟨gz, oz, none⟩) n cap, Value.int IntKind.i64 F, Value.tuple #[Value.slice (some ⟨G3, 0, none⟩) n n, Value.int IntKind.i64 0], Value.slice (some ⟨G3, 0, none⟩) n n, Value.int IntKind.i64 0, Value.int IntKind.i64 0, Value.bool false, Value.bool false, Value.int IntKind.i64 0, Value.bool false, Value.bool false, Value.bool false, Value.int IntKind.i64 0, Value.bool false, Value.bool false, Value.bool false, Value.slice (some ⟨G1, 0, none⟩) n n, Value.int IntKind.i64 (n : Nat), Value.slice (some ⟨gz, oz, none⟩) n cap, Value.int IntKind.i64 (n : Nat), Value.bool false, Value.bool false, Value.bool false, Value.slice (some ⟨G2, 0, none⟩) n n, Value.int IntKind.i64 (n : Nat), Value.slice (some ⟨gz, oz, none⟩) n cap, Value.int IntKind.i64 (n : Nat), Value.bool false, Value.bool false, Value.bool false, Value.slice (some ⟨G3, 0, none⟩) n n, Value.int IntKind.i64 (n : Nat), Value.slice (some ⟨gz, oz, none⟩) n cap, Value.int IntKind.i64 (n : Nat), Value.bool false, Value.bool false, Value.bool false, Value.slice (some ⟨G1, 0, none⟩) n n, Value.bool true, Value.bool false, Value.bool false, Value.bool false, Value.slice (some ⟨G2, 0, none⟩) n n, Value.bool true, Value.bool false, Value.bool false, Value.bool false, Value.slice (some ⟨G3, 0, none⟩) n n, Value.bool true, Value.bool false, Value.bool false, Value.slice (some ⟨G1, 0, none⟩) n n, Value.pointer (some ⟨G1, 0, none⟩), Value.agg #[Value.int IntKind.i64 a0, Value.int IntKind.i64 a1], Value.slice (some ⟨G3, 0, none⟩) n n, Value.pointer (some ⟨G3, 0, none⟩), Value.agg #[Value.int IntKind.i64 cc0, Value.int IntKind.i64 cc1], Value.slice (some ⟨gz, oz, none⟩) n cap, Value.pointer (some ⟨gz, oz, none⟩), Value.int IntKind.i64 z0, Value.agg #[Value.int IntKind.i64 z0, Value.int IntKind.i64 1], Value.slice (some ⟨G2, 0, none⟩) n n, Value.pointer (some ⟨G2, 0, none⟩), Value.agg #[Value.int IntKind.i64 ib0, Value.int IntKind.i64 ib1], Value.agg #[Value.int IntKind.i64 il0, Value.int IntKind.i64 il1], Value.slice (some ⟨gz, oz, none⟩) n cap, Value.pointer (some ⟨gz, oz, none⟩), Value.int IntKind.i64 z0, Value.agg #[Value.int IntKind.i64 z0, Value.int IntKind.i64 1], Value.slice (some ⟨G3, 0, none⟩) n n, Value.pointer (some ⟨G3, 0, none⟩), Value.agg #[Value.int IntKind.i64 cc0, Value.int IntKind.i64 cc1], Value.agg #[Value.int IntKind.i64 im0, Value.int IntKind.i64 im1], Value.int IntKind.i64 (j : Nat), Value.slice (some ⟨gz, oz, none⟩) n cap, Value.int IntKind.i64 (n : Nat), Value.bool true, u119, u120, .slice (some ⟨G1, 0, none⟩) n n, .int .i64 (j : Nat), .pointer (some ⟨G1, j * 2, none⟩), .agg #[.int .i64 x0, .int .i64 x1], .agg #[.int .i64 s0, .int .i64 s1], .bool true, .slice (some ⟨G1, 0, none⟩) n n, .int .i64 (j : Nat), .pointer (some ⟨G1, j * 2, none⟩), .agg #[.int .i64 x0, .int .i64 x1], .slice (some ⟨G3, 0, none⟩) n n, .int .i64 (j : Nat), .pointer (some ⟨G3, j * 2, none⟩), .agg #[.int .i64 y0, .int .i64 y1], .agg #[.int .i64 o0, .int .i64 o1], .bool true, .slice (some ⟨G3, 0, none⟩) n n, .int .i64 (j : Nat), .pointer (some ⟨G3, j * 2, none⟩), .agg #[.int .i64 y0, .int .i64 y1], .slice (some ⟨gz, oz, none⟩) n cap, .int .i64 (j : Nat), .pointer (some ⟨gz, oz + j, none⟩), .int .i64 c, .agg #[.int .i64 c, .int .i64 1], .slice (some ⟨G2, 0, none⟩) n n, .int .i64 (j : Nat), .pointer (some ⟨G2, j * 2, none⟩), .agg #[.int .i64 b0, .int .i64 b1], .agg #[.int .i64 u0, .int .i64 u1], .agg #[.int .i64 l0, .int .i64 l1], .agg #[.int .i64 u0, .int .i64 u1], .bool false, u154, if t 0 = true then .slice (some ⟨gz, oz, none⟩) n cap else u155, if t 1 = true then .int .i64 (j : Nat) else u156, if t 2 = true then .pointer (some ⟨gz, oz + j, none⟩) else u157, if t 3 = true then .int .i64 c else u158, if t 4 = true then .agg #[.int .i64 c, .int .i64 1] else u159, if t 5 = true then .slice (some ⟨G3, 0, none⟩) n n else u160, if t 6 = true then .int .i64 (j : Nat) else u161, if t 7 = true then .pointer (some ⟨G3, j * 2, none⟩) else u162, if t 8 = true then .agg #[.int .i64 y0, .int .i64 y1] else u163, if t 9 = true then .agg #[.int .i64 v0, .int .i64 v1] else u164, u165, u166, u167, u168, undef, undef, undef, undef, undef, undef, undef, undef, undef, undef, undef, undef, undef], defers := [] } ∧ Fv1 wibbe 10 11 v0 v1 t p10 W) mixed_ok (by kernel_rfl) ?_ ?_ ?_
            · intro t hs
              refine ⟨0, ?_, Fv1.start (hs 10 (by decide)) (hs 11 (by decide))⟩
              simp only [hs 0 (by decide), hs 1 (by decide), hs 2 (by decide), hs 3 (by decide), hs 4 (by decide), hs 5 (by decide), hs 6 (by decide), hs 7 (by decide), hs 8 (by decide), hs 9 (by decide), hs 10 (by decide), hs 11 (by decide), Bool.false_eq_true, if_false]
            · refine ⟨?_, ?_, ?_, ?_, ?_, ?_, ?_, ?_, ?_, ?_, ?_, ?_, trivial⟩
              · rintro t act W hun hdep hbeh ⟨p10, rfl, hT⟩
                (try simp only [Nat.reduceAdd] at hun)
                refine .inl ⟨by rfl, Inv.comesV_val (.slice (some ⟨gz, oz, none⟩) n cap) W (by (go_simp; try rfl)) ⟨p10, by (simp only [Act.put, List.setIfInBounds_toArray, List.set_cons_succ, List.set_cons_zero, Manyd.upd, Nat.reduceAdd, Nat.reduceBEq, Bool.or_false, Bool.or_true, if_true]), Fv1.keep (i := 0) (by decide) (by decide) hT⟩⟩
              · rintro t act W hun hdep hbeh ⟨p10, rfl, hT⟩
                (try simp only [Nat.reduceAdd] at hun)
                refine .inl ⟨by rfl, Inv.comesV_val (.int .i64 (j : Nat)) W (by (go_simp; try rfl)) ⟨p10, by (simp only [Act.put, List.setIfInBounds_toArray, List.set_cons_succ, List.set_cons_zero, Manyd.upd, Nat.reduceAdd, Nat.reduceBEq, Bool.or_false, Bool.or_true, if_true]), Fv1.keep (i := 1) (by decide) (by decide) hT⟩⟩
              · rintro t act W hun hdep hbeh ⟨p10, rfl, hT⟩
                (try simp only [Nat.reduceAdd] at hun)
                have h0 : t 0 = true := Inv.depB_mem 0 hdep (by rfl)
                have h1 : t 1 = true := Inv.depB_mem 1 hdep (by rfl)
                refine .inl ⟨by rfl, Inv.comesV_val (.pointer (some ⟨gz, oz + j, none⟩)) W (by (simp only [h0, h1, if_true, Bool.false_eq_true, if_false]; go_simp; try rfl)) ⟨p10, by (simp only [Act.put, List.setIfInBounds_toArray, List.set_cons_succ, List.set_cons_zero, Manyd.upd, Nat.reduceAdd, Nat.reduceBEq, Bool.or_false, Bool.or_true, if_true]), Fv1.keep (i := 2) (by decide) (by decide) hT⟩⟩
              · rintro t act W hun hdep hbeh ⟨p10, rfl, hT⟩
                (try simp only [Nat.reduceAdd] at hun)
                have h2 : t 2 = true := Inv.depB_mem 2 hdep (by rfl)
                have c0 := hzj _ (hQ.bw.trans (hT.bw.mono hQ.size))
                refine .inl ⟨by rfl, Inv.comesV_val (.int .i64 c) W (by (simp only [h2, if_true, Bool.false_eq_true, if_false]; go_simp; try rfl)) ⟨p10, by (simp only [Act.put, List.setIfInBounds_toArray, List.set_cons_succ, List.set_cons_zero, Manyd.upd, Nat.reduceAdd, Nat.reduceBEq, Bool.or_false, Bool.or_true, if_true]), Fv1.keep (i := 3) (by decide) (by decide) hT⟩⟩
              · rintro t act W hun hdep hbeh ⟨p10, rfl, hT⟩
                (try simp only [Nat.reduceAdd] at hun)
                have h3 : t 3 = true := Inv.depB_mem 3 hdep (by rfl)
                refine .inl ⟨by rfl, Inv.comesV_call 29 #[.int .i64 c] W (by (simp only [h3, if_true, Bool.false_eq_true, if_false]; go_simp; try rfl)) ((q29 W).mono fun e w5 hw5 => ⟨_, hw5.1, p10, by (simp only [Act.put, List.setIfInBounds_toArray, List.set_cons_succ, List.set_cons_zero, Manyd.upd, Nat.reduceAdd, Nat.reduceBEq, Bool.or_false, Bool.or_true, if_true]), Fv1.keep (i := 4) (by decide) (by decide) (hT.after hw5.2)⟩)⟩
              · rintro t act W hun hdep hbeh ⟨p10, rfl, hT⟩
                (try simp only [Nat.reduceAdd] at hun)
                refine .inl ⟨by rfl, Inv.comesV_val (.slice (some ⟨G3, 0, none⟩) n n) W (by (go_simp; try rfl)) ⟨p10, by (simp only [Act.put, List.setIfInBounds_toArray, List.set_cons_succ, List.set_cons_zero, Manyd.upd, Nat.reduceAdd, Nat.reduceBEq, Bool.or_false, Bool.or_true, if_true]), Fv1.keep (i := 5) (by decide) (by decide) hT⟩⟩
              · rintro t act W hun hdep hbeh ⟨p10, rfl, hT⟩
                (try simp only [Nat.reduceAdd] at hun)
                refine .inl ⟨by rfl, Inv.comesV_val (.int .i64 (j : Nat)) W (by (go_simp; try rfl)) ⟨p10, by (simp only [Act.put, List.setIfInBounds_toArray, List.set_cons_succ, List.set_cons_zero, Manyd.upd, Nat.reduceAdd, Nat.reduceBEq, Bool.or_false, Bool.or_true, if_true]), Fv1.keep (i := 6) (by decide) (by decide) hT⟩⟩
              · rintro t act W hun hdep hbeh ⟨p10, rfl, hT⟩
                (try simp only [Nat.reduceAdd] at hun)
                have h5 : t 5 = true := Inv.depB_mem 5 hdep (by rfl)
                have h6 : t 6 = true := Inv.depB_mem 6 hdep (by rfl)
                refine .inl ⟨by rfl, Inv.comesV_val (.pointer (some ⟨G3, j * 2, none⟩)) W (by (simp only [h5, h6, if_true, Bool.false_eq_true, if_false]; go_simp; try rfl)) ⟨p10, by (simp only [Act.put, List.setIfInBounds_toArray, List.set_cons_succ, List.set_cons_zero, Manyd.upd, Nat.reduceAdd, Nat.reduceBEq, Bool.or_false, Bool.or_true, if_true]), Fv1.keep (i := 7) (by decide) (by decide) hT⟩⟩
              · rintro t act W hun hdep hbeh ⟨p10, rfl, hT⟩
                (try simp only [Nat.reduceAdd] at hun)
                have h7 : t 7 = true := Inv.depB_mem 7 hdep (by rfl)
                obtain ⟨c0, c1⟩ := hCj _ (hQ.bw.trans (hT.bw.mono hQ.size))
                refine .inl ⟨by rfl, Inv.comesV_val (.agg #[.int .i64 y0, .int .i64 y1]) W (by (simp only [h7, if_true, Bool.false_eq_true, if_false]; go_simp; try rfl)) ⟨p10, by (simp only [Act.put, List.setIfInBounds_toArray, List.set_cons_succ, List.set_cons_zero, Manyd.upd, Nat.reduceAdd, Nat.reduceBEq, Bool.or_false, Bool.or_true, if_true]), Fv1.keep (i := 8) (by decide) (by decide) hT⟩⟩
              · rintro t act W hun hdep hbeh ⟨p10, rfl, hT⟩
                (try simp only [Nat.reduceAdd] at hun)
                have h4 : t 4 = true := Inv.depB_mem 4 hdep (by rfl)
                have h8 : t 8 = true := Inv.depB_mem 8 hdep (by rfl)
                refine .inl ⟨by rfl, Inv.comesV_call 58 #[.agg #[.int .i64 c, .int .i64 1], .agg #[.int .i64 y0, .int .i64 y1]] W (by (simp only [h4, h8, if_true, Bool.false_eq_true, if_false]; go_simp; try rfl)) ((qc W).mono fun e w5 hw5 => ⟨_, hw5.1, p10, by (simp only [Act.put, List.setIfInBounds_toArray, List.set_cons_succ, List.set_cons_zero, Manyd.upd, Nat.reduceAdd, Nat.reduceBEq, Bool.or_false, Bool.or_true, if_true]), Fv1.keep (i := 9) (by decide) (by decide) (hT.after hw5.2)⟩)⟩
              · rintro t act W hun hdep hbeh ⟨p10, rfl, hT⟩
                (try simp only [Nat.reduceAdd] at hun)
                refine .inl ⟨by rfl, Inv.comesV_val (.pointer (some ⟨W.heap.size, 0, none⟩)) (W.alloc (.cells #[.int .i64 0, .int .i64 0] 37)) (by (go_simp; try rfl)) ⟨W.heap.size, by (simp only [Act.put, List.setIfInBounds_toArray, List.set_cons_succ, List.set_cons_zero, Manyd.upd, Nat.reduceAdd, Nat.reduceBEq, Bool.or_false, Bool.or_true, if_true]), hT.alloc7 (by decide) hun⟩⟩
              · rintro t act W hun hdep hbeh ⟨p10, rfl, hT⟩
                (try simp only [Nat.reduceAdd] at hun)
                have h10 : t 10 = true := Inv.depB_mem 10 hdep (by rfl)
                have h9 : t 9 = true := Inv.depB_mem 9 hdep (by rfl)
                obtain ⟨c0, c1, f0, f1⟩ := hT.own7 h10 hun
                refine .inl ⟨by rfl, Inv.comesV_skip ((W.setCell ⟨p10, 0, none⟩ (.int .i64 v0)).setCell ⟨p10, 1, none⟩ (.int .i64 v1)) (by (simp only [h10, h9, if_true, Bool.false_eq_true, if_false]; go_simp; try rfl)) ⟨p10, by (simp only [Act.put, List.setIfInBounds_toArray, List.set_cons_succ, List.set_cons_zero, Manyd.upd, Nat.reduceAdd, Nat.reduceBEq, Bool.or_false, Bool.or_true, if_true]), hT.set7 (by decide) h10 hun⟩⟩
            rintro t a' wibbec hs ⟨p10, rfl, hT⟩
            simp only [hs 0 (by decide), hs 1 (by decide), hs 2 (by decide), hs 3 (by decide), hs 4 (by decide), hs 5 (by decide), hs 6 (by decide), hs 7 (by decide), hs 8 (by decide), hs 9 (by decide), hs 10 (by decide), hs 11 (by decide), if_true]
            obtain ⟨hg9, b9⟩ := hT.a7 (hs 10 (by decide))
            rw [if_pos (hs 11 (by decide))] at b9
            have o9 := Own2.of b9
            have hQ := hQ.after hT.bw
            have ov : Own2 wibbec r8 (.int .i64 m0) (.int .i64 m1) := Own2.of hQ.s
            clear hT hs b9 hg9
            by_cases h4 : fm < fm'
            · rw [decide_eq_true h4] at q53m
              obtain ⟨c90, c91, f90, f91⟩ := o9
              obtain ⟨c50, c51, f50, f51⟩ := ov
              go_wp2_with (go_at_call 53; (with_reducible refine (q53m _).mono ?_); rintro e wibbed ⟨rfl, hbe⟩
                           have hQ := hQ.after hbe
                           obtain ⟨d90, d91, g90, g91⟩ := (⟨c90, c91, f90, f91⟩ : Own2 wibbec p10 (.int .i64 v0) (.int .i64 v1)).after hbe
                           obtain ⟨d50, d51, g50, g51⟩ := (⟨c50, c51, f50, f51⟩ : Own2 wibbec r8 (.int .i64 m0) (.int .i64 m1)).after hbe
                           clear hbe q53m c90 c91 f90 f91 c50 c51 f50 f51)
              clear d90 d91 g90 g91 d50 d51 g50 g51
              have hQ := hQ.setS hN v0 v1
              generalize (wibbed.setCell ⟨r8, 0, none⟩ (.int .i64 v0)).setCell ⟨r8, 1, none⟩ (.int .i64 v1) = wibbee at hQ ⊢
              exact ⟨fin _ _ _ _ _ hQ ⟨.inr ⟨rfl, by omega⟩⟩ ⟨.inr ⟨rfl, by omega⟩⟩ ⟨.inl ⟨rfl, by omega⟩⟩ ⟨.inr ⟨rfl, by omega⟩⟩, by simp [intOf]; omega⟩
            · rw [decide_eq_false h4] at q53m
              obtain ⟨c90, c91, f90, f91⟩ := o9
              obtain ⟨c50, c51, f50, f51⟩ := ov
              go_wp2_with (go_at_call 53; (with_reducible refine (q53m _).mono ?_); rintro e wibbed ⟨rfl, hbe⟩
                           have hQ := hQ.after hbe
                           obtain ⟨d90, d91, g90, g91⟩ := (⟨c90, c91, f90, f91⟩ : Own2 wibbec p10 (.int .i64 v0) (.int .i64 v1)).after hbe
                           obtain ⟨d50, d51, g50, g51⟩ := (⟨c50, c51, f50, f51⟩ : Own2 wibbec r8 (.int .i64 m0) (.int .i64 m1)).after hbe
                           clear hbe q53m c90 c91 f90 f91 c50 c51 f50 f51)
              clear d90 d91 g90 g91 d50 d51 g50 g51
              obtain ⟨wibbee, rfl⟩ : ∃ x, x = wibbed := ⟨_, rfl⟩
              exact ⟨fin _ _ _ _ _ hQ ⟨.inr ⟨rfl, by omega⟩⟩ ⟨.inr ⟨rfl, by omega⟩⟩ ⟨.inl ⟨rfl, by omega⟩⟩ ⟨.inl ⟨rfl, by omega⟩⟩, by simp [intOf]; omega⟩
        · have op : Own2 wib p8 (.int .i64 o0) (.int .i64 o1) := Own2.of hQ.q
          rw [decide_eq_false h2] at q53o
          refine (wpIn_wide (n := 0)).1 ?_
          refine Many.region_many (Go.Proofs.Ytbocmbhinjkjlaa.Cb wib) mixed_ok (by kernel_rfl) (fun _ _ _ _ h => h) (fun s _ => Go.Proofs.Ytbocmbhinjkjlaa.Cb.start wib s) ?_
          refine Many.lex_want (by rfl) (rdb (fun w hb => by (go_simp; try rfl))) ?_
          simp only [Act.put, List.setIfInBounds_toArray, List.set_cons_succ, List.set_cons_zero, Nat.reduceAdd]
          refine Many.lex_want (by rfl) (rdb (fun w hb => by (go_simp; try rfl))) ?_
          simp only [Act.put, List.setIfInBounds_toArray, List.set_cons_succ, List.set_cons_zero, Nat.reduceAdd]
          refine Many.lex_want (by rfl) (rdb (v := .pointer (some ⟨G3, j * 2, none⟩)) (fun w hb => by (skip; go_simp; try rfl))) ?_
          simp only [Act.put, List.setIfInBounds_toArray, List.set_cons_succ, List.set_cons_zero, Nat.reduceAdd]
          refine Many.lex_want (by rfl) (rdb (v := .agg #[.int .i64 y0, .int .i64 y1]) (fun w hb => by (obtain ⟨c0, c1⟩ := hCj _ (hQ.bw.trans (hb.mono hQ.size)); go_simp; try rfl))) ?_
          simp only [Act.put, List.setIfInBounds_toArray, List.set_cons_succ, List.set_cons_zero, Nat.reduceAdd]
          refine Many.lex_want (by rfl) (rdb (v := .agg #[.int .i64 o0, .int .i64 o1]) (fun w hb => by (obtain ⟨c0, c1, f0, f1⟩ := (op).after hb; go_simp; try rfl))) ?_
          simp only [Act.put, List.setIfInBounds_toArray, List.set_cons_succ, List.set_cons_zero, Nat.reduceAdd]
          refine Many.lex_want (by rfl) (clb q53o (fun w hb => by (go_simp; try rfl))) ?_
          simp only [Act.put, List.setIfInBounds_toArray, List.set_cons_succ, List.set_cons_zero, Nat.reduceAdd]
          refine Many.lex_nil fun s wiba hs hC => ?_
          have hC : Below wib.heap.size wib wiba := hC
          have hQ := hQ.after hC
          clear hC hs op q53o
          go_wp2
          obtain ⟨wibb, rfl⟩ : ∃ x, x = wiba := ⟨_, rfl⟩
          refine (wpIn_wide (n := 0)).1 ?_
          refine Inv.region_inv (fun t act W => ∃ p9, act = { tmps := #[Value.slice A0 n0 cap0, Value.int IntKind.i64 F, Value.int IntKind.i64 R, undef, undef, undef, Value.bool false, Value.slice (some ⟨gz, oz, none⟩) n cap, Value.slice (some ⟨G1, 0, none⟩) n n, Value.int IntKind.i64 0, Value.slice (some ⟨G2, 0, none⟩) n n, Value.int IntKind.i64 0, Value.slice (some ⟨G3, 0, none⟩) n n, Value.int IntKind.i64 0, Value.pointer (some ⟨p7, 0, none⟩), Value.pointer (some ⟨p8, 0, none⟩), Value.pointer (some ⟨r7, 0, none⟩), Value.pointer (some ⟨r8, 0, none⟩), Value.int IntKind.i64 (j : Nat), if t 10 = true then .pointer (some ⟨p9, 0, none⟩) else u19, u20, Value.tuple #[Value.slice (some ⟨gz, oz, none⟩) n cap, Value.int IntKind.i64 F], Value.slice A0 n0 cap0, Value.int IntKind.i64 E, Value.tuple #[Value.slice (some ⟨gz, oz, none⟩) n cap, Value.int IntKind.i64 F], Value.slice (some ⟨gz, oz, none⟩) n cap, Value.int IntKind.i64 F, Value.tuple #[Value.slice (some ⟨G1, 0, none⟩) n n, Value.int IntKind.i64 0], Value.slice (some ⟨gz, oz, none⟩) n cap, Value.int IntKind.i64 F, Value.tuple #[Value.slice (some ⟨G1, 0, none⟩) n n, Value.int IntKind.i64 0], Value.slice (some ⟨G1, 0, none⟩) n n, Value.int IntKind.i64 0, Value.tuple #[Value.slice (some ⟨G2, 0, none⟩) n n, Value.int IntKind.i64 0], Value.slice (some ⟨gz, oz, none⟩) n cap, Value.int IntKind.i64 F, Value.tuple #[Value.slice (some ⟨G2, 0, none⟩) n n, Value.int IntKind.i64 0], Value.slice (some ⟨G2, 0, none⟩) n n, Value.int IntKind.i64 0, Value.tuple #[Value.slice (some ⟨G3, 0, none⟩) n n, Value.int IntKind.i64 0], Value.int IntKind.i64 R, Value.int IntKind.i64 (r : Nat), Value.slice (some ⟨gz, oz, none⟩) n cap, Value.int IntKind.i64 F, Value.tuple #[Value.slice (some ⟨G3, 0, none⟩) n n, Value.int IntKind.i64 0], Value.slice (some ⟨G3, 0, none⟩) n n, Value.int IntKind.i64 0, Value.int IntKind.i64 0, Value.bool false, Value.bool false, Value.int IntKind.i64 0, Value.bool false, Value.bool false, Value.bool false, Value.int IntKind.i64 0, Value.bool false, Value.bool false, Value.bool false, Value.slice (some ⟨G1, 0, none⟩) n n, Value.int IntKind.i64 (n : Nat), Value.slice (some ⟨gz, oz, none⟩) n cap, Value.int IntKind.i64 (n : Nat), Value.bool false, Value.bool false, Value.bool false, Value.slice (some ⟨G2, 0, none⟩) n n, Value.int IntKind.i64 (n : Nat), Value.slice (some ⟨gz, oz, none⟩) n cap, Value.int IntKind.i64 (n : Nat), Value.bool false, Value.bool false, Value.bool false, Value.slice (some ⟨G3, 0, none⟩) n n, Value.int IntKind.i64 (n : Nat), Value.slice (some ⟨gz, oz, none⟩) n cap, Value.int IntKind.i64 (n : Nat), Value.bool false, Value.bool false, Value.bool false, Value.slice (some ⟨G1, 0, none⟩) n n, Value.bool true, Value.bool false, Value.bool false, Value.bool false, Value.slice (some ⟨G2, 0, none⟩) n n, Value.bool true, Value.bool false, Value.bool false, Value.bool false, Value.slice (some ⟨G3, 0, none⟩) n n, Value.bool true, Value.bool false, Value.bool false, Value.slice (some ⟨G1, 0, none⟩) n n, Value.pointer (some ⟨G1, 0, none⟩), Value.agg #[Value.int IntKind.i64 a0, Value.int IntKind.i64 a1], Value.slice (some ⟨G3, 0, none⟩) n n, Value.pointer (some ⟨G3, 0, none⟩), Value.agg #[Value.int IntKind.i64 cc0, Value.int IntKind.i64 cc1], Value.slice (some ⟨gz, oz, none⟩) n cap, Value.pointer (some ⟨gz, oz, none⟩), Value.int IntKind.i64 z0, Value.agg #[Value.int IntKind.i64 z0, Value.int IntKind.i64 1], Value.slice (some ⟨G2, 0, none⟩) n n, Value.pointer (some ⟨G2, 0, none⟩), Value.agg #[Value.int IntKind.i64 ib0, Value.int IntKind.i64 ib1], Value.agg #[Value.int IntKind.i64 il0, Value.int IntKind.i64 il1], Value.slice (some ⟨gz, oz, none⟩) n cap, Value.pointer (some ⟨gz, oz, none⟩), Value.int IntKind.i64 z0, Value.agg #[Value.int IntKind.i64 z0, Value.int IntKind.i64 1], Value.slice (some ⟨G3, 0, none⟩) n n, Value.pointer (some ⟨G3, 0, none⟩), Value.agg #[Value.int IntKind.i64 cc0, Value.int IntKind.i64 cc1], Value.agg #[Value.int IntKind.i64 im0, Value.int IntKind.i64 im1], Value.int IntKind.i64 (j : Nat), Value.slice (some ⟨gz, oz, none⟩) n cap, Value.int IntKind.i64 (n : Nat), Value.bool true, u119, u120, .slice (some ⟨G1, 0, none⟩) n n, .int .i64 (j : Nat), .pointer (some ⟨G1, j * 2, none⟩), .agg #[.int .i64 x0, .int .i64 x1], .agg #[.int .i64 s0, .int .i64 s1], .bool true, .slice (some ⟨G1, 0, none⟩) n n, .int .i64 (j : Nat), .pointer (some ⟨G1, j * 2, none⟩), .agg #[.int .i64 x0, .int .i64 x1], .slice (some ⟨G3, 0, none⟩) n n, .int .i64 (j : Nat), .pointer (some ⟨G3, j * 2, none⟩), .agg #[.int .i64 y0, .int .i64 y1], .agg #[.int .i64 o0, .int .i64 o1], .bool false, u137, u138, u139, u140, if t 0 = true then .slice (some ⟨gz, oz, none⟩) n cap else u141, if t 1 = true then .int .i64 (j : Nat) else u142, if t 2 = true then .pointer (some ⟨gz, oz + j, none⟩) else u143, if t 3 = true then .int .i64 c else u144, if t 4 = true then .agg #[.int .i64 c, .int .i64 1] else u145, if t 5 = true then .slice (some ⟨G2, 0, none⟩) n n else u146, if t 6 = true then .int .i64 (j : Nat) else u147, if t 7 = true then .pointer (some ⟨G2, j * 2, none⟩) else u148, if t 8 = true then .agg #[.int .i64 b0, .int .i64 b1] else u149, if t 9 = true then .agg #[.int .i64 u0, .int .i64 u1] else u150, u151, u152, u153, u154, u155, u156, u157, u158, u159, u160, u161, u162, u163, u164, u165, u166, u167, u168, undef, undef, undef, undef, undef, undef, undef, undef, undef, undef, undef, undef, undef], defers := [] } ∧ Fv1 wibb 10 11 u0 u1 t p9 W) mixed_ok (by kernel_rfl) ?_ ?_ ?_
          · intro t hs
            refine ⟨0, ?_, Fv1.start (hs 10 (by decide)) (hs 11 (by decide))⟩
            simp only [hs 0 (by decide), hs 1 (by decide), hs 2 (by decide), hs 3 (by decide), hs 4 (by decide), hs 5 (by decide), hs 6 (by decide), hs 7 (by decide), hs 8 (by decide), hs 9 (by decide), hs 10 (by decide), hs 11 (by decide), Bool.false_eq_true, if_false]
          · refine ⟨?_, ?_, ?_, ?_, ?_, ?_, ?_, ?_, ?_, ?_, ?_, ?_, trivial⟩
            · rintro t act W hun hdep hbeh ⟨p9, rfl, hT⟩
              (try simp only [Nat.reduceAdd] at hun)
              refine .inl ⟨by rfl, Inv.comesV_val (.slice (some ⟨gz, oz, none⟩) n cap) W (by (go_simp; try rfl)) ⟨p9, by (simp only [Act.put, List.setIfInBounds_toArray, List.set_cons_succ, List.set_cons_zero, Manyd.upd, Nat.reduceAdd, Nat.reduceBEq, Bool.or_false, Bool.or_true, if_true]), Fv1.keep (i := 0) (by decide) (by decide) hT⟩⟩
            · rintro t act W hun hdep hbeh ⟨p9, rfl, hT⟩
              (try simp only [Nat.reduceAdd] at hun)
              refine .inl ⟨by rfl, Inv.comesV_val (.int .i64 (j : Nat)) W (by (go_simp; try rfl)) ⟨p9, by (simp only [Act.put, List.setIfInBounds_toArray, List.set_cons_succ, List.set_cons_zero, Manyd.upd, Nat.reduceAdd, Nat.reduceBEq, Bool.or_false, Bool.or_true, if_true]), Fv1.keep (i := 1) (by decide) (by decide) hT⟩⟩
            · rintro t act W hun hdep hbeh ⟨p9, rfl, hT⟩
              (try simp only [Nat.reduceAdd] at hun)
              have h0 : t 0 = true := Inv.depB_mem 0 hdep (by rfl)
              have h1 : t 1 = true := Inv.depB_mem 1 hdep (by rfl)
              refine .inl ⟨by rfl, Inv.comesV_val (.pointer (some ⟨gz, oz + j, none⟩)) W (by (simp only [h0, h1, if_true, Bool.false_eq_true, if_false]; go_simp; try rfl)) ⟨p9, by (simp only [Act.put, List.setIfInBounds_toArray, List.set_cons_succ, List.set_cons_zero, Manyd.upd, Nat.reduceAdd, Nat.reduceBEq, Bool.or_false, Bool.or_true, if_true]), Fv1.keep (i := 2) (by decide) (by decide) hT⟩⟩
            · rintro t act W hun hdep hbeh ⟨p9, rfl, hT⟩
              (try simp only [Nat.reduceAdd] at hun)
              have h2 : t 2 = true := Inv.depB_mem 2 hdep (by rfl)
              have c0 := hzj _ (hQ.bw.trans (hT.bw.mono hQ.size))
              refine .inl ⟨by rfl, Inv.comesV_val (.int .i64 c) W (by (simp only [h2, if_true, Bool.false_eq_true, if_false]; go_simp; try rfl)) ⟨p9, by (simp only [Act.put, List.setIfInBounds_toArray, List.set_cons_succ, List.set_cons_zero, Manyd.upd, Nat.reduceAdd, Nat.reduceBEq, Bool.or_false, Bool.or_true, if_true]), Fv1.keep (i := 3) (by decide) (by decide) hT⟩⟩
            · rintro t act W hun hdep hbeh ⟨p9, rfl, hT⟩
              (try simp only [Nat.reduceAdd] at hun)
              have h3 : t 3 = true := Inv.depB_mem 3 hdep (by rfl)
              refine .inl ⟨by rfl, Inv.comesV_call 29 #[.int .i64 c] W (by (simp only [h3, if_true, Bool.false_eq_true, if_false]; go_simp; try rfl)) ((q29 W).mono fun e w5 hw5 => ⟨_, hw5.1, p9, by (simp only [Act.put, List.setIfInBounds_toArray, List.set_cons_succ, List.set_cons_zero, Manyd.upd, Nat.reduceAdd, Nat.reduceBEq, Bool.or_false, Bool.or_true, if_true]), Fv1.keep (i := 4) (by decide) (by decide) (hT.after hw5.2)⟩)⟩
            · rintro t act W hun hdep hbeh ⟨p9, rfl, hT⟩
              (try simp only [Nat.reduceAdd] at hun)
              refine .inl ⟨by rfl, Inv.comesV_val (.slice (some ⟨G2, 0, none⟩) n n) W (by (go_simp; try rfl)) ⟨p9, by (simp only [Act.put, List.setIfInBounds_toArray, List.set_cons_succ, List.set_cons_zero, Manyd.upd, Nat.reduceAdd, Nat.reduceBEq, Bool.or_false, Bool.or_true, if_true]), Fv1.keep (i := 5) (by decide) (by decide) hT⟩⟩
            · rintro t act W hun hdep hbeh ⟨p9, rfl, hT⟩
              (try simp only [Nat.reduceAdd] at hun)
              refine .inl ⟨by rfl, Inv.comesV_val (.int .i64 (j : Nat)) W (by (go_simp; try rfl)) ⟨p9, by (simp only [Act.put, List.setIfInBounds_toArray, List.set_cons_succ, List.set_cons_zero, Manyd.upd, Nat.reduceAdd, Nat.reduceBEq, Bool.or_false, Bool.or_true, if_true]), Fv1.keep (i := 6) (by decide) (by decide) hT⟩⟩
            · rintro t act W hun hdep hbeh ⟨p9, rfl, hT⟩
              (try simp only [Nat.reduceAdd] at hun)
              have h5 : t 5 = true := Inv.depB_mem 5 hdep (by rfl)
              have h6 : t 6 = true := Inv.depB_mem 6 hdep (by rfl)
              refine .inl ⟨by rfl, Inv.comesV_val (.pointer (some ⟨G2, j * 2, none⟩)) W (by (simp only [h5, h6, if_true, Bool.false_eq_true, if_false]; go_simp; try rfl)) ⟨p9, by (simp only [Act.put, List.setIfInBounds_toArray, List.set_cons_succ, List.set_cons_zero, Manyd.upd, Nat.reduceAdd, Nat.reduceBEq, Bool.or_false, Bool.or_true, if_true]), Fv1.keep (i := 7) (by decide) (by decide) hT⟩⟩
            · rintro t act W hun hdep hbeh ⟨p9, rfl, hT⟩
              (try simp only [Nat.reduceAdd] at hun)
              have h7 : t 7 = true := Inv.depB_mem 7 hdep (by rfl)
              obtain ⟨c0, c1⟩ := hBj _ (hQ.bw.trans (hT.bw.mono hQ.size))
              refine .inl ⟨by rfl, Inv.comesV_val (.agg #[.int .i64 b0, .int .i64 b1]) W (by (simp only [h7, if_true, Bool.false_eq_true, if_false]; go_simp; try rfl)) ⟨p9, by (simp only [Act.put, List.setIfInBounds_toArray, List.set_cons_succ, List.set_cons_zero, Manyd.upd, Nat.reduceAdd, Nat.reduceBEq, Bool.or_false, Bool.or_true, if_true]), Fv1.keep (i := 8) (by decide) (by decide) hT⟩⟩
            · rintro t act W hun hdep hbeh ⟨p9, rfl, hT⟩
              (try simp only [Nat.reduceAdd] at hun)
              have h4 : t 4 = true := Inv.depB_mem 4 hdep (by rfl)
              have h8 : t 8 = true := Inv.depB_mem 8 hdep (by rfl)
              refine .inl ⟨by rfl, Inv.comesV_call 58 #[.agg #[.int .i64 c, .int .i64 1], .agg #[.int .i64 b0, .int .i64 b1]] W (by (simp only [h4, h8, if_true, Bool.false_eq_true, if_false]; go_simp; try rfl)) ((qb W).mono fun e w5 hw5 => ⟨_, hw5.1, p9, by (simp only [Act.put, List.setIfInBounds_toArray, List.set_cons_succ, List.set_cons_zero, Manyd.upd, Nat.reduceAdd, Nat.reduceBEq, Bool.or_false, Bool.or_true, if_true]), Fv1.keep (i := 9) (by decide) (by decide) (hT.after hw5.2)⟩)⟩
            · rintro t act W hun hdep hbeh ⟨p9, rfl, hT⟩
              (try simp only [Nat.reduceAdd] at hun)
              refine .inl ⟨by rfl, Inv.comesV_val (.pointer (some ⟨W.heap.size, 0, none⟩)) (W.alloc (.cells #[.int .i64 0, .int .i64 0] 37)) (by (go_simp; try rfl)) ⟨W.heap.size, by (simp only [Act.put, List.setIfInBounds_toArray, List.set_cons_succ, List.set_cons_zero, Manyd.upd, Nat.reduceAdd, Nat.reduceBEq, Bool.or_false, Bool.or_true, if_true]), hT.alloc7 (by decide) hun⟩⟩
            · rintro t act W hun hdep hbeh ⟨p9, rfl, hT⟩
              (try simp only [Nat.reduceAdd] at hun)
              have h10 : t 10 = true := Inv.depB_mem 10 hdep (by rfl)
              have h9 : t 9 = true := Inv.depB_mem 9 hdep (by rfl)
              obtain ⟨c0, c1, f0, f1⟩ := hT.own7 h10 hun
              refine .inl ⟨by rfl, Inv.comesV_skip ((W.setCell ⟨p9, 0, none⟩ (.int .i64 u0)).setCell ⟨p9, 1, none⟩ (.int .i64 u1)) (by (simp only [h10, h9, if_true, Bool.false_eq_true, if_false]; go_simp; try rfl)) ⟨p9, by (simp only [Act.put, List.setIfInBounds_toArray, List.set_cons_succ, List.set_cons_zero, Manyd.upd, Nat.reduceAdd, Nat.reduceBEq, Bool.or_false, Bool.or_true, if_true]), hT.set7 (by decide) h10 hun⟩⟩
          rintro t a' wibbc hs ⟨p9, rfl, hT⟩
          simp only [hs 0 (by decide), hs 1 (by decide), hs 2 (by decide), hs 3 (by decide), hs 4 (by decide), hs 5 (by decide), hs 6 (by decide), hs 7 (by decide), hs 8 (by decide), hs 9 (by decide), hs 10 (by decide), hs 11 (by decide), if_true]
          obtain ⟨hg9, b9⟩ := hT.a7 (hs 10 (by decide))
          rw [if_pos (hs 11 (by decide))] at b9
          have o9 := Own2.of b9
          have hQ := hQ.after hT.bw
          have ov : Own2 wibbc r7 (.int .i64 l0) (.int .i64 l1) := Own2.of hQ.r
          clear hT hs b9 hg9
          by_cases h3 : fl < fl'
          · rw [decide_eq_true h3] at q53l
            obtain ⟨c90, c91, f90, f91⟩ := o9
            obtain ⟨c50, c51, f50, f51⟩ := ov
            go_wp2_with (go_at_call 53; (with_reducible refine (q53l _).mono ?_); rintro e wibbd ⟨rfl, hbe⟩
                         have hQ := hQ.after hbe
                         obtain ⟨d90, d91, g90, g91⟩ := (⟨c90, c91, f90, f91⟩ : Own2 wibbc p9 (.int .i64 u0) (.int .i64 u1)).after hbe
                         obtain ⟨d50, d51, g50, g51⟩ := (⟨c50, c51, f50, f51⟩ : Own2 wibbc r7 (.int .i64 l0) (.int .i64 l1)).after hbe
                         clear hbe q53l c90 c91 f90 f91 c50 c51 f50 f51)
            clear d90 d91 g90 g91 d50 d51 g50 g51
            have hQ := hQ.setR hN u0 u1
            generalize (wibbd.setCell ⟨r7, 0, none⟩ (.int .i64 u0)).setCell ⟨r7, 1, none⟩ (.int .i64 u1) = wibbe at hQ ⊢
            refine (wpIn_wide (n := 0)).1 ?_
            refine Inv.region_inv (fun t act W => ∃ p10, act = { tmps := #[Value.slice A0 n0 cap0, Value.int IntKind.i64 F, Value.int IntKind.i64 R, undef, undef, undef, Value.bool false, Value.slice (some ⟨gz, oz, none⟩) n cap, Value.slice (some ⟨G1, 0, none⟩) n n, Value.int IntKind.i64 0, Value.slice (some ⟨G2, 0, none⟩) n n, Value.int IntKind.i64 0, Value.slice (some ⟨G3, 0, none⟩) n n, Value.int IntKind.i64 0, Value.pointer (some ⟨p7, 0, none⟩), Value.pointer (some ⟨p8, 0, none⟩), Value.pointer (some ⟨r7, 0, none⟩), Value.pointer (some ⟨r8, 0, none⟩), Value.int IntKind.i64 (j : Nat), .pointer (some ⟨p9, 0, none⟩), if t 10 = true then .pointer (some ⟨p10, 0, none⟩) else u20, Value.tuple #[Value.slice (some ⟨gz, oz, none⟩) n cap, Value.int IntKind.i64 F], Value.slice A0 n0 cap0, Value.int IntKind.i64 E, Value.tuple #[Value.slice (some ⟨gz, oz, none⟩) n cap, Value.int IntKind.i64 F], Value.slice (some ⟨gz, oz, none⟩) n cap, Value.int IntKind.i64 F, Value.tuple #[Value.slice (some ⟨G1, 0, none⟩) n n, Value.int IntKind.i64 0], Value.slice (some ⟨gz, oz, none⟩) n cap, Value.int IntKind.i64 F, Value.tuple #[Value.slice (some ⟨G1, 0, none⟩) n n, Value.int IntKind.i64 0], Value.slice (some ⟨G1, 0, none⟩) n n, Value.int IntKind.i64 0, Value.tuple #[Value.slice (some ⟨G2, 0, none⟩) n n, Value.int IntKind.i64 0], Value.slice (some ⟨gz, oz, none⟩) n cap, Value.int IntKind.i64 F, Value.tuple #[Value.slice (some ⟨G2, 0, none⟩) n n, Value.int IntKind.i64 0], Value.slice (some ⟨G2, 0, none⟩) n n, Value.int IntKind.i64 0, Value.tuple #[Value.slice (some ⟨G3, 0, none⟩) n n, Value.int IntKind.i64 0], Value.int IntKind.i64 R, Value.int IntKind.i64 (r : Nat), Value.slice (some ⟨gz, oz, none⟩) n cap, Value.int IntKind.i64 F, Value.tuple #[Value.slice (some ⟨G3, 0, none⟩) n n, Value.int IntKind.i64 0], Value.slice (some ⟨G3, 0, none⟩) n n, Value.int IntKind.i64 0, Value.int IntKind.i64 0, Value.bool false, Value.bool false, Value.int IntKind.i64 0, Value.bool false, Value.bool false, Value.bool false, Value.int IntKind.i64 0, Value.bool false, Value.bool false, Value.bool false, Value.slice (some ⟨G1, 0, none⟩) n n, Value.int IntKind.i64 (n : Nat), Value.slice (some ⟨gz, oz, none⟩) n cap, Value.int IntKind.i64 (n : Nat), Value.bool false, Value.bool false, Value.bool false, Value.slice (some ⟨G2, 0, none⟩) n n, Value.int IntKind.i64 (n : Nat), Value.slice (some ⟨gz, oz, none⟩) n cap, Value.int IntKind.i64 (n : Nat), Value.bool false, Value.bool false, Value.bool false, Value.slice (some ⟨G3, 0, none⟩) n n, Value.int IntKind.i64 (n : Nat), Value.slice (some ⟨gz, oz, none⟩) n cap, Value.int IntKind.i64 (n : Nat), Value.bool false, Value.bool false, Value.bool false, Value.slice (some ⟨G1, 0, none⟩) n n, Value.bool true, Value.bool false, Value.bool false, Value.bool false, Value.slice (some ⟨G2, 0, none⟩) n n, Value.bool true, Value.bool false, Value.bool false, Value.bool false, Value.slice (some ⟨G3, 0, none⟩) n n, Value.bool true, Value.bool false, Value.bool false, Value.slice (some ⟨G1, 0, none⟩) n n, Value.pointer (some ⟨G1, 0, none⟩), Value.agg #[Value.int IntKind.i64 a0, Value.int IntKind.i64 a1], Value.slice (some ⟨G3, 0, none⟩) n n, Value.pointer (some ⟨G3, 0, none⟩), Value.agg #[Value.int IntKind.i64 cc0, Value.int IntKind.i64 cc1], Value.slice (some ⟨gz, oz, none⟩) n cap, Value.pointer (some ⟨gz, oz, none⟩), Value.int IntKind.i64 z0, Value.agg #[Value.int IntKind.i64 z0, Value.int IntKind.i64 1], Value.slice (some ⟨G2, 0, none⟩) n n, Value.pointer (some ⟨G2, 0, none⟩), Value.agg #[Value.int IntKind.i64 ib0, Value.int IntKind.i64 ib1], Value.agg #[Value.int IntKind.i64 il0, Value.int IntKind.i64 il1], Value.slice (some ⟨gz, oz, none⟩) n cap, Value.pointer (some ⟨gz, oz, none⟩), Value.int IntKind.i64 z0, Value.agg #[Value.int IntKind.i64 z0, Value.int IntKind.i64 1], Value.slice (some ⟨G3, 0, none⟩) n n, Value.pointer (some ⟨G3, 0, none⟩), Value.agg #[Value.int IntKind.i64 cc0, Value.int IntKind.i64 cc1], Value.agg #[Value.int IntKind.i64 im0, Value.int IntKind.i64 im1], Value.int IntKind.i64 (j : Nat), Value.slice (some ⟨gz, oz, none⟩) n cap, Value.int IntKind.i64 (n : Nat), Value.bool true, u119, u120, .slice (some ⟨G1, 0, none⟩) n n, .int .i64 (j : Nat), .pointer (some ⟨G1, j * 2, none⟩), .agg #[.int .i64 x0, .int .i64 x1], .agg #[.int .i64 s0, .int .i64 s1], .bool true, .slice (some ⟨G1, 0, none⟩) n n, .int .i64 (j : Nat), .pointer (some ⟨G1, j * 2, none⟩), .agg #[.int .i64 x0, .int .i64 x1], .slice (some ⟨G3, 0, none⟩) n n, .int .i64 (j : Nat), .pointer (some ⟨G3, j * 2, none⟩), .agg #[.int .i64 y0, .int .i64 y1], .agg #[.int .i64 o0, .int .i64 o1], .bool false, u137, u138, u139, u140, .slice (some ⟨gz, oz, none⟩) n cap, .int .i64 (j : Nat), .pointer (some ⟨gz, oz + j, none⟩), .int .i64 c, .agg #[.int .i64 c, .int .i64 1], .slice (some ⟨G2, 0, none⟩) n n, .int .i64 (j : Nat), .pointer (some ⟨G2, j * 2, none⟩), .agg #[.int .i64 b0, .int .i64 b1], .agg #[.int .i64 u0, .int .i64 u1], .agg #[.int .i64 l0, .int .i64 l1], .agg #[.int .i64 u0, .int .i64 u1], .bool true, .agg #[.int .i64 u0, .int .i64 u1], if t 0 = true then .slice (some ⟨gz, oz, none⟩) n cap else u155, if t 1 = true then .int .i64 (j : Nat) else u156, if t 2 = true then .pointer (some ⟨gz, oz + j, none⟩) else u157, if t 3 = true then .int .i64 c else u158, if t 4 = true then .agg #[.int .i64 c, .int .i64 1] else u159, if t 5 = true then .slice (some ⟨G3, 0, none⟩) n n else u160, if t 6 = true then .int .i64 (j : Nat) else u161, if t 7 = true then .pointer (some ⟨G3, j * 2, none⟩) else u162, if t 8 = true then .agg #[.int .i64 y0, .int .i64 y1] else u163, if t 9 = true then .agg #[.int .i64 v0, .int .i64 v1] else u164, u165, u166, u167, u168, undef, undef, undef, undef, undef, undef, undef, undef, undef, undef, undef, undef, undef], defers := [] } ∧ Fv1 wibbe 10 11 v0 v1 t p10 W) mixed_ok (by kernel_rfl) ?_ ?_ ?_
            · intro t hs
              refine ⟨0, ?_, Fv1.start (hs 10 (by decide)) (hs 11 (by decide))⟩
              simp only [hs 0 (by decide), hs 1 (by decide), hs 2 (by decide), hs 3 (by decide), hs 4 (by decide), hs 5 (by decide), hs 6 (by decide), hs 7 (by decide), hs 8 (by decide), hs 9 (by decide), hs 10 (by decide), hs 11 (by decide), Bool.false_eq_true, if_false]
            · refine ⟨?_, ?_, ?_, ?_, ?_, ?_, ?_, ?_, ?_, ?_, ?_, ?_, trivial⟩
              · rintro t act W hun hdep hbeh ⟨p10, rfl, hT⟩
                (try simp only [Nat.reduceAdd] at hun)
                refine .inl ⟨by rfl, Inv.comesV_val (.slice (some ⟨gz, oz, none⟩) n cap) W (by (go_simp; try rfl)) ⟨p10, by (simp only [Act.put, List.setIfInBounds_toArray, List.set_cons_succ, List.set_cons_zero, Manyd.upd, Nat.reduceAdd, Nat.reduceBEq, Bool.or_false, Bool.or_true, if_true]), Fv1.keep (i := 0) (by decide) (by decide) hT⟩⟩
              · rintro t act W hun hdep hbeh ⟨p10, rfl, hT⟩
                (try simp only [Nat.reduceAdd] at hun)
                refine .inl ⟨by rfl, Inv.comesV_val (.int .i64 (j : Nat)) W (by (go_simp; try rfl)) ⟨p10, by (simp only [Act.put, List.setIfInBounds_toArray, List.set_cons_succ, List.set_cons_zero, Manyd.upd, Nat.reduceAdd, Nat.reduceBEq, Bool.or_false, Bool.or_true, if_true]), Fv1.keep (i := 1) (by decide) (by decide) hT⟩⟩
              · rintro t act W hun hdep hbeh ⟨p10, rfl, hT⟩
                (try simp only [Nat.reduceAdd] at hun)
                have h0 : t 0 = true := Inv.depB_mem 0 hdep (by rfl)
                have h1 : t 1 = true := Inv.depB_mem 1 hdep (by rfl)
                refine .inl ⟨by rfl, Inv.comesV_val (.pointer (some ⟨gz, oz + j, none⟩)) W (by (simp only [h0, h1, if_true, Bool.false_eq_true, if_false]; go_simp; try rfl)) ⟨p10, by (simp only [Act.put, List.setIfInBounds_toArray, List.set_cons_succ, List.set_cons_zero, Manyd.upd, Nat.reduceAdd, Nat.reduceBEq, Bool.or_false, Bool.or_true, if_true]), Fv1.keep (i := 2) (by decide) (by decide) hT⟩⟩
              · rintro t act W hun hdep hbeh ⟨p10, rfl, hT⟩
                (try simp only [Nat.reduceAdd] at hun)
                have h2 : t 2 = true := Inv.depB_mem 2 hdep (by rfl)
                have c0 := hzj _ (hQ.bw.trans (hT.bw.mono hQ.size))
                refine .inl ⟨by rfl, Inv.comesV_val (.int .i64 c) W (by (simp only [h2, if_true, Bool.false_eq_true, if_false]; go_simp; try rfl)) ⟨p10, by (simp only [Act.put, List.setIfInBounds_toArray, List.set_cons_succ, List.set_cons_zero, Manyd.upd, Nat.reduceAdd, Nat.reduceBEq, Bool.or_false, Bool.or_true, if_true]), Fv1.keep (i := 3) (by decide) (by decide) hT⟩⟩
              · rintro t act W hun hdep hbeh ⟨p10, rfl, hT⟩
                (try simp only [Nat.reduceAdd] at hun)
                have h3 : t 3 = true := Inv.depB_mem 3 hdep (by rfl)
                refine .inl ⟨by rfl, Inv.comesV_call 29 #[.int .i64 c] W (by (simp only [h3, if_true, Bool.false_eq_true, if_false]; go_simp; try rfl)) ((q29 W).mono fun e w5 hw5 => ⟨_, hw5.1, p10, by (simp only [Act.put, List.setIfInBounds_toArray, List.set_cons_succ, List.set_cons_zero, Manyd.upd, Nat.reduceAdd, Nat.reduceBEq, Bool.or_false, Bool.or_true, if_true]), Fv1.keep (i := 4) (by decide) (by decide) (hT.after hw5.2)⟩)⟩
              · rintro t act W hun hdep hbeh ⟨p10, rfl, hT⟩
                (try simp only [Nat.reduceAdd] at hun)
                refine .inl ⟨by rfl, Inv.comesV_val (.slice (some ⟨G3, 0, none⟩) n n) W (by (go_simp; try rfl)) ⟨p10, by (simp only [Act.put, List.setIfInBounds_toArray, List.set_cons_succ, List.set_cons_zero, Manyd.upd, Nat.reduceAdd, Nat.reduceBEq, Bool.or_false, Bool.or_true, if_true]), Fv1.keep (i := 5) (by decide) (by decide) hT⟩⟩
              · rintro t act W hun hdep hbeh ⟨p10, rfl, hT⟩
                (try simp only [Nat.reduceAdd] at hun)
                refine .inl ⟨by rfl, Inv.comesV_val (.int .i64 (j : Nat)) W (by (go_simp; try rfl)) ⟨p10, by (simp only [Act.put, List.setIfInBounds_toArray, List.set_cons_succ, List.set_cons_zero, Manyd.upd, Nat.reduceAdd, Nat.reduceBEq, Bool.or_false, Bool.or_true, if_true]), Fv1.keep (i := 6) (by decide) (by decide) hT⟩⟩
              · rintro t act W hun hdep hbeh ⟨p10, rfl, hT⟩
                (try simp only [Nat.reduceAdd] at hun)
                have h5 : t 5 = true := Inv.depB_mem 5 hdep (by rfl)
                have h6 : t 6 = true := Inv.depB_mem 6 hdep (by rfl)
                refine .inl ⟨by rfl, Inv.comesV_val (.pointer (some ⟨G3, j * 2, none⟩)) W (by (simp only [h5, h6, if_true, Bool.false_eq_true, if_false]; go_simp; try rfl)) ⟨p10, by (simp only [Act.put, List.setIfInBounds_toArray, List.set_cons_succ, List.set_cons_zero, Manyd.upd, Nat.reduceAdd, Nat.reduceBEq, Bool.or_false, Bool.or_true, if_true]), Fv1.keep (i := 7) (by decide) (by decide) hT⟩⟩
              · rintro t act W hun hdep hbeh ⟨p10, rfl, hT⟩
                (try simp only [Nat.reduceAdd] at hun)
                have h7 : t 7 = true := Inv.depB_mem 7 hdep (by rfl)
                obtain ⟨c0, c1⟩ := hCj _ (hQ.bw.trans (hT.bw.mono hQ.size))
                refine .inl ⟨by rfl, Inv.comesV_val (.agg #[.int .i64 y0, .int .i64 y1]) W (by (simp only [h7, if_true, Bool.false_eq_true, if_false]; go_simp; try rfl)) ⟨p10, by (simp only [Act.put, List.setIfInBounds_toArray, List.set_cons_succ, List.set_cons_zero, Manyd.upd, Nat.reduceAdd, Nat.reduceBEq, Bool.or_false, Bool.or_true, if_true]), Fv1.keep (i := 8) (by decide) (by decide) hT⟩⟩
              · rintro t act W hun hdep hbeh ⟨p10, rfl, hT⟩
                (try simp only [Nat.reduceAdd] at hun)
                have h4 : t 4 = true := Inv.depB_mem 4 hdep (by rfl)
                have h8 : t 8 = true := Inv.depB_mem 8 hdep (by rfl)
                refine .inl ⟨by rfl, Inv.comesV_call 58 #[.agg #[.int .i64 c, .int .i64 1], .agg #[.int .i64 y0, .int .i64 y1]] W (by (simp only [h4, h8, if_true, Bool.false_eq_true, if_false]; go_simp; try rfl)) ((qc W).mono fun e w5 hw5 => ⟨_, hw5.1, p10, by (simp only [Act.put, List.setIfInBounds_toArray, List.set_cons_succ, List.set_cons_zero, Manyd.upd, Nat.reduceAdd, Nat.reduceBEq, Bool.or_false, Bool.or_true, if_true]), Fv1.keep (i := 9) (by decide) (by decide) (hT.after hw5.2)⟩)⟩
              · rintro t act W hun hdep hbeh ⟨p10, rfl, hT⟩
                (try simp only [Nat.reduceAdd] at hun)
                refine .inl ⟨by rfl, Inv.comesV_val (.pointer (some ⟨W.heap.size, 0, none⟩)) (W.alloc (.cells #[.int .i64 0, .int .i64 0] 37)) (by (go_simp; try rfl)) ⟨W.heap.size, by (simp only [Act.put, List.setIfInBounds_toArray, List.set_cons_succ, List.set_cons_zero, Manyd.upd, Nat.reduceAdd, Nat.reduceBEq, Bool.or_false, Bool.or_true, if_true]), hT.alloc7 (by decide) hun⟩⟩
              · rintro t act W hun hdep hbeh ⟨p10, rfl, hT⟩
                (try simp only [Nat.reduceAdd] at hun)
                have h10 : t 10 = true := Inv.depB_mem 10 hdep (by rfl)
                have h9 : t 9 = true := Inv.depB_mem 9 hdep (by rfl)
                obtain ⟨c0, c1, f0, f1⟩ := hT.own7 h10 hun
                refine .inl ⟨by rfl, Inv.comesV_skip ((W.setCell ⟨p10, 0, none⟩ (.int .i64 v0)).setCell ⟨p10, 1, none⟩ (.int .i64 v1)) (by (simp only [h10, h9, if_true, Bool.false_eq_true, if_false]; go_simp; try rfl)) ⟨p10, by (simp only [Act.put, List.setIfInBounds_toArray, List.set_cons_succ, List.set_cons_zero, Manyd.upd, Nat.reduceAdd, Nat.reduceBEq, Bool.or_false, Bool.or_true, if_true]), hT.set7 (by decide) h10 hun⟩⟩
            rintro t a' wibbec hs ⟨p10, rfl, hT⟩
            simp only [hs 0 (by decide), hs 1 (by decide), hs 2 (by decide), hs 3 (by decide), hs 4 (by decide), hs 5 (by decide), hs 6 (by decide), hs 7 (by decide), hs 8 (by decide), hs 9 (by decide), hs 10 (by decide), hs 11 (by decide), if_true]
            obtain ⟨hg9, b9⟩ := hT.a7 (hs 10 (by decide))
            rw [if_pos (hs 11 (by decide))] at b9
            have o9 := Own2.of b9
            have hQ := hQ.after hT.bw
            have ov : Own2 wibbec r8 (.int .i64 m0) (.int .i64 m1) := Own2.of hQ.s
            clear hT hs b9 hg9
            by_cases h4 : fm < fm'
            · rw [decide_eq_true h4] at q53m
              obtain ⟨c90, c91, f90, f91⟩ := o9
              obtain ⟨c50, c51, f50, f51⟩ := ov
              go_wp2_with (go_at_call 53; (with_reducible refine (q53m _).mono ?_); rintro e wibbed ⟨rfl, hbe⟩
                           have hQ := hQ.after hbe
                           obtain ⟨d90, d91, g90, g91⟩ := (⟨c90, c91, f90, f91⟩ : Own2 wibbec p10 (.int .i64 v0) (.int .i64 v1)).after hbe
                           obtain ⟨d50, d51, g50, g51⟩ := (⟨c50, c51, f50, f51⟩ : Own2 wibbec r8 (.int .i64 m0) (.int .i64 m1)).after hbe
                           clear hbe q53m c90 c91 f90 f91 c50 c51 f50 f51)
              clear d90 d91 g90 g91 d50 d51 g50 g51
              have hQ := hQ.setS hN v0 v1
              generalize (wibbed.setCell ⟨r8, 0, none⟩ (.int .i64 v0)).setCell ⟨r8, 1, none⟩ (.int .i64 v1) = wibbee at hQ ⊢
              exact ⟨fin _ _ _ _ _ hQ ⟨.inr ⟨rfl, by omega⟩⟩ ⟨.inl ⟨rfl, by omega⟩⟩ ⟨.inr ⟨rfl, by omega⟩⟩ ⟨.inr ⟨rfl, by omega⟩⟩, by simp [intOf]; omega⟩
            · rw [decide_eq_false h4] at q53m
              obtain ⟨c90, c91, f90, f91⟩ := o9
              obtain ⟨c50, c51, f50, f51⟩ := ov
              go_wp2_with (go_at_call 53; (with_reducible refine (q53m _).mono ?_); rintro e wibbed ⟨rfl, hbe⟩
                           have hQ := hQ.after hbe
                           obtain ⟨d90, d91, g90, g91⟩ := (⟨c90, c91, f90, f91⟩ : Own2 wibbec p10 (.int .i64 v0) (.int .i64 v1)).after hbe
                           obtain ⟨d50, d51, g50, g51⟩ := (⟨c50, c51, f50, f51⟩ : Own2 wibbec r8 (.int .i64 m0) (.int .i64 m1)).after hbe
                           clear hbe q53m c90 c91 f90 f91 c50 c51 f50 f51)
              clear d90 d91 g90 g91 d50 d51 g50 g51
              obtain ⟨wibbee, rfl⟩ : ∃ x, x = wibbed := ⟨_, rfl⟩
              exact ⟨fin _ _ _ _ _ hQ ⟨.inr ⟨rfl, by omega⟩⟩ ⟨.inl ⟨rfl, by omega⟩⟩ ⟨.inr ⟨rfl, by omega⟩⟩ ⟨.inl ⟨rfl, by omega⟩⟩, by simp [intOf]; omega⟩
          · rw [decide_eq_false h3] at q53l
            obtain ⟨c90, c91, f90, f91⟩ := o9
            obtain ⟨c50, c51, f50, f51⟩ := ov
            go_wp2_with (go_at_call 53; (with_reducible refine (q53l _).mono ?_); rintro e wibbd ⟨rfl, hbe⟩
                         have hQ := hQ.after hbe
                         obtain ⟨d90, d91, g90, g91⟩ := (⟨c90, c91, f90, f91⟩ : Own2 wibbc p9 (.int .i64 u0) (.int .i64 u1)).after hbe
                         obtain ⟨d50, d51, g50, g51⟩ := (⟨c50, c51, f50, f51⟩ : Own2 wibbc r7 (.int .i64 l0) (.int .i64 l1)).after hbe
                         clear hbe q53l c90 c91 f90 f91 c50 c51 f50 f51)
            clear d90 d91 g90 g91 d50 d51 g50 g51
            obtain ⟨wibbe, rfl⟩ : ∃ x, x = wibbd := ⟨_, rfl⟩
            refine (wpIn_wide (n := 0)).1 ?_
            refine Inv.region_inv (fun t act W => ∃ p10, act = { tmps := #[Value.slice A0 n0 cap0, Value.int IntKind.i64 F, Value.int IntKind.i64 R, undef, undef, undef, Value.bool false, Value.slice (some ⟨gz, oz, none⟩) n cap, Value.slice (some ⟨G1, 0, none⟩) n n, Value.int IntKind.i64 0, Value.slice (some ⟨G2, 0, none⟩) n n, Value.int IntKind.i64 0, Value.slice (some ⟨G3, 0, none⟩) n n, Value.int IntKind.i64 0, Value.pointer (some ⟨p7, 0, none⟩), Value.pointer (some ⟨p8, 0, none⟩), Value.pointer (some ⟨r7, 0, none⟩), Value.pointer (some ⟨r8, 0, none⟩), Value.int IntKind.i64 (j : Nat), .pointer (some ⟨p9, 0, none⟩), if t 10 = true then .pointer (some ⟨p10, 0, none⟩) else u20, Value.tuple #[Value.slice (some ⟨gz, oz, none⟩) n cap, Value.int IntKind.i64 F], Value.slice A0 n0 cap0, Value.int IntKind.i64 E, Value.tuple #[Value.slice (some ⟨gz, oz, none⟩) n cap, Value.int IntKind.i64 F], Value.slice (some ⟨gz, oz, none⟩) n cap, Value.int IntKind.i64 F, Value.tuple #[Value.slice (some ⟨G1, 0, none⟩) n n, Value.int IntKind.i64 0], Value.slice (some ⟨gz, oz, none⟩) n cap, Value.int IntKind.i64 F, Value.tuple #[Value.slice (some ⟨G1, 0, none⟩) n n, Value.int IntKind.i64 0], Value.slice (some ⟨G1, 0, none⟩) n n, Value.int IntKind.i64 0, Value.tuple #[Value.slice (some ⟨G2, 0, none⟩) n n, Value.int IntKind.i64 0], Value.slice (some ⟨gz, oz, none⟩) n cap, Value.int IntKind.i64 F, Value.tuple #[Value.slice (some ⟨G2, 0, none⟩) n n, Value.int IntKind.i64 0], Value.slice (some ⟨G2, 0, none⟩) n n, Value.int IntKind.i64 0, Value.tuple #[Value.slice (some ⟨G3, 0, none⟩) n n, Value.int IntKind.i64 0], Value.int IntKind.i64 R, Value.int IntKind.i64 (r : Nat), Value.slice (some ⟨gz, oz, none⟩) n cap, Value.int IntKind.i64 F, Value.tuple #[Value.slice (some ⟨G3, 0, none⟩) n n, Value.int IntKind.i64 0], Value.slice (some ⟨G3, 0, none⟩) n n, Value.int IntKind.i64 0, Value.int IntKind.i64 0, Value.bool false, Value.bool false, Value.int IntKind.i64 0, Value.bool false, Value.bool false, Value.bool false, Value.int IntKind.i64 0, Value.bool false, Value.bool false, Value.bool false, Value.slice (some ⟨G1, 0, none⟩) n n, Value.int IntKind.i64 (n : Nat), Value.slice (some ⟨gz, oz, none⟩) n cap, Value.int IntKind.i64 (n : Nat), Value.bool false, Value.bool false, Value.bool false, Value.slice (some ⟨G2, 0, none⟩) n n, Value.int IntKind.i64 (n : Nat), Value.slice (some ⟨gz, oz, none⟩) n cap, Value.int IntKind.i64 (n : Nat), Value.bool false, Value.bool false, Value.bool false, Value.slice (some ⟨G3, 0, none⟩) n n, Value.int IntKind.i64 (n : Nat), Value.slice (some ⟨gz, oz, none⟩) n cap, Value.int IntKind.i64 (n : Nat), Value.bool false, Value.bool false, Value.bool false, Value.slice (some ⟨G1, 0, none⟩) n n, Value.bool true, Value.bool false, Value.bool false, Value.bool false, Value.slice (some ⟨G2, 0, none⟩) n n, Value.bool true, Value.bool false, Value.bool false, Value.bool false, Value.slice (some ⟨G3, 0, none⟩) n n, Value.bool true, Value.bool false, Value.bool false, Value.slice (some ⟨G1, 0, none⟩) n n, Value.pointer (some ⟨G1, 0, none⟩), Value.agg #[Value.int IntKind.i64 a0, Value.int IntKind.i64 a1], Value.slice (some ⟨G3, 0, none⟩) n n, Value.pointer (some ⟨G3, 0, none⟩), Value.agg #[Value.int IntKind.i64 cc0, Value.int IntKind.i64 cc1], Value.slice (some ⟨gz, oz, none⟩) n cap, Value.pointer (some ⟨gz, oz, none⟩), Value.int IntKind.i64 z0, Value.agg #[Value.int IntKind.i64 z0, Value.int IntKind.i64 1], Value.slice (some ⟨G2, 0, none⟩) n n, Value.pointer (some ⟨G2, 0, none⟩), Value.agg #[Value.int IntKind.i64 ib0, Value.int IntKind.i64 ib1], Value.agg #[Value.int IntKind.i64 il0, Value.int IntKind.i64 il1], Value.slice (some ⟨gz, oz, none⟩) n cap, Value.pointer (some ⟨gz, oz, none⟩), Value.int IntKind.i64 z0, Value.agg #[Value.int IntKind.i64 z0, Value.int IntKind.i64 1], Value.slice (some ⟨G3, 0, none⟩) n n, Value.pointer (some ⟨G3, 0, none⟩), Value.agg #[Value.int IntKind.i64 cc0, Value.int IntKind.i64 cc1], Value.agg #[Value.int IntKind.i64 im0, Value.int IntKind.i64 im1], Value.int IntKind.i64 (j : Nat), Value.slice (some ⟨gz, oz, none⟩) n cap, Value.int IntKind.i64 (n : Nat), Value.bool true, u119, u120, .slice (some ⟨G1, 0, none⟩) n n, .int .i64 (j : Nat), .pointer (some ⟨G1, j * 2, none⟩), .agg #[.int .i64 x0, .int .i64 x1], .agg #[.int .i64 s0, .int .i64 s1], .bool true, .slice (some ⟨G1, 0, none⟩) n n, .int .i64 (j : Nat), .pointer (some ⟨G1, j * 2, none⟩), .agg #[.int .i64 x0, .int .i64 x1], .slice (some ⟨G3, 0, none⟩) n n, .int .i64 (j : Nat), .pointer (some ⟨G3, j * 2, none⟩), .agg #[.int .i64 y0, .int .i64 y1], .agg #[.int .i64 o0, .int .i64 o1], .bool false, u137, u138, u139, u140, .slice (some ⟨gz, oz, none⟩) n cap, .int .i64 (j : Nat), .pointer (some ⟨gz, oz + j, none⟩), .int .i64 c, .agg #[.int .i64 c, .int .i64 1], .slice (some ⟨G2, 0, none⟩) n n, .int .i64 (j : Nat), .pointer (some ⟨G2, j * 2, none⟩), .agg #[.int .i64 b0, .int .i64 b1], .agg #[.int .i64 u0, .int .i64 u1], .agg #[.int .i64 l0, .int .i64 l1], .agg #[.int .i64 u0, .int .i64 u1], .bool false, u154, if t 0 = true then .slice (some ⟨gz, oz, none⟩) n cap else u155, if t 1 = true then .int .i64 (j : Nat) else u156, if t 2 = true then .pointer (some ⟨gz, oz + j, none⟩) else u157, if t 3 = true then .int .i64 c else u158, if t 4 = true then .agg #[.int .i64 c, .int .i64 1] else u159, if t 5 = true then .slice (some ⟨G3, 0, none⟩) n n else u160, if t 6 = true then .int .i64 (j : Nat) else u161, if t 7 = true then .pointer (some ⟨G3, j * 2, none⟩) else u162, if t 8 = true then .agg #[.int .i64 y0, .int .i64 y1] else u163, if t 9 = true then .agg #[.int .i64 v0, .int .i64 v1] else u164, u165, u166, u167, u168, undef, undef, undef, undef, undef, undef, undef, undef, undef, undef, undef, undef, undef], defers := [] } ∧ Fv1 wibbe 10 11 v0 v1 t p10 W) mixed_ok (by kernel_rfl) ?_ ?_ ?_
            · intro t hs
              refine ⟨0, ?_, Fv1.start (hs 10 (by decide)) (hs 11 (by decide))⟩
              simp only [hs 0 (by decide), hs 1 (by decide), hs 2 (by decide), hs 3 (by decide), hs 4 (by decide), hs 5 (by decide), hs 6 (by decide), hs 7 (by decide), hs 8 (by decide), hs 9 (by decide), hs 10 (by decide), hs 11 (by decide), Bool.false_eq_true, if_false]
            · refine ⟨?_, ?_, ?_, ?_, ?_, ?_, ?_, ?_, ?_, ?_, ?_, ?_, trivial⟩
              · rintro t act W hun hdep hbeh ⟨p10, rfl, hT⟩
                (try simp only [Nat.reduceAdd] at hun)
                refine .inl ⟨by rfl, Inv.comesV_val (.slice (some ⟨gz, oz, none⟩) n cap) W (by (go_simp; try rfl)) ⟨p10, by (simp only [Act.put, List.setIfInBounds_toArray, List.set_cons_succ, List.set_cons_zero, Manyd.upd, Nat.reduceAdd, Nat.reduceBEq, Bool.or_false, Bool.or_true, if_true]), Fv1.keep (i := 0) (by decide) (by decide) hT⟩⟩
              · rintro t act W hun hdep hbeh ⟨p10, rfl, hT⟩
                (try simp only [Nat.reduceAdd] at hun)
                refine .inl ⟨by rfl, Inv.comesV_val (.int .i64 (j : Nat)) W (by (go_simp; try rfl)) ⟨p10, by (simp only [Act.put, List.setIfInBounds_toArray, List.set_cons_succ, List.set_cons_zero, Manyd.upd, Nat.reduceAdd, Nat.reduceBEq, Bool.or_false, Bool.or_true, if_true]), Fv1.keep (i := 1) (by decide) (by decide) hT⟩⟩
              · rintro t act W hun hdep hbeh ⟨p10, rfl, hT⟩
                (try simp only [Nat.reduceAdd] at hun)
                have h0 : t 0 = true := Inv.depB_mem 0 hdep (by rfl)
                have h1 : t 1 = true := Inv.depB_mem 1 hdep (by rfl)
                refine .inl ⟨by rfl, Inv.comesV_val (.pointer (some ⟨gz, oz + j, none⟩)) W (by (simp only [h0, h1, if_true, Bool.false_eq_true, if_false]; go_simp; try rfl)) ⟨p10, by (simp only [Act.put, List.setIfInBounds_toArray, List.set_cons_succ, List.set_cons_zero, Manyd.upd, Nat.reduceAdd, Nat.reduceBEq, Bool.or_false, Bool.or_true, if_true]), Fv1.keep (i := 2) (by decide) (by decide) hT⟩⟩
              · rintro t act W hun hdep hbeh ⟨p10, rfl, hT⟩
                (try simp only [Nat.reduceAdd] at hun)
                have h2 : t 2 = true := Inv.depB_mem 2 hdep (by rfl)
                have c0 := hzj _ (hQ.bw.trans (hT.bw.mono hQ.size))
                refine .inl ⟨by rfl, Inv.comesV_val (.int .i64 c) W (by (simp only [h2, if_true, Bool.false_eq_true, if_false]; go_simp; try rfl)) ⟨p10, by (simp only [Act.put, List.setIfInBounds_toArray, List.set_cons_succ, List.set_cons_zero, Manyd.upd, Nat.reduceAdd, Nat.reduceBEq, Bool.or_false, Bool.or_true, if_true]), Fv1.keep (i := 3) (by decide) (by decide) hT⟩⟩
              · rintro t act W hun hdep hbeh ⟨p10, rfl, hT⟩
                (try simp only [Nat.reduceAdd] at hun)
                have h3 : t 3 = true := Inv.depB_mem 3 hdep (by rfl)
                refine .inl ⟨by rfl, Inv.comesV_call 29 #[.int .i64 c] W (by (simp only [h3, if_true, Bool.false_eq_true, if_false]; go_simp; try rfl)) ((q29 W).mono fun e w5 hw5 => ⟨_, hw5.1, p10, by (simp only [Act.put, List.setIfInBounds_toArray, List.set_cons_succ, List.set_cons_zero, Manyd.upd, Nat.reduceAdd, Nat.reduceBEq, Bool.or_false, Bool.or_true, if_true]), Fv1.keep (i := 4) (by decide) (by decide) (hT.after hw5.2)⟩)⟩
              · rintro t act W hun hdep hbeh ⟨p10, rfl, hT⟩
                (try simp only [Nat.reduceAdd] at hun)
                refine .inl ⟨by rfl, Inv.comesV_val (.slice (some ⟨G3, 0, none⟩) n n) W (by (go_simp; try rfl)) ⟨p10, by (simp only [Act.put, List.setIfInBounds_toArray, List.set_cons_succ, List.set_cons_zero, Manyd.upd, Nat.reduceAdd, Nat.reduceBEq, Bool.or_false, Bool.or_true, if_true]), Fv1.keep (i := 5) (by decide) (by decide) hT⟩⟩
              · rintro t act W hun hdep hbeh ⟨p10, rfl, hT⟩
                (try simp only [Nat.reduceAdd] at hun)
                refine .inl ⟨by rfl, Inv.comesV_val (.int .i64 (j : Nat)) W (by (go_simp; try rfl)) ⟨p10, by (simp only [Act.put, List.setIfInBounds_toArray, List.set_cons_succ, List.set_cons_zero, Manyd.upd, Nat.reduceAdd, Nat.reduceBEq, Bool.or_false, Bool.or_true, if_true]), Fv1.keep (i := 6) (by decide) (by decide) hT⟩⟩
              · rintro t act W hun hdep hbeh ⟨p10, rfl, hT⟩
                (try simp only [Nat.reduceAdd] at hun)
                have h5 : t 5 = true := Inv.depB_mem 5 hdep (by rfl)
                have h6 : t 6 = true := Inv.depB_mem 6 hdep (by rfl)
                refine .inl ⟨by rfl, Inv.comesV_val (.pointer (some ⟨G3, j * 2, none⟩)) W (by (simp only [h5, h6, if_true, Bool.false_eq_true, if_false]; go_simp; try rfl)) ⟨p10, by (simp only [Act.put, List.setIfInBounds_toArray, List.set_cons_succ, List.set_cons_zero, Manyd.upd, Nat.reduceAdd, Nat.reduceBEq, Bool.or_false, Bool.or_true, if_true]), Fv1.keep (i := 7) (by decide) (by decide) hT⟩⟩
              · rintro t act W hun hdep hbeh ⟨p10, rfl, hT⟩
                (try simp only [Nat.reduceAdd] at hun)
                have h7 : t 7 = true := Inv.depB_mem 7 hdep (by rfl)
                obtain ⟨c0, c1⟩ := hCj _ (hQ.bw.trans (hT.bw.mono hQ.size))
                refine .inl ⟨by rfl, Inv.comesV_val (.agg #[.int .i64 y0, .int .i64 y1]) W (by (simp only [h7, if_true, Bool.false_eq_true, if_false]; go_simp; try rfl)) ⟨p10, by (simp only [Act.put, List.setIfInBounds_toArray, List.set_cons_succ, List.set_cons_zero, Manyd.upd, Nat.reduceAdd, Nat.reduceBEq, Bool.or_false, Bool.or_true, if_true]), Fv1.keep (i := 8) (by decide) (by decide) hT⟩⟩
              · rintro t act W hun hdep hbeh ⟨p10, rfl, hT⟩
                (try simp only [Nat.reduceAdd] at hun)
                have h4 : t 4 = true := Inv.depB_mem 4 hdep (by rfl)
                have h8 : t 8 = true := Inv.depB_mem 8 hdep (by rfl)
                refine .inl ⟨by rfl, Inv.comesV_call 58 #[.agg #[.int .i64 c, .int .i64 1], .agg #[.int .i64 y0, .int .i64 y1]] W (by (simp only [h4, h8, if_true, Bool.false_eq_true, if_false]; go_simp; try rfl)) ((qc W).mono fun e w5 hw5 => ⟨_, hw5.1, p10, by (simp only [Act.put, List.setIfInBounds_toArray, List.set_cons_succ, List.set_cons_zero, Manyd.upd, Nat.reduceAdd, Nat.reduceBEq, Bool.or_false, Bool.or_true, if_true]), Fv1.keep (i := 9) (by decide) (by decide) (hT.after hw5.2)⟩)⟩
              · rintro t act W hun hdep hbeh ⟨p10, rfl, hT⟩
                (try simp only [Nat.reduceAdd] at hun)
                refine .inl ⟨by rfl, Inv.comesV_val (.pointer (some ⟨W.heap.size, 0, none⟩)) (W.alloc (.cells #[.int .i64 0, .int .i64 0] 37)) (by (go_simp; try rfl)) ⟨W.heap.size, by (simp only [Act.put, List.setIfInBounds_toArray, List.set_cons_succ, List.set_cons_zero, Manyd.upd, Nat.reduceAdd, Nat.reduceBEq, Bool.or_false, Bool.or_true, if_true]), hT.alloc7 (by decide) hun⟩⟩
              · rintro t act W hun hdep hbeh ⟨p10, rfl, hT⟩
                (try simp only [Nat.reduceAdd] at hun)
                have h10 : t 10 = true := Inv.depB_mem 10 hdep (by rfl)
                have h9 : t 9 = true := Inv.depB_mem 9 hdep (by rfl)
                obtain ⟨c0, c1, f0, f1⟩ := hT.own7 h10 hun
                refine .inl ⟨by rfl, Inv.comesV_skip ((W.setCell ⟨p10, 0, none⟩ (.int .i64 v0)).setCell ⟨p10, 1, none⟩ (.int .i64 v1)) (by (simp only [h10, h9, if_true, Bool.false_eq_true, if_false]; go_simp; try rfl)) ⟨p10, by (simp only [Act.put, List.setIfInBounds_toArray, List.set_cons_succ, List.set_cons_zero, Manyd.upd, Nat.reduceAdd, Nat.reduceBEq, Bool.or_false, Bool.or_true, if_true]), hT.set7 (by decide) h10 hun⟩⟩
            rintro t a' wibbec hs ⟨p10, rfl, hT⟩
            simp only [hs 0 (by decide), hs 1 (by decide), hs 2 (by decide), hs 3 (by decide), hs 4 (by decide), hs 5 (by decide), hs 6 (by decide), hs 7 (by decide), hs 8 (by decide), hs 9 (by decide), hs 10 (by decide), hs 11 (by decide), if_true]
            obtain ⟨hg9, b9⟩ := hT.a7 (hs 10 (by decide))
            rw [if_pos (hs 11 (by decide))] at b9
            have o9 := Own2.of b9
            have hQ := hQ.after hT.bw
            have ov : Own2 wibbec r8 (.int .i64 m0) (.int .i64 m1) := Own2.of hQ.s
            clear hT hs b9 hg9
            by_cases h4 : fm < fm'
            · rw [decide_eq_true h4] at q53m
              obtain ⟨c90, c91, f90, f91⟩ := o9
              obtain ⟨c50, c51, f50, f51⟩ := ov
              go_wp2_with (go_at_call 53; (with_reducible refine (q53m _).mono ?_); rintro e wibbed ⟨rfl, hbe⟩
                           have hQ := hQ.after hbe
                           obtain ⟨d90, d91, g90, g91⟩ := (⟨c90, c91, f90, f91⟩ : Own2 wibbec p10 (.int .i64 v0) (.int .i64 v1)).after hbe
                           obtain ⟨d50, d51, g50, g51⟩ := (⟨c50, c51, f50, f51⟩ : Own2 wibbec r8 (.int .i64 m0) (.int .i64 m1)).after hbe
                           clear hbe q53m c90 c91 f90 f91 c50 c51 f50 f51)
              clear d90 d91 g90 g91 d50 d51 g50 g51
              have hQ := hQ.setS hN v0 v1
              generalize (wibbed.setCell ⟨r8, 0, none⟩ (.int .i64 v0)).setCell ⟨r8, 1, none⟩ (.int .i64 v1) = wibbee at hQ ⊢
              exact ⟨fin _ _ _ _ _ hQ ⟨.inr ⟨rfl, by omega⟩⟩ ⟨.inl ⟨rfl, by omega⟩⟩ ⟨.inl ⟨rfl, by omega⟩⟩ ⟨.inr ⟨rfl, by omega⟩⟩, by simp [intOf]; omega⟩
            · rw [decide_eq_false h4] at q53m
              obtain ⟨c90, c91, f90, f91⟩ := o9
              obtain ⟨c50, c51, f50, f51⟩ := ov
              go_wp2_with (go_at_call 53; (with_reducible refine (q53m _).mono ?_); rintro e wibbed ⟨rfl, hbe⟩
                           have hQ := hQ.after hbe
                           obtain ⟨d90, d91, g90, g91⟩ := (⟨c90, c91, f90, f91⟩ : Own2 wibbec p10 (.int .i64 v0) (.int .i64 v1)).after hbe
                           obtain ⟨d50, d51, g50, g51⟩ := (⟨c50, c51, f50, f51⟩ : Own2 wibbec r8 (.int .i64 m0) (.int .i64 m1)).after hbe
                           clear hbe q53m c90 c91 f90 f91 c50 c51 f50 f51)
              clear d90 d91 g90 g91 d50 d51 g50 g51
              obtain ⟨wibbee, rfl⟩ : ∃ x, x = wibbed := ⟨_, rfl⟩
              exact ⟨fin _ _ _ _ _ hQ ⟨.inr ⟨rfl, by omega⟩⟩ ⟨.inl ⟨rfl, by omega⟩⟩ ⟨.inl ⟨rfl, by omega⟩⟩ ⟨.inl ⟨rfl, by omega⟩⟩, by simp [intOf]; omega⟩
      · have op : Own2 wi p7 (.int .i64 s0) (.int .i64 s1) := Own2.of hQ.p
        rw [decide_eq_false h1] at q53s
        refine (wpIn_wide (n := 0)).1 ?_
        refine Many.region_many (Go.Proofs.Ytbocmbhinjkjlaa.Cb wi) mixed_ok (by kernel_rfl) (fun _ _ _ _ h => h) (fun s _ => Go.Proofs.Ytbocmbhinjkjlaa.Cb.start wi s) ?_
        refine Many.lex_want (by rfl) (rdb (fun w hb => by (go_simp; try rfl))) ?_
        simp only [Act.put, List.setIfInBounds_toArray, List.set_cons_succ, List.set_cons_zero, Nat.reduceAdd]
        refine Many.lex_want (by rfl) (rdb (fun w hb => by (go_simp; try rfl))) ?_
        simp only [Act.put, List.setIfInBounds_toArray, List.set_cons_succ, List.set_cons_zero, Nat.reduceAdd]
        refine Many.lex_want (by rfl) (rdb (v := .pointer (some ⟨G1, j * 2, none⟩)) (fun w hb => by (skip; go_simp; try rfl))) ?_
        simp only [Act.put, List.setIfInBounds_toArray, List.set_cons_succ, List.set_cons_zero, Nat.reduceAdd]
        refine Many.lex_want (by rfl) (rdb (v := .agg #[.int .i64 x0, .int .i64 x1]) (fun w hb => by (obtain ⟨c0, c1⟩ := hAj _ (hQ.bw.trans (hb.mono hQ.size)); go_simp; try rfl))) ?_
        simp only [Act.put, List.setIfInBounds_toArray, List.set_cons_succ, List.set_cons_zero, Nat.reduceAdd]
        refine Many.lex_want (by rfl) (rdb (v := .agg #[.int .i64 s0, .int .i64 s1]) (fun w hb => by (obtain ⟨c0, c1, f0, f1⟩ := (op).after hb; go_simp; try rfl))) ?_
        simp only [Act.put, List.setIfInBounds_toArray, List.set_cons_succ, List.set_cons_zero, Nat.reduceAdd]
        refine Many.lex_want (by rfl) (clb q53s (fun w hb => by (go_simp; try rfl))) ?_
        simp only [Act.put, List.setIfInBounds_toArray, List.set_cons_succ, List.set_cons_zero, Nat.reduceAdd]
        refine Many.lex_nil fun s wia hs hC => ?_
        have hC : Below wi.heap.size wi wia := hC
        have hQ := hQ.after hC
        clear hC hs op q53s
        go_wp2
        obtain ⟨wib, rfl⟩ : ∃ x, x = wia := ⟨_, rfl⟩
        by_cases h2 : fc c < fc ko
        · have op : Own2 wib p8 (.int .i64 o0) (.int .i64 o1) := Own2.of hQ.q
          rw [decide_eq_true h2] at q53o
          refine (wpIn_wide (n := 0)).1 ?_
          refine Many.region_many (Go.Proofs.Ytbocmbhinjkjlaa.Cb wib) mixed_ok (by kernel_rfl) (fun _ _ _ _ h => h) (fun s _ => Go.Proofs.Ytbocmbhinjkjlaa.Cb.start wib s) ?_
          refine Many.lex_want (by rfl) (rdb (fun w hb => by (go_simp; try rfl))) ?_
          simp only [Act.put, List.setIfInBounds_toArray, List.set_cons_succ, List.set_cons_zero, Nat.reduceAdd]
          refine Many.lex_want (by rfl) (rdb (fun w hb => by (go_simp; try rfl))) ?_
          simp only [Act.put, List.setIfInBounds_toArray, List.set_cons_succ, List.set_cons_zero, Nat.reduceAdd]
          refine Many.lex_want (by rfl) (rdb (v := .pointer (some ⟨G3, j * 2, none⟩)) (fun w hb => by (skip; go_simp; try rfl))) ?_
          simp only [Act.put, List.setIfInBounds_toArray, List.set_cons_succ, List.set_cons_zero, Nat.reduceAdd]
          refine Many.lex_want (by rfl) (rdb (v := .agg #[.int .i64 y0, .int .i64 y1]) (fun w hb => by (obtain ⟨c0, c1⟩ := hCj _ (hQ.bw.trans (hb.mono hQ.size)); go_simp; try rfl))) ?_
          simp only [Act.put, List.setIfInBounds_toArray, List.set_cons_succ, List.set_cons_zero, Nat.reduceAdd]
          refine Many.lex_want (by rfl) (rdb (v := .agg #[.int .i64 o0, .int .i64 o1]) (fun w hb => by (obtain ⟨c0, c1, f0, f1⟩ := (op).after hb; go_simp; try rfl))) ?_
          simp only [Act.put, List.setIfInBounds_toArray, List.set_cons_succ, List.set_cons_zero, Nat.reduceAdd]
          refine Many.lex_want (by rfl) (clb q53o (fun w hb => by (go_simp; try rfl))) ?_
          simp only [Act.put, List.setIfInBounds_toArray, List.set_cons_succ, List.set_cons_zero, Nat.reduceAdd]
          refine Many.lex_nil fun s wiba hs hC => ?_
          have hC : Below wib.heap.size wib wiba := hC
          have hQ := hQ.after hC
          clear hC hs op q53o
          obtain ⟨c0, c1⟩ := hCj _ hQ.bw
          obtain ⟨c50, c51, f50, f51⟩ := (Own2.of hQ.q : Own2 wiba p8 (.int .i64 o0) (.int .i64 o1))
          go_wp2
          clear c0 c1 c50 c51 f50 f51
          have hQ := hQ.setQ hN y0 y1
          generalize (wiba.setCell ⟨p8, 0, none⟩ (.int .i64 y0)).setCell ⟨p8, 1, none⟩ (.int .i64 y1) = wibb at hQ ⊢
          refine (wpIn_wide (n := 0)).1 ?_
          refine Inv.region_inv (fun t act W => ∃ p9, act = { tmps := #[Value.slice A0 n0 cap0, Value.int IntKind.i64 F, Value.int IntKind.i64 R, undef, undef, undef, Value.bool false, Value.slice (some ⟨gz, oz, none⟩) n cap, Value.slice (some ⟨G1, 0, none⟩) n n, Value.int IntKind.i64 0, Value.slice (some ⟨G2, 0, none⟩) n n, Value.int IntKind.i64 0, Value.slice (some ⟨G3, 0, none⟩) n n, Value.int IntKind.i64 0, Value.pointer (some ⟨p7, 0, none⟩), Value.pointer (some ⟨p8, 0, none⟩), Value.pointer (some ⟨r7, 0, none⟩), Value.pointer (some ⟨r8, 0, none⟩), Value.int IntKind.i64 (j : Nat), if t 10 = true then .pointer (some ⟨p9, 0, none⟩) else u19, u20, Value.tuple #[Value.slice (some ⟨gz, oz, none⟩) n cap, Value.int IntKind.i64 F], Value.slice A0 n0 cap0, Value.int IntKind.i64 E, Value.tuple #[Value.slice (some ⟨gz, oz, none⟩) n cap, Value.int IntKind.i64 F], Value.slice (some ⟨gz, oz, none⟩) n cap, Value.int IntKind.i64 F, Value.tuple #[Value.slice (some ⟨G1, 0, none⟩) n n, Value.int IntKind.i64 0], Value.slice (some ⟨gz, oz, none⟩) n cap, Value.int IntKind.i64 F, Value.tuple #[Value.slice (some ⟨G1, 0, none⟩) n n, Value.int IntKind.i64 0], Value.slice (some ⟨G1, 0, none⟩) n n, Value.int IntKind.i64 0, Value.tuple #[Value.slice (some ⟨G2, 0, none⟩) n n, Value.int IntKind.i64 0], Value.slice (some ⟨gz, oz, none⟩) n cap, Value.int IntKind.i64 F, Value.tuple #[Value.slice (some ⟨G2, 0, none⟩) n n, Value.int IntKind.i64 0], Value.slice (some ⟨G2, 0, none⟩) n n, Value.int IntKind.i64 0, Value.tuple #[Value.slice (some ⟨G3, 0, none⟩) n n, Value.int IntKind.i64 0], Value.int IntKind.i64 R, Value.int IntKind.i64 (r : Nat), Value.slice (some ⟨gz, oz, none⟩) n cap, Value.int IntKind.i64 F, Value.tuple #[Value.slice (some ⟨G3, 0, none⟩) n n, Value.int IntKind.i64 0], Value.slice (some ⟨G3, 0, none⟩) n n, Value.int IntKind.i64 0, Value.int IntKind.i64 0, Value.bool false, Value.bool false, Value.int IntKind.i64 0, Value.bool false, Value.bool false, Value.bool false, Value.int IntKind.i64 0, Value.bool false, Value.bool false, Value.bool false, Value.slice (some ⟨G1, 0, none⟩) n n, Value.int IntKind.i64 (n : Nat), Value.slice (some ⟨gz, oz, none⟩) n cap, Value.int IntKind.i64 (n : Nat), Value.bool false, Value.bool false, Value.bool false, Value.slice (some ⟨G2, 0, none⟩) n n, Value.int IntKind.i64 (n : Nat), Value.slice (some ⟨gz, oz, none⟩) n cap, Value.int IntKind.i64 (n : Nat), Value.bool false, Value.bool false, Value.bool false, Value.slice (some ⟨G3, 0, none⟩) n n, Value.int IntKind.i64 (n : Nat), Value.slice (some ⟨gz, oz, none⟩) n cap, Value.int IntKind.i64 (n : Nat), Value.bool false, Value.bool false, Value.bool false, Value.slice (some ⟨G1, 0, none⟩) n n, Value.bool true, Value.bool false, Value.bool false, Value.bool false, Value.slice (some ⟨G2, 0, none⟩) n n, Value.bool true, Value.bool false, Value.bool false, Value.bool false, Value.slice (some ⟨G3, 0, none⟩) n n, Value.bool true, Value.bool false, Value.bool false, Value.slice (some ⟨G1, 0, none⟩) n n, Value.pointer (some ⟨G1, 0, none⟩), Value.agg #[Value.int IntKind.i64 a0, Value.int IntKind.i64 a1], Value.slice (some ⟨G3, 0, none⟩) n n, Value.pointer (some ⟨G3, 0, none⟩), Value.agg #[Value.int IntKind.i64 cc0, Value.int IntKind.i64 cc1], Value.slice (some ⟨gz, oz, none⟩) n cap, Value.pointer (some ⟨gz, oz, none⟩), Value.int IntKind.i64 z0, Value.agg #[Value.int IntKind.i64 z0, Value.int IntKind.i64 1], Value.slice (some ⟨G2, 0, none⟩) n n, Value.pointer (some ⟨G2, 0, none⟩), Value.agg #[Value.int IntKind.i64 ib0, Value.int IntKind.i64 ib1], Value.agg #[Value.int IntKind.i64 il0, Value.int IntKind.i64 il1], Value.slice (some ⟨gz, oz, none⟩) n cap, Value.pointer (some ⟨gz, oz, none⟩), Value.int IntKind.i64 z0, Value.agg #[Value.int IntKind.i64 z0, Value.int IntKind.i64 1], Value.slice (some ⟨G3, 0, none⟩) n n, Value.pointer (some ⟨G3, 0, none⟩), Value.agg #[Value.int IntKind.i64 cc0, Value.int IntKind.i64 cc1], Value.agg #[Value.int IntKind.i64 im0, Value.int IntKind.i64 im1], Value.int IntKind.i64 (j : Nat), Value.slice (some ⟨gz, oz, none⟩) n cap, Value.int IntKind.i64 (n : Nat), Value.bool true, u119, u120, .slice (some ⟨G1, 0, none⟩) n n, .int .i64 (j : Nat), .pointer (some ⟨G1, j * 2, none⟩), .agg #[.int .i64 x0, .int .i64 x1], .agg #[.int .i64 s0, .int .i64 s1], .bool false, u127, u128, u129, u130, .slice (some ⟨G3, 0, none⟩) n n, .int .i64 (j : Nat), .pointer (some ⟨G3, j * 2, none⟩), .agg #[.int .i64 y0, .int .i64 y1], .agg #[.int .i64 o0, .int .i64 o1], .bool true, .slice (some ⟨G3, 0, none⟩) n n, .int .i64 (j : Nat), .pointer (some ⟨G3, j * 2, none⟩), .agg #[.int .i64 y0, .int .i64 y1], if t 0 = true then .slice (some ⟨gz, oz, none⟩) n cap else u141, if t 1 = true then .int .i64 (j : Nat) else u142, if t 2 = true then .pointer (some ⟨gz, oz + j, none⟩) else u143, if t 3 = true then .int .i64 c else u144, if t 4 = true then .agg #[.int .i64 c, .int .i64 1] else u145, if t 5 = true then .slice (some ⟨G2, 0, none⟩) n n else u146, if t 6 = true then .int .i64 (j : Nat) else u147, if t 7 = true then .pointer (some ⟨G2, j * 2, none⟩) else u148, if t 8 = true then .agg #[.int .i64 b0, .int .i64 b1] else u149, if t 9 = true then .agg #[.int .i64 u0, .int .i64 u1] else u150, u151, u152, u153, u154, u155, u156, u157, u158, u159, u160, u161, u162, u163, u164, u165, u166, u167, u168, undef, undef, undef, undef, undef, undef, undef, undef, undef, undef, undef, undef, undef], defers := [] } ∧ Fv1 wibb 10 11 u0 u1 t p9 W) mixed_ok (by kernel_rfl) ?_ ?_ ?_
          · intro t hs
            refine ⟨0, ?_, Fv1.start (hs 10 (by decide)) (hs 11 (by decide))⟩
            simp only [hs 0 (by decide), hs 1 (by decide), hs 2 (by decide), hs 3 (by decide), hs 4 (by decide), hs 5 (by decide), hs 6 (by decide), hs 7 (by decide), hs 8 (by decide), hs 9 (by decide), hs 10 (by decide), hs 11 (by decide), Bool.false_eq_true, if_false]
          · refine ⟨?_, ?_, ?_, ?_, ?_, ?_, ?_, ?_, ?_, ?_, ?_, ?_, trivial⟩
            · rintro t act W hun hdep hbeh ⟨p9, rfl, hT⟩
              (try simp only [Nat.reduceAdd] at hun)
              refine .inl ⟨by rfl, Inv.comesV_val (.slice (some ⟨gz, oz, none⟩) n cap) W (by (go_simp; try rfl)) ⟨p9, by (simp only [Act.put, List.setIfInBounds_toArray, List.set_cons_succ, List.set_cons_zero, Manyd.upd, Nat.reduceAdd, Nat.reduceBEq, Bool.or_false, Bool.or_true, if_true]), Fv1.keep (i := 0) (by decide) (by decide) hT⟩⟩
            · rintro t act W hun hdep hbeh ⟨p9, rfl, hT⟩
              (try simp only [Nat.reduceAdd] at hun)
              refine .inl ⟨by rfl, Inv.comesV_val (.int .i64 (j : Nat)) W (by (go_simp; try rfl)) ⟨p9, by (simp only [Act.put, List.setIfInBounds_toArray, List.set_cons_succ, List.set_cons_zero, Manyd.upd, Nat.reduceAdd, Nat.reduceBEq, Bool.or_false, Bool.or_true, if_true]), Fv1.keep (i := 1) (by decide) (by decide) hT⟩⟩
            · rintro t act W hun hdep hbeh ⟨p9, rfl, hT⟩
              (try simp only [Nat.reduceAdd] at hun)
              have h0 : t 0 = true := Inv.depB_mem 0 hdep (by rfl)
              have h1 : t 1 = true := Inv.depB_mem 1 hdep (by rfl)
              refine .inl ⟨by rfl, Inv.comesV_val (.pointer (some ⟨gz, oz + j, none⟩)) W (by (simp only [h0, h1, if_true, Bool.false_eq_true, if_false]; go_simp; try rfl)) ⟨p9, by (simp only [Act.put, List.setIfInBounds_toArray, List.set_cons_succ, List.set_cons_zero, Manyd.upd, Nat.reduceAdd, Nat.reduceBEq, Bool.or_false, Bool.or_true, if_true]), Fv1.keep (i := 2) (by decide) (by decide) hT⟩⟩
            · rintro t act W hun hdep hbeh ⟨p9, rfl, hT⟩
              (try simp only [Nat.reduceAdd] at hun)
              have h2 : t 2 = true := Inv.depB_mem 2 hdep (by rfl)
              have c0 := hzj _ (hQ.bw.trans (hT.bw.mono hQ.size))
              refine .inl ⟨by rfl, Inv.comesV_val (.int .i64 c) W (by (simp only [h2, if_true, Bool.false_eq_true, if_false]; go_simp; try rfl)) ⟨p9, by (simp only [Act.put, List.setIfInBounds_toArray, List.set_cons_succ, List.set_cons_zero, Manyd.upd, Nat.reduceAdd, Nat.reduceBEq, Bool.or_false, Bool.or_true, if_true]), Fv1.keep (i := 3) (by decide) (by decide) hT⟩⟩
            · rintro t act W hun hdep hbeh ⟨p9, rfl, hT⟩
              (try simp only [Nat.reduceAdd] at hun)
              have h3 : t 3 = true := Inv.depB_mem 3 hdep (by rfl)
              refine .inl ⟨by rfl, Inv.comesV_call 29 #[.int .i64 c] W (by (simp only [h3, if_true, Bool.false_eq_true, if_false]; go_simp; try rfl)) ((q29 W).mono fun e w5 hw5 => ⟨_, hw5.1, p9, by (simp only [Act.put, List.setIfInBounds_toArray, List.set_cons_succ, List.set_cons_zero, Manyd.upd, Nat.reduceAdd, Nat.reduceBEq, Bool.or_false, Bool.or_true, if_true]), Fv1.keep (i := 4) (by decide) (by decide) (hT.after hw5.2)⟩)⟩
            · rintro t act W hun hdep hbeh ⟨p9, rfl, hT⟩
              (try simp only [Nat.reduceAdd] at hun)
              refine .inl ⟨by rfl, Inv.comesV_val (.slice (some ⟨G2, 0, none⟩) n n) W (by (go_simp; try rfl)) ⟨p9, by (simp only [Act.put, List.setIfInBounds_toArray, List.set_cons_succ, List.set_cons_zero, Manyd.upd, Nat.reduceAdd, Nat.reduceBEq, Bool.or_false, Bool.or_true, if_true]), Fv1.keep (i := 5) (by decide) (by decide) hT⟩⟩
            · rintro t act W hun hdep hbeh ⟨p9, rfl, hT⟩
              (try simp only [Nat.reduceAdd] at hun)
              refine .inl ⟨by rfl, Inv.comesV_val (.int .i64 (j : Nat)) W (by (go_simp; try rfl)) ⟨p9, by (simp only [Act.put, List.setIfInBounds_toArray, List.set_cons_succ, List.set_cons_zero, Manyd.upd, Nat.reduceAdd, Nat.reduceBEq, Bool.or_false, Bool.or_true, if_true]), Fv1.keep (i := 6) (by decide) (by decide) hT⟩⟩
            · rintro t act W hun hdep hbeh ⟨p9, rfl, hT⟩
              (try simp only [Nat.reduceAdd] at hun)
              have h5 : t 5 = true := Inv.depB_mem 5 hdep (by rfl)
              have h6 : t 6 = true := Inv.depB_mem 6 hdep (by rfl)
              refine .inl ⟨by rfl, Inv.comesV_val (.pointer (some ⟨G2, j * 2, none⟩)) W (by (simp only [h5, h6, if_true, Bool.false_eq_true, if_false]; go_simp; try rfl)) ⟨p9, by (simp only [Act.put, List.setIfInBounds_toArray, List.set_cons_succ, List.set_cons_zero, Manyd.upd, Nat.reduceAdd, Nat.reduceBEq, Bool.or_false, Bool.or_true, if_true]), Fv1.keep (i := 7) (by decide) (by decide) hT⟩⟩
            · rintro t act W hun hdep hbeh ⟨p9, rfl, hT⟩
              (try simp only [Nat.reduceAdd] at hun)
              have h7 : t 7 = true := Inv.depB_mem 7 hdep (by rfl)
              obtain ⟨c0, c1⟩ := hBj _ (hQ.bw.trans (hT.bw.mono hQ.size))
              refine .inl ⟨by rfl, Inv.comesV_val (.agg #[.int .i64 b0, .int .i64 b1]) W (by (simp only [h7, if_true, Bool.false_eq_true, if_false]; go_simp; try rfl)) ⟨p9, by (simp only [Act.put, List.setIfInBounds_toArray, List.set_cons_succ, List.set_cons_zero, Manyd.upd, Nat.reduceAdd, Nat.reduceBEq, Bool.or_false, Bool.or_true, if_true]), Fv1.keep (i := 8) (by decide) (by decide) hT⟩⟩
            · rintro t act W hun hdep hbeh ⟨p9, rfl, hT⟩
              (try simp only [Nat.reduceAdd] at hun)
              have h4 : t 4 = true := Inv.depB_mem 4 hdep (by rfl)
              have h8 : t 8 = true := Inv.depB_mem 8 hdep (by rfl)
              refine .inl ⟨by rfl, Inv.comesV_call 58 #[.agg #[.int .i64 c, .int .i64 1], .agg #[.int .i64 b0, .int .i64 b1]] W (by (simp only [h4, h8, if_true, Bool.false_eq_true, if_false]; go_simp; try rfl)) ((qb W).mono fun e w5 hw5 => ⟨_, hw5.1, p9, by (simp only [Act.put, List.setIfInBounds_toArray, List.set_cons_succ, List.set_cons_zero, Manyd.upd, Nat.reduceAdd, Nat.reduceBEq, Bool.or_false, Bool.or_true, if_true]), Fv1.keep (i := 9) (by decide) (by decide) (hT.after hw5.2)⟩)⟩
            · rintro t act W hun hdep hbeh ⟨p9, rfl, hT⟩
              (try simp only [Nat.reduceAdd] at hun)
              refine .inl ⟨by rfl, Inv.comesV_val (.pointer (some ⟨W.heap.size, 0, none⟩)) (W.alloc (.cells #[.int .i64 0, .int .i64 0] 37)) (by (go_simp; try rfl)) ⟨W.heap.size, by (simp only [Act.put, List.setIfInBounds_toArray, List.set_cons_succ, List.set_cons_zero, Manyd.upd, Nat.reduceAdd, Nat.reduceBEq, Bool.or_false, Bool.or_true, if_true]), hT.alloc7 (by decide) hun⟩⟩
            · rintro t act W hun hdep hbeh ⟨p9, rfl, hT⟩
              (try simp only [Nat.reduceAdd] at hun)
              have h10 : t 10 = true := Inv.depB_mem 10 hdep (by rfl)
              have h9 : t 9 = true := Inv.depB_mem 9 hdep (by rfl)
              obtain ⟨c0, c1, f0, f1⟩ := hT.own7 h10 hun
              refine .inl ⟨by rfl, Inv.comesV_skip ((W.setCell ⟨p9, 0, none⟩ (.int .i64 u0)).setCell ⟨p9, 1, none⟩ (.int .i64 u1)) (by (simp only [h10, h9, if_true, Bool.false_eq_true, if_false]; go_simp; try rfl)) ⟨p9, by (simp only [Act.put, List.setIfInBounds_toArray, List.set_cons_succ, List.set_cons_zero, Manyd.upd, Nat.reduceAdd, Nat.reduceBEq, Bool.or_false, Bool.or_true, if_true]), hT.set7 (by decide) h10 hun⟩⟩
          rintro t a' wibbc hs ⟨p9, rfl, hT⟩
          simp only [hs 0 (by decide), hs 1 (by decide), hs 2 (by decide), hs 3 (by decide), hs 4 (by decide), hs 5 (by decide), hs 6 (by decide), hs 7 (by decide), hs 8 (by decide), hs 9 (by decide), hs 10 (by decide), hs 11 (by decide), if_true]
          obtain ⟨hg9, b9⟩ := hT.a7 (hs 10 (by decide))
          rw [if_pos (hs 11 (by decide))] at b9
          have o9 := Own2.of b9
          have hQ := hQ.after hT.bw
          have ov : Own2 wibbc r7 (.int .i64 l0) (.int .i64 l1) := Own2.of hQ.r
          clear hT hs b9 hg9
          by_cases h3 : fl < fl'
          · rw [decide_eq_true h3] at q53l
            obtain ⟨c90, c91, f90, f91⟩ := o9
            obtain ⟨c50, c51, f50, f51⟩ := ov
            go_wp2_with (go_at_call 53; (with_reducible refine (q53l _).mono ?_); rintro e wibbd ⟨rfl, hbe⟩
                         have hQ := hQ.after hbe
                         obtain ⟨d90, d91, g90, g91⟩ := (⟨c90, c91, f90, f91⟩ : Own2 wibbc p9 (.int .i64 u0) (.int .i64 u1)).after hbe
                         obtain ⟨d50, d51, g50, g51⟩ := (⟨c50, c51, f50, f51⟩ : Own2 wibbc r7 (.int .i64 l0) (.int .i64 l1)).after hbe
                         clear hbe q53l c90 c91 f90 f91 c50 c51 f50 f51)
            clear d90 d91 g90 g91 d50 d51 g50 g51
            have hQ := hQ.setR hN u0 u1
            generalize (wibbd.setCell ⟨r7, 0, none⟩ (.int .i64 u0)).setCell ⟨r7, 1, none⟩ (.int .i64 u1) = wibbe at hQ ⊢
            refine (wpIn_wide (n := 0)).1 ?_
            refine Inv.region_inv (fun t act W => ∃ p10, act = { tmps := #[Value.slice A0 n0 cap0, Value.int IntKind.i64 F, Value.int IntKind.i64 R, undef, undef, undef, Value.bool false, Value.slice (some ⟨gz, oz, none⟩) n cap, Value.slice (some ⟨G1, 0, none⟩) n n, Value.int IntKind.i64 0, Value.slice (some ⟨G2, 0, none⟩) n n, Value.int IntKind.i64 0, Value.slice (some ⟨G3, 0, none⟩) n n, Value.int IntKind.i64 0, Value.pointer (some ⟨p7, 0, none⟩), Value.pointer (some ⟨p8, 0, none⟩), Value.pointer (some ⟨r7, 0, none⟩), Value.pointer (some ⟨r8, 0, none⟩), Value.int IntKind.i64 (j : Nat), .pointer (some ⟨p9, 0, none⟩), if t 10 = true then .pointer (some ⟨p10, 0, none⟩) else u20, Value.tuple #[Value.slice (some ⟨gz, oz, none⟩) n cap, Value.int IntKind.i64 F], Value.slice A0 n0 cap0, Value.int IntKind.i64 E, Value.tuple #[Value.slice (some ⟨gz, oz, none⟩) n cap, Value.int IntKind.i64 F], Value.slice (some ⟨gz, oz, none⟩) n cap, Value.int IntKind.i64 F, Value.tuple #[Value.slice (some ⟨G1, 0, none⟩) n n, Value.int IntKind.i64 0], Value.slice (some ⟨gz, oz, none⟩) n cap, Value.int IntKind.i64 F, Value.tuple #[Value.slice (some ⟨G1, 0, none⟩) n n, Value.int IntKind.i64 0], Value.slice (some ⟨G1, 0, none⟩) n n, Value.int IntKind.i64 0, Value.tuple #[Value.slice (some ⟨G2, 0, none⟩) n n, Value.int IntKind.i64 0], Value.slice (some ⟨gz, oz, none⟩) n cap, Value.int IntKind.i64 F, Value.tuple #[Value.slice (some ⟨G2, 0, none⟩) n n, Value.int IntKind.i64 0], Value.slice (some ⟨G2, 0, none⟩) n n, Value.int IntKind.i64 0, Value.tuple #[Value.slice (some ⟨G3, 0, none⟩) n n, Value.int IntKind.i64 0], Value.int IntKind.i64 R, Value.int IntKind.i64 (r : Nat), Value.slice (some ⟨gz, oz, none⟩) n cap, Value.int IntKind.i64 F, Value.tuple #[Value.slice (some ⟨G3, 0, none⟩) n n, Value.int IntKind.i64 0], Value.slice (some ⟨G3, 0, none⟩) n n, Value.int IntKind.i64 0, Value.int IntKind.i64 0, Value.bool false, Value.bool false, Value.int IntKind.i64 0, Value.bool false, Value.bool false, Value.bool false, Value.int IntKind.i64 0, Value.bool false, Value.bool false, Value.bool false, Value.slice (some ⟨G1, 0, none⟩) n n, Value.int IntKind.i64 (n : Nat), Value.slice (some ⟨gz, oz, none⟩) n cap, Value.int IntKind.i64 (n : Nat), Value.bool false, Value.bool false, Value.bool false, Value.slice (some ⟨G2, 0, none⟩) n n, Value.int IntKind.i64 (n : Nat), Value.slice (some ⟨gz, oz, none⟩) n cap, Value.int IntKind.i64 (n : Nat), Value.bool false, Value.bool false, Value.bool false, Value.slice (some ⟨G3, 0, none⟩) n n, Value.int IntKind.i64 (n : Nat), Value.slice (some ⟨gz, oz, none⟩) n cap, Value.int IntKind.i64 (n : Nat), Value.bool false, Value.bool false, Value.bool false, Value.slice (some ⟨G1, 0, none⟩) n n, Value.bool true, Value.bool false, Value.bool false, Value.bool false, Value.slice (some ⟨G2, 0, none⟩) n n, Value.bool true, Value.bool false, Value.bool false, Value.bool false, Value.slice (some ⟨G3, 0, none⟩) n n, Value.bool true, Value.bool false, Value.bool false, Value.slice (some ⟨G1, 0, none⟩) n n, Value.pointer (some ⟨G1, 0, none⟩), Value.agg #[Value.int IntKind.i64 a0, Value.int IntKind.i64 a1], Value.slice (some ⟨G3, 0, none⟩) n n, Value.pointer (some ⟨G3, 0, none⟩), Value.agg #[Value.int IntKind.i64 cc0, Value.int IntKind.i64 cc1], Value.slice (some ⟨gz, oz, none⟩) n cap, Value.pointer (some ⟨gz, oz, none⟩), Value.int IntKind.i64 z0, Value.agg #[Value.int IntKind.i64 z0, Value.int IntKind.i64 1], Value.slice (some ⟨G2, 0, none⟩) n n, Value.pointer (some ⟨G2, 0, none⟩), Value.agg #[Value.int IntKind.i64 ib0, Value.int IntKind.i64 ib1], Value.agg #[Value.int IntKind.i64 il0, Value.int IntKind.i64 il1], Value.slice (some ⟨gz, oz, none⟩) n cap, Value.pointer (some ⟨gz, oz, none⟩), Value.int IntKind.i64 z0, Value.agg #[Value.int IntKind.i64 z0, Value.int IntKind.i64 1], Value.slice (some ⟨G3, 0, none⟩) n n, Value.pointer (some ⟨G3, 0, none⟩), Value.agg #[Value.int IntKind.i64 cc0, Value.int IntKind.i64 cc1], Value.agg #[Value.int IntKind.i64 im0, Value.int IntKind.i64 im1], Value.int IntKind.i64 (j : Nat), Value.slice (some ⟨gz, oz, none⟩) n cap, Value.int IntKind.i64 (n : Nat), Value.bool true, u119, u120, .slice (some ⟨G1, 0, none⟩) n n, .int .i64 (j : Nat), .pointer (some ⟨G1, j * 2, none⟩), .agg #[.int .i64 x0, .int .i64 x1], .agg #[.int .i64 s0, .int .i64 s1], .bool false, u127, u128, u129, u130, .slice (some ⟨G3, 0, none⟩) n n, .int .i64 (j : Nat), .pointer (some ⟨G3, j * 2, none⟩), .agg #[.int .i64 y0, .int .i64 y1], .agg #[.int .i64 o0, .int .i64 o1], .bool true, .slice (some ⟨G3, 0, none⟩) n n, .int .i64 (j : Nat), .pointer (some ⟨G3, j * 2, none⟩), .agg #[.int .i64 y0, .int .i64 y1], .slice (some ⟨gz, oz, none⟩) n cap, .int .i64 (j : Nat), .pointer (some ⟨gz, oz + j, none⟩), .int .i64 c, .agg #[.int .i64 c, .int .i64 1], .slice (some ⟨G2, 0, none⟩) n n, .int .i64 (j : Nat), .pointer (some ⟨G2, j * 2, none⟩), .agg #[.int .i64 b0, .int .i64 b1], .agg #[.int .i64 u0, .int .i64 u1], .agg #[.int .i64 l0, .int .i64 l1], .agg #[.int .i64 u0, .int .i64 u1], .bool true, .agg #[.int .i64 u0, .int .i64 u1], if t 0 = true then .slice (some ⟨gz, oz, none⟩) n cap else u155, if t 1 = true then .int .i64 (j : Nat) else u156, if t 2 = true then .pointer (some ⟨gz, oz + j, none⟩) else u157, if t 3 = true then .int .i64 c else u158, if t 4 = true then .agg #[.int .i64 c, .int .i64 1] else u159, if t 5 = true then .slice (some ⟨G3, 0, none⟩) n n else u160, if t 6 = true then .int .i64 (j : Nat) else u161, if t 7 = true then .pointer (some ⟨G3, j * 2, none⟩) else u162, if t 8 = true then .agg #[.int .i64 y0, .int .i64 y1] else u163, if t 9 = true then .agg #[.int .i64 v0, .int .i64 v1] else u164, u165, u166, u167, u168, undef, undef, undef, undef, undef, undef, undef, undef, undef, undef, undef, undef, undef], defers := [] } ∧ Fv1 wibbe 10 11 v0 v1 t p10 W) mixed_ok (by kernel_rfl) ?_ ?_ ?_
            · intro t hs
              refine ⟨0, ?_, Fv1.start (hs 10 (by decide)) (hs 11 (by decide))⟩
              simp only [hs 0 (by decide), hs 1 (by decide), hs 2 (by decide), hs 3 (by decide), hs 4 (by decide), hs 5 (by decide), hs 6 (by decide), hs 7 (by decide), hs 8 (by decide), hs 9 (by decide), hs 10 (by decide), hs 11 (by decide), Bool.false_eq_true, if_false]
            · refine ⟨?_, ?_, ?_, ?_, ?_, ?_, ?_, ?_, ?_, ?_, ?_, ?_, trivial⟩
              · rintro t act W hun hdep hbeh ⟨p10, rfl, hT⟩
                (try simp only [Nat.reduceAdd] at hun)
                refine .inl ⟨by rfl, Inv.comesV_val (.slice (some ⟨gz, oz, none⟩) n cap) W (by (go_simp; try rfl)) ⟨p10, by (simp only [Act.put, List.setIfInBounds_toArray, List.set_cons_succ, List.set_cons_zero, Manyd.upd, Nat.reduceAdd, Nat.reduceBEq, Bool.or_false, Bool.or_true, if_true]), Fv1.keep (i := 0) (by decide) (by decide) hT⟩⟩
              · rintro t act W hun hdep hbeh ⟨p10, rfl, hT⟩
                (try simp only [Nat.reduceAdd] at hun)
                refine .inl ⟨by rfl, Inv.comesV_val (.int .i64 (j : Nat)) W (by (go_simp; try rfl)) ⟨p10, by (simp only [Act.put, List.setIfInBounds_toArray, List.set_cons_succ, List.set_cons_zero, Manyd.upd, Nat.reduceAdd, Nat.reduceBEq, Bool.or_false, Bool.or_true, if_true]), Fv1.keep (i := 1) (by decide) (by decide) hT⟩⟩
              · rintro t act W hun hdep hbeh ⟨p10, rfl, hT⟩
                (try simp only [Nat.reduceAdd] at hun)
                have h0 : t 0 = true := Inv.depB_mem 0 hdep (by rfl)
                have h1 : t 1 = true := Inv.depB_mem 1 hdep (by rfl)
                refine .inl ⟨by rfl, Inv.comesV_val (.pointer (some ⟨gz, oz + j, none⟩)) W (by (simp only [h0, h1, if_true, Bool.false_eq_true, if_false]; go_simp; try rfl)) ⟨p10, by (simp only [Act.put, List.setIfInBounds_toArray, List.set_cons_succ, List.set_cons_zero, Manyd.upd, Nat.reduceAdd, Nat.reduceBEq, Bool.or_false, Bool.or_true, if_true]), Fv1.keep (i := 2) (by decide) (by decide) hT⟩⟩
              · rintro t act W hun hdep hbeh ⟨p10, rfl, hT⟩
                (try simp only [Nat.reduceAdd] at hun)
                have h2 : t 2 = true := Inv.depB_mem 2 hdep (by rfl)
                have c0 := hzj _ (hQ.bw.trans (hT.bw.mono hQ.size))
                refine .inl ⟨by rfl, Inv.comesV_val (.int .i64 c) W (by (simp only [h2, if_true, Bool.false_eq_true, if_false]; go_simp; try rfl)) ⟨p10, by (simp only [Act.put, List.setIfInBounds_toArray, List.set_cons_succ, List.set_cons_zero, Manyd.upd, Nat.reduceAdd, Nat.reduceBEq, Bool.or_false, Bool.or_true, if_true]), Fv1.keep (i := 3) (by decide) (by decide) hT⟩⟩
              · rintro t act W hun hdep hbeh ⟨p10, rfl, hT⟩
                (try simp only [Nat.reduceAdd] at hun)
                have h3 : t 3 = true := Inv.depB_mem 3 hdep (by rfl)
                refine .inl ⟨by rfl, Inv.comesV_call 29 #[.int .i64 c] W (by (simp only [h3, if_true, Bool.false_eq_true, if_false]; go_simp; try rfl)) ((q29 W).mono fun e w5 hw5 => ⟨_, hw5.1, p10, by (simp only [Act.put, List.setIfInBounds_toArray, List.set_cons_succ, List.set_cons_zero, Manyd.upd, Nat.reduceAdd, Nat.reduceBEq, Bool.or_false, Bool.or_true, if_true]), Fv1.keep (i := 4) (by decide) (by decide) (hT.after hw5.2)⟩)⟩
              · rintro t act W hun hdep hbeh ⟨p10, rfl, hT⟩
                (try simp only [Nat.reduceAdd] at hun)
                refine .inl ⟨by rfl, Inv.comesV_val (.slice (some ⟨G3, 0, none⟩) n n) W (by (go_simp; try rfl)) ⟨p10, by (simp only [Act.put, List.setIfInBounds_toArray, List.set_cons_succ, List.set_cons_zero, Manyd.upd, Nat.reduceAdd, Nat.reduceBEq, Bool.or_false, Bool.or_true, if_true]), Fv1.keep (i := 5) (by decide) (by decide) hT⟩⟩
              · rintro t act W hun hdep hbeh ⟨p10, rfl, hT⟩
                (try simp only [Nat.reduceAdd] at hun)
                refine .inl ⟨by rfl, Inv.comesV_val (.int .i64 (j : Nat)) W (by (go_simp; try rfl)) ⟨p10, by (simp only [Act.put, List.setIfInBounds_toArray, List.set_cons_succ, List.set_cons_zero, Manyd.upd, Nat.reduceAdd, Nat.reduceBEq, Bool.or_false, Bool.or_true, if_true]), Fv1.keep (i := 6) (by decide) (by decide) hT⟩⟩
              · rintro t act W hun hdep hbeh ⟨p10, rfl, hT⟩
                (try simp only [Nat.reduceAdd] at hun)
                have h5 : t 5 = true := Inv.depB_mem 5 hdep (by rfl)
                have h6 : t 6 = true := Inv.depB_mem 6 hdep (by rfl)
                refine .inl ⟨by rfl, Inv.comesV_val (.pointer (some ⟨G3, j * 2, none⟩)) W (by (simp only [h5, h6, if_true, Bool.false_eq_true, if_false]; go_simp; try rfl)) ⟨p10, by (simp only [Act.put, List.setIfInBounds_toArray, List.set_cons_succ, List.set_cons_zero, Manyd.upd, Nat.reduceAdd, Nat.reduceBEq, Bool.or_false, Bool.or_true, if_true]), Fv1.keep (i := 7) (by decide) (by decide) hT⟩⟩
              · rintro t act W hun hdep hbeh ⟨p10, rfl, hT⟩
                (try simp only [Nat.reduceAdd] at hun)
                have h7 : t 7 = true := Inv.depB_mem 7 hdep (by rfl)
                obtain ⟨c0, c1⟩ := hCj _ (hQ.bw.trans (hT.bw.mono hQ.size))
                refine .inl ⟨by rfl, Inv.comesV_val (.agg #[.int .i64 y0, .int .i64 y1]) W (by (simp only [h7, if_true, Bool.false_eq_true, if_false]; go_simp; try rfl)) ⟨p10, by (simp only [Act.put, List.setIfInBounds_toArray, List.set_cons_succ, List.set_cons_zero, Manyd.upd, Nat.reduceAdd, Nat.reduceBEq, Bool.or_false, Bool.or_true, if_true]), Fv1.keep (i := 8) (by decide) (by decide) hT⟩⟩
              · rintro t act W hun hdep hbeh ⟨p10, rfl, hT⟩
                (try simp only [Nat.reduceAdd] at hun)
                have h4 : t 4 = true := Inv.depB_mem 4 hdep (by rfl)
                have h8 : t 8 = true := Inv.depB_mem 8 hdep (by rfl)
                refine .inl ⟨by rfl, Inv.comesV_call 58 #[.agg #[.int .i64 c, .int .i64 1], .agg #[.int .i64 y0, .int .i64 y1]] W (by (simp only [h4, h8, if_true, Bool.false_eq_true, if_false]; go_simp; try rfl)) ((qc W).mono fun e w5 hw5 => ⟨_, hw5.1, p10, by (simp only [Act.put, List.setIfInBounds_toArray, List.set_cons_succ, List.set_cons_zero, Manyd.upd, Nat.reduceAdd, Nat.reduceBEq, Bool.or_false, Bool.or_true, if_true]), Fv1.keep (i := 9) (by decide) (by decide) (hT.after hw5.2)⟩)⟩
              · rintro t act W hun hdep hbeh ⟨p10, rfl, hT⟩
                (try simp only [Nat.reduceAdd] at hun)
                refine .inl ⟨by rfl, Inv.comesV_val (.pointer (some ⟨W.heap.size, 0, none⟩)) (W.alloc (.cells #[.int .i64 0, .int .i64 0] 37)) (by (go_simp; try rfl)) ⟨W.heap.size, by (simp only [Act.put, List.setIfInBounds_toArray, List.set_cons_succ, List.set_cons_zero, Manyd.upd, Nat.reduceAdd, Nat.reduceBEq, Bool.or_false, Bool.or_true, if_true]), hT.alloc7 (by decide) hun⟩⟩
              · rintro t act W hun hdep hbeh ⟨p10, rfl, hT⟩
                (try simp only [Nat.reduceAdd] at hun)
                have h10 : t 10 = true := Inv.depB_mem 10 hdep (by rfl)
                have h9 : t 9 = true := Inv.depB_mem 9 hdep (by rfl)
                obtain ⟨c0, c1, f0, f1⟩ := hT.own7 h10 hun
                refine .inl ⟨by rfl, Inv.comesV_skip ((W.setCell ⟨p10, 0, none⟩ (.int .i64 v0)).setCell ⟨p10, 1, none⟩ (.int .i64 v1)) (by (simp only [h10, h9, if_true, Bool.false_eq_true, if_false]; go_simp; try rfl)) ⟨p10, by (simp only [Act.put, List.setIfInBounds_toArray, List.set_cons_succ, List.set_cons_zero, Manyd.upd, Nat.reduceAdd, Nat.reduceBEq, Bool.or_false, Bool.or_true, if_true]), hT.set7 (by decide) h10 hun⟩⟩
            rintro t a' wibbec hs ⟨p10, rfl, hT⟩
            simp only [hs 0 (by decide), hs 1 (by decide), hs 2 (by decide), hs 3 (by decide), hs 4 (by decide), hs 5 (by decide), hs 6 (by decide), hs 7 (by decide), hs 8 (by decide), hs 9 (by decide), hs 10 (by decide), hs 11 (by decide), if_true]
            obtain ⟨hg9, b9⟩ := hT.a7 (hs 10 (by decide))
            rw [if_pos (hs 11 (by decide))] at b9
            have o9 := Own2.of b9
            have hQ := hQ.after hT.bw
            have ov : Own2 wibbec r8 (.int .i64 m0) (.int .i64 m1) := Own2.of hQ.s
            clear hT hs b9 hg9
            by_cases h4 : fm < fm'
            · rw [decide_eq_true h4] at q53m
              obtain ⟨c90, c91, f90, f91⟩ := o9
              obtain ⟨c50, c51, f50, f51⟩ := ov
              go_wp2_with (go_at_call 53; (with_reducible refine (q53m _).mono ?_); rintro e wibbed ⟨rfl, hbe⟩
                           have hQ := hQ.after hbe
                           obtain ⟨d90, d91, g90, g91⟩ := (⟨c90, c91, f90, f91⟩ : Own2 wibbec p10 (.int .i64 v0) (.int .i64 v1)).after hbe
                           obtain ⟨d50, d51, g50, g51⟩ := (⟨c50, c51, f50, f51⟩ : Own2 wibbec r8 (.int .i64 m0) (.int .i64 m1)).after hbe
                           clear hbe q53m c90 c91 f90 f91 c50 c51 f50 f51)
              clear d90 d91 g90 g91 d50 d51 g50 g51
              have hQ := hQ.setS hN v0 v1
              generalize (wibbed.setCell ⟨r8, 0, none⟩ (.int .i64 v0)).setCell ⟨r8, 1, none⟩ (.int .i64 v1) = wibbee at hQ ⊢
              exact ⟨fin _ _ _ _ _ hQ ⟨.inl ⟨rfl, by omega⟩⟩ ⟨.inr ⟨rfl, by omega⟩⟩ ⟨.inr ⟨rfl, by omega⟩⟩ ⟨.inr ⟨rfl, by omega⟩⟩, by simp [intOf]; omega⟩
            · rw [decide_eq_false h4] at q53m
              obtain ⟨c90, c91, f90, f91⟩ := o9
              obtain ⟨c50, c51, f50, f51⟩ := ov
              go_wp2_with (go_at_call 53; (with_reducible refine (q53m _).mono ?_); rintro e wibbed ⟨rfl, hbe⟩
                           have hQ := hQ.after hbe
                           obtain ⟨d90, d91, g90, g91⟩ := (⟨c90, c91, f90, f91⟩ : Own2 wibbec p10 (.int .i64 v0) (.int .i64 v1)).after hbe
                           obtain ⟨d50, d51, g50, g51⟩ := (⟨c50, c51, f50, f51⟩ : Own2 wibbec r8 (.int .i64 m0) (.int .i64 m1)).after hbe
                           clear hbe q53m c90 c91 f90 f91 c50 c51 f50 f51)
              clear d90 d91 g90 g91 d50 d51 g50 g51
              obtain ⟨wibbee, rfl⟩ : ∃ x, x = wibbed := ⟨_, rfl⟩
              exact ⟨fin _ _ _ _ _ hQ ⟨.inl ⟨rfl, by omega⟩⟩ ⟨.inr ⟨rfl, by omega⟩⟩ ⟨.inr ⟨rfl, by omega⟩⟩ ⟨.inl ⟨rfl, by omega⟩⟩, by simp [intOf]; omega⟩
          · rw [decide_eq_false h3] at q53l
            obtain ⟨c90, c91, f90, f91⟩ := o9
            obtain ⟨c50, c51, f50, f51⟩ := ov
            go_wp2_with (go_at_call 53; (with_reducible refine (q53l _).mono ?_); rintro e wibbd ⟨rfl, hbe⟩
                         have hQ := hQ.after hbe
                         obtain ⟨d90, d91, g90, g91⟩ := (⟨c90, c91, f90, f91⟩ : Own2 wibbc p9 (.int .i64 u0) (.int .i64 u1)).after hbe
                         obtain ⟨d50, d51, g50, g51⟩ := (⟨c50, c51, f50, f51⟩ : Own2 wibbc r7 (.int .i64 l0) (.int .i64 l1)).after hbe
                         clear hbe q53l c90 c91 f90 f91 c50 c51 f50 f51)
            clear d90 d91 g90 g91 d50 d51 g50 g51
            obtain ⟨wibbe, rfl⟩ : ∃ x, x = wibbd := ⟨_, rfl⟩
            refine (wpIn_wide (n := 0)).1 ?_
            refine Inv.region_inv (fun t act W => ∃ p10, act = { tmps := #[Value.slice A0 n0 cap0, Value.int IntKind.i64 F, Value.int IntKind.i64 R, undef, undef, undef, Value.bool false, Value.slice (some ⟨gz, oz, none⟩) n cap, Value.slice (some ⟨G1, 0, none⟩) n n, Value.int IntKind.i64 0, Value.slice (some ⟨G2, 0, none⟩) n n, Value.int IntKind.i64 0, Value.slice (some ⟨G3, 0, none⟩) n n, Value.int IntKind.i64 0, Value.pointer (some ⟨p7, 0, none⟩), Value.pointer (some ⟨p8, 0, none⟩), Value.pointer (some ⟨r7, 0, none⟩), Value.pointer (some ⟨r8, 0, none⟩), Value.int IntKind.i64 (j : Nat), .pointer (some ⟨p9, 0, none⟩), if t 10 = true then .pointer (some ⟨p10, 0, none⟩) else u20, Value.tuple #[Value.slice (some ⟨gz, oz, none⟩) n cap, Value.int IntKind.i64 F], Value.slice A0 n0 cap0, Value.int IntKind.i64 E, Value.tuple #[Value.slice (some ⟨gz, oz, none⟩) n cap, Value.int IntKind.i64 F], Value.slice (some ⟨gz, oz, none⟩) n cap, Value.int IntKind.i64 F, Value.tuple #[Value.slice (some ⟨G1, 0, none⟩) n n, Value.int IntKind.i64 0], Value.slice (some ⟨gz, oz, none⟩) n cap, Value.int IntKind.i64 F, Value.tuple #[Value.slice (some ⟨G1, 0, none⟩) n n, Value.int IntKind.i64 0], Value.slice (some ⟨G1, 0, none⟩) n n, Value.int IntKind.i64 0, Value.tuple #[Value.slice (some ⟨G2, 0, none⟩) n n, Value.int IntKind.i64 0], Value.slice (some ⟨gz, oz, none⟩) n cap, Value.int IntKind.i64 F, Value.tuple #[Value.slice (some ⟨G2, 0, none⟩) n n, Value.int IntKind.i64 0], Value.slice (some ⟨G2, 0, none⟩) n n, Value.int IntKind.i64 0, Value.tuple #[Value.slice (some ⟨G3, 0, none⟩) n n, Value.int IntKind.i64 0], Value.int IntKind.i64 R, Value.int IntKind.i64 (r : Nat), Value.slice (some ⟨gz, oz, none⟩) n cap, Value.int IntKind.i64 F, Value.tuple #[Value.slice (some ⟨G3, 0, none⟩) n n, Value.int IntKind.i64 0], Value.slice (some ⟨G3, 0, none⟩) n n, Value.int IntKind.i64 0, Value.int IntKind.i64 0, Value.bool false, Value.bool false, Value.int IntKind.i64 0, Value.bool false, Value.bool false, Value.bool false, Value.int IntKind.i64 0, Value.bool false, Value.bool false, Value.bool false, Value.slice (some ⟨G1, 0, none⟩) n n, Value.int IntKind.i64 (n : Nat), Value.slice (some ⟨gz, oz, none⟩) n cap, Value.int IntKind.i64 (n : Nat), Value.bool false, Value.bool false, Value.bool false, Value.slice (some ⟨G2, 0, none⟩) n n, Value.int IntKind.i64 (n : Nat), Value.slice (some ⟨gz, oz, none⟩) n cap, Value.int IntKind.i64 (n : Nat), Value.bool false, Value.bool false, Value.bool false, Value.slice (some ⟨G3, 0, none⟩) n n, Value.int IntKind.i64 (n : Nat), Value.slice (some ⟨gz, oz, none⟩) n cap, Value.int IntKind.i64 (n : Nat), Value.bool false, Value.bool false, Value.bool false, Value.slice (some ⟨G1, 0, none⟩) n n, Value.bool true, Value.bool false, Value.bool false, Value.bool false, Value.slice (some ⟨G2, 0, none⟩) n n, Value.bool true, Value.bool false, Value.bool false, Value.bool false, Value.slice (some ⟨G3, 0, none⟩) n n, Value.bool true, Value.bool false, Value.bool false, Value.slice (some ⟨G1, 0, none⟩) n n, Value.pointer (some ⟨G1, 0, none⟩), Value.agg #[Value.int IntKind.i64 a0, Value.int IntKind.i64 a1], Value.slice (some ⟨G3, 0, none⟩) n n, Value.pointer (some ⟨G3, 0, none⟩), Value.agg #[Value.int IntKind.i64 cc0, Value.int IntKind.i64 cc1], Value.slice (some ⟨gz, oz, none⟩) n cap, Value.pointer (some ⟨gz, oz, none⟩), Value.int IntKind.i64 z0, Value.agg #[Value.int IntKind.i64 z0, Value.int IntKind.i64 1], Value.slice (some ⟨G2, 0, none⟩) n n, Value.pointer (some ⟨G2, 0, none⟩), Value.agg #[Value.int IntKind.i64 ib0, Value.int IntKind.i64 ib1], Value.agg #[Value.int IntKind.i64 il0, Value.int IntKind.i64 il1], Value.slice (some ⟨gz, oz, none⟩) n cap, Value.pointer (some ⟨gz, oz, none⟩), Value.int IntKind.i64 z0, Value.agg #[Value.int IntKind.i64 z0, Value.int IntKind.i64 1], Value.slice (some ⟨G3, 0, none⟩) n n, Value.pointer (some ⟨G3, 0, none⟩), Value.agg #[Value.int IntKind.i64 cc0, Value.int IntKind.i64 cc1], Value.agg #[Value.int IntKind.i64 im0, Value.int IntKind.i64 im1], Value.int IntKind.i64 (j : Nat), Value.slice (some ⟨gz, oz, none⟩) n cap, Value.int IntKind.i64 (n : Nat), Value.bool true, u119, u120, .slice (some ⟨G1, 0, none⟩) n n, .int .i64 (j : Nat), .pointer (some ⟨G1, j * 2, none⟩), .agg #[.int .i64 x0, .int .i64 x1], .agg #[.int .i64 s0, .int .i64 s1], .bool false, u127, u128, u129, u130, .slice (some ⟨G3, 0, none⟩) n n, .int .i64 (j : Nat), .pointer (some ⟨G3, j * 2, none⟩), .agg #[.int .i64 y0, .int .i64 y1], .agg #[.int .i64 o0, .int .i64 o1], .bool true, .slice (some ⟨G3, 0, none⟩) n n, .int .i64 (j : Nat), .pointer (some ⟨G3, j * 2, none⟩), .agg #[.int .i64 y0, .int .i64 y1], .slice (some ⟨gz, oz, none⟩) n cap, .int .i64 (j : Nat), .pointer (some ⟨gz, oz + j, none⟩), .int .i64 c, .agg #[.int .i64 c, .int .i64 1], .slice (some ⟨G2, 0, none⟩) n n, .int .i64 (j : Nat), .pointer (some ⟨G2, j * 2, none⟩), .agg #[.int .i64 b0, .int .i64 b1], .agg #[.int .i64 u0, .int .i64 u1], .agg #[.int .i64 l0, .int .i64 l1], .agg #[.int .i64 u0, .int .i64 u1], .bool false, u154, if t 0 = true then .slice (some ⟨gz, oz, none⟩) n cap else u155, if t 1 = true then .int .i64 (j : Nat) else u156, if t 2 = true then .pointer (some ⟨gz, oz + j, none⟩) else u157, if t 3 = true then .int .i64 c else u158, if t 4 = true then .agg #[.int .i64 c, .int .i64 1] else u159, if t 5 = true then .slice (some ⟨G3, 0, none⟩) n n else u160, if t 6 = true then .int .i64 (j : Nat) else u161, if t 7 = true then .pointer (some ⟨G3, j * 2, none⟩) else u162, if t 8 = true then .agg #[.int .i64 y0, .int .i64 y1] else u163, if t 9 = true then .agg #[.int .i64 v0, .int .i64 v1] else u164, u165, u166, u167, u168, undef, undef, undef, undef, undef, undef, undef, undef, undef, undef, undef, undef, undef], defers := [] } ∧ Fv1 wibbe 10 11 v0 v1 t p10 W) mixed_ok (by kernel_rfl) ?_ ?_ ?_
            · intro t hs
              refine ⟨0, ?_, Fv1.start (hs 10 (by decide)) (hs 11 (by decide))⟩
              simp only [hs 0 (by decide), hs 1 (by decide), hs 2 (by decide), hs 3 (by decide), hs 4 (by decide), hs 5 (by decide), hs 6 (by decide), hs 7 (by decide), hs 8 (by decide), hs 9 (by decide), hs 10 (by decide), hs 11 (by decide), Bool.false_eq_true, if_false]
            · refine ⟨?_, ?_, ?_, ?_, ?_, ?_, ?_, ?_, ?_, ?_, ?_, ?_, trivial⟩
              · rintro t act W hun hdep hbeh ⟨p10, rfl, hT⟩
                (try simp only [Nat.reduceAdd] at hun)
                refine .inl ⟨by rfl, Inv.comesV_val (.slice (some ⟨gz, oz, none⟩) n cap) W (by (go_simp; try rfl)) ⟨p10, by (simp only [Act.put, List.setIfInBounds_toArray, List.set_cons_succ, List.set_cons_zero, Manyd.upd, Nat.reduceAdd, Nat.reduceBEq, Bool.or_false, Bool.or_true, if_true]), Fv1.keep (i := 0) (by decide) (by decide) hT⟩⟩
              · rintro t act W hun hdep hbeh ⟨p10, rfl, hT⟩
                (try simp only [Nat.reduceAdd] at hun)
                refine .inl ⟨by rfl, Inv.comesV_val (.int .i64 (j : Nat)) W (by (go_simp; try rfl)) ⟨p10, by (simp only [Act.put, List.setIfInBounds_toArray, List.set_cons_succ, List.set_cons_zero, Manyd.upd, Nat.reduceAdd, Nat.reduceBEq, Bool.or_false, Bool.or_true, if_true]), Fv1.keep (i := 1) (by decide) (by decide) hT⟩⟩
              · rintro t act W hun hdep hbeh ⟨p10, rfl, hT⟩
                (try simp only [Nat.reduceAdd] at hun)
                have h0 : t 0 = true := Inv.depB_mem 0 hdep (by rfl)
                have h1 : t 1 = true := Inv.depB_mem 1 hdep (by rfl)
                refine .inl ⟨by rfl, Inv.comesV_val (.pointer (some ⟨gz, oz + j, none⟩)) W (by (simp only [h0, h1, if_true, Bool.false_eq_true, if_false]; go_simp; try rfl)) ⟨p10, by (simp only [Act.put, List.setIfInBounds_toArray, List.set_cons_succ, List.set_cons_zero, Manyd.upd, Nat.reduceAdd, Nat.reduceBEq, Bool.or_false, Bool.or_true, if_true]), Fv1.keep (i := 2) (by decide) (by decide) hT⟩⟩
              · rintro t act W hun hdep hbeh ⟨p10, rfl, hT⟩
                (try simp only [Nat.reduceAdd] at hun)
                have h2 : t 2 = true := Inv.depB_mem 2 hdep (by rfl)
                have c0 := hzj _ (hQ.bw.trans (hT.bw.mono hQ.size))
                refine .inl ⟨by rfl, Inv.comesV_val (.int .i64 c) W (by (simp only [h2, if_true, Bool.false_eq_true, if_false]; go_simp; try rfl)) ⟨p10, by (simp only [Act.put, List.setIfInBounds_toArray, List.set_cons_succ, List.set_cons_zero, Manyd.upd, Nat.reduceAdd, Nat.reduceBEq, Bool.or_false, Bool.or_true, if_true]), Fv1.keep (i := 3) (by decide) (by decide) hT⟩⟩
              · rintro t act W hun hdep hbeh ⟨p10, rfl, hT⟩
                (try simp only [Nat.reduceAdd] at hun)
                have h3 : t 3 = true := Inv.depB_mem 3 hdep (by rfl)
                refine .inl ⟨by rfl, Inv.comesV_call 29 #[.int .i64 c] W (by (simp only [h3, if_true, Bool.false_eq_true, if_false]; go_simp; try rfl)) ((q29 W).mono fun e w5 hw5 => ⟨_, hw5.1, p10, by (simp only [Act.put, List.setIfInBounds_toArray, List.set_cons_succ, List.set_cons_zero, Manyd.upd, Nat.reduceAdd, Nat.reduceBEq, Bool.or_false, Bool.or_true, if_true]), Fv1.keep (i := 4) (by decide) (by decide) (hT.after hw5.2)⟩)⟩
              · rintro t act W hun hdep hbeh ⟨p10, rfl, hT⟩
                (try simp only [Nat.reduceAdd] at hun)
                refine .inl ⟨by rfl, Inv.comesV_val (.slice (some ⟨G3, 0, none⟩) n n) W (by (go_simp; try rfl)) ⟨p10, by (simp only [Act.put, List.setIfInBounds_toArray, List.set_cons_succ, List.set_cons_zero, Manyd.upd, Nat.reduceAdd, Nat.reduceBEq, Bool.or_false, Bool.or_true, if_true]), Fv1.keep (i := 5) (by decide) (by decide) hT⟩⟩
              · rintro t act W hun hdep hbeh ⟨p10, rfl, hT⟩
                (try simp only [Nat.reduceAdd] at hun)
                refine .inl ⟨by rfl, Inv.comesV_val (.int .i64 (j : Nat)) W (by (go_simp; try rfl)) ⟨p10, by (simp only [Act.put, List.setIfInBounds_toArray, List.set_cons_succ, List.set_cons_zero, Manyd.upd, Nat.reduceAdd, Nat.reduceBEq, Bool.or_false, Bool.or_true, if_true]), Fv1.keep (i := 6) (by decide) (by decide) hT⟩⟩
              · rintro t act W hun hdep hbeh ⟨p10, rfl, hT⟩
                (try simp only [Nat.reduceAdd] at hun)
                have h5 : t 5 = true := Inv.depB_mem 5 hdep (by rfl)
                have h6 : t 6 = true := Inv.depB_mem 6 hdep (by rfl)
                refine .inl ⟨by rfl, Inv.comesV_val (.pointer (some ⟨G3, j * 2, none⟩)) W (by (simp only [h5, h6, if_true, Bool.false_eq_true, if_false]; go_simp; try rfl)) ⟨p10, by (simp only [Act.put, List.setIfInBounds_toArray, List.set_cons_succ, List.set_cons_zero, Manyd.upd, Nat.reduceAdd, Nat.reduceBEq, Bool.or_false, Bool.or_true, if_true]), Fv1.keep (i := 7) (by decide) (by decide) hT⟩⟩
              · rintro t act W hun hdep hbeh ⟨p10, rfl, hT⟩
                (try simp only [Nat.reduceAdd] at hun)
                have h7 : t 7 = true := Inv.depB_mem 7 hdep (by rfl)
                obtain ⟨c0, c1⟩ := hCj _ (hQ.bw.trans (hT.bw.mono hQ.size))
                refine .inl ⟨by rfl, Inv.comesV_val (.agg #[.int .i64 y0, .int .i64 y1]) W (by (simp only [h7, if_true, Bool.false_eq_true, if_false]; go_simp; try rfl)) ⟨p10, by (simp only [Act.put, List.setIfInBounds_toArray, List.set_cons_succ, List.set_cons_zero, Manyd.upd, Nat.reduceAdd, Nat.reduceBEq, Bool.or_false, Bool.or_true, if_true]), Fv1.keep (i := 8) (by decide) (by decide) hT⟩⟩
              · rintro t act W hun hdep hbeh ⟨p10, rfl, hT⟩
                (try simp only [Nat.reduceAdd] at hun)
                have h4 : t 4 = true := Inv.depB_mem 4 hdep (by rfl)
                have h8 : t 8 = true := Inv.depB_mem 8 hdep (by rfl)
                refine .inl ⟨by rfl, Inv.comesV_call 58 #[.agg #[.int .i64 c, .int .i64 1], .agg #[.int .i64 y0, .int .i64 y1]] W (by (simp only [h4, h8, if_true, Bool.false_eq_true, if_false]; go_simp; try rfl)) ((qc W).mono fun e w5 hw5 => ⟨_, hw5.1, p10, by (simp only [Act.put, List.setIfInBounds_toArray, List.set_cons_succ, List.set_cons_zero, Manyd.upd, Nat.reduceAdd, Nat.reduceBEq, Bool.or_false, Bool.or_true, if_true]), Fv1.keep (i := 9) (by decide) (by decide) (hT.after hw5.2)⟩)⟩
              · rintro t act W hun hdep hbeh ⟨p10, rfl, hT⟩
                (try simp only [Nat.reduceAdd] at hun)
                refine .inl ⟨by rfl, Inv.comesV_val (.pointer (some ⟨W.heap.size, 0, none⟩)) (W.alloc (.cells #[.int .i64 0, .int .i64 0] 37)) (by (go_simp; try rfl)) ⟨W.heap.size, by (simp only [Act.put, List.setIfInBounds_toArray, List.set_cons_succ, List.set_cons_zero, Manyd.upd, Nat.reduceAdd, Nat.reduceBEq, Bool.or_false, Bool.or_true, if_true]), hT.alloc7 (by decide) hun⟩⟩
              · rintro t act W hun hdep hbeh ⟨p10, rfl, hT⟩
                (try simp only [Nat.reduceAdd] at hun)
                have h10 : t 10 = true := Inv.depB_mem 10 hdep (by rfl)
                have h9 : t 9 = true := Inv.depB_mem 9 hdep (by rfl)
                obtain ⟨c0, c1, f0, f1⟩ := hT.own7 h10 hun
                refine .inl ⟨by rfl, Inv.comesV_skip ((W.setCell ⟨p10, 0, none⟩ (.int .i64 v0)).setCell ⟨p10, 1, none⟩ (.int .i64 v1)) (by (simp only [h10, h9, if_true, Bool.false_eq_true, if_false]; go_simp; try rfl)) ⟨p10, by (simp only [Act.put, List.setIfInBounds_toArray, List.set_cons_succ, List.set_cons_zero, Manyd.upd, Nat.reduceAdd, Nat.reduceBEq, Bool.or_false, Bool.or_true, if_true]), hT.set7 (by decide) h10 hun⟩⟩
            rintro t a' wibbec hs ⟨p10, rfl, hT⟩
            simp only [hs 0 (by decide), hs 1 (by decide), hs 2 (by decide), hs 3 (by decide), hs 4 (by decide), hs 5 (by decide), hs 6 (by decide), hs 7 (by decide), hs 8 (by decide), hs 9 (by decide), hs 10 (by decide), hs 11 (by decide), if_true]
            obtain ⟨hg9, b9⟩ := hT.a7 (hs 10 (by decide))
            rw [if_pos (hs 11 (by decide))] at b9
            have o9 := Own2.of b9
            have hQ := hQ.after hT.bw
            have ov : Own2 wibbec r8 (.int .i64 m0) (.int .i64 m1) := Own2.of hQ.s
            clear hT hs b9 hg9
            by_cases h4 : fm < fm'
            · rw [decide_eq_true h4] at q53m
              obtain ⟨c90, c91, f90, f91⟩ := o9
              obtain ⟨c50, c51, f50, f51⟩ := ov
              go_wp2_with (go_at_call 53; (with_reducible refine (q53m _).mono ?_); rintro e wibbed ⟨rfl, hbe⟩
                           have hQ := hQ.after hbe
                           obtain ⟨d90, d91, g90, g91⟩ := (⟨c90, c91, f90, f91⟩ : Own2 wibbec p10 (.int .i64 v0) (.int .i64 v1)).after hbe
                           obtain ⟨d50, d51, g50, g51⟩ := (⟨c50, c51, f50, f51⟩ : Own2 wibbec r8 (.int .i64 m0) (.int .i64 m1)).after hbe
                           clear hbe q53m c90 c91 f90 f91 c50 c51 f50 f51)
              clear d90 d91 g90 g91 d50 d51 g50 g51
              have hQ := hQ.setS hN v0 v1
              generalize (wibbed.setCell ⟨r8, 0, none⟩ (.int .i64 v0)).setCell ⟨r8, 1, none⟩ (.int .i64 v1) = wibbee at hQ ⊢
              exact ⟨fin _ _ _ _ _ hQ ⟨.inl ⟨rfl, by omega⟩⟩ ⟨.inr ⟨rfl, by omega⟩⟩ ⟨.inl ⟨rfl, by omega⟩⟩ ⟨.inr ⟨rfl, by omega⟩⟩, by simp [intOf]; omega⟩
            · rw [decide_eq_false h4] at q53m
              obtain ⟨c90, c91, f90, f91⟩ := o9
              obtain ⟨c50, c51, f50, f51⟩ := ov
              go_wp2_with (go_at_call 53; (with_reducible refine (q53m _).mono ?_); rintro e wibbed ⟨rfl, hbe⟩
                           have hQ := hQ.after hbe
                           obtain ⟨d90, d91, g90, g91⟩ := (⟨c90, c91, f90, f91⟩ : Own2 wibbec p10 (.int .i64 v0) (.int .i64 v1)).after hbe
                           obtain ⟨d50, d51, g50, g51⟩ := (⟨c50, c51, f50, f51⟩ : Own2 wibbec r8 (.int .i64 m0) (.int .i64 m1)).after hbe
                           clear hbe q53m c90 c91 f90 f91 c50 c51 f50 f51)
              clear d90 d91 g90 g91 d50 d51 g50 g51
              obtain ⟨wibbee, rfl⟩ : ∃ x, x = wibbed := ⟨_, rfl⟩
              exact ⟨fin _ _ _ _ _ hQ ⟨.inl ⟨rfl, by omega⟩⟩ ⟨.inr ⟨rfl, by omega⟩⟩ ⟨.inl ⟨rfl, by omega⟩⟩ ⟨.inl ⟨rfl, by omega⟩⟩, by simp [intOf]; omega⟩
        · have op : Own2 wib p8 (.int .i64 o0) (.int .i64 o1) := Own2.of hQ.q
          rw [decide_eq_false h2] at q53o
          refine (wpIn_wide (n := 0)).1 ?_
          refine Many.region_many (Go.Proofs.Ytbocmbhinjkjlaa.Cb wib) mixed_ok (by kernel_rfl) (fun _ _ _ _ h => h) (fun s _ => Go.Proofs.Ytbocmbhinjkjlaa.Cb.start wib s) ?_
          refine Many.lex_want (by rfl) (rdb (fun w hb => by (go_simp; try rfl))) ?_
          simp only [Act.put, List.setIfInBounds_toArray, List.set_cons_succ, List.set_cons_zero, Nat.reduceAdd]
          refine Many.lex_want (by rfl) (rdb (fun w hb => by (go_simp; try rfl))) ?_
          simp only [Act.put, List.setIfInBounds_toArray, List.set_cons_succ, List.set_cons_zero, Nat.reduceAdd]
          refine Many.lex_want (by rfl) (rdb (v := .pointer (some ⟨G3, j * 2, none⟩)) (fun w hb => by (skip; go_simp; try rfl))) ?_
          simp only [Act.put, List.setIfInBounds_toArray, List.set_cons_succ, List.set_cons_zero, Nat.reduceAdd]
          refine Many.lex_want (by rfl) (rdb (v := .agg #[.int .i64 y0, .int .i64 y1]) (fun w hb => by (obtain ⟨c0, c1⟩ := hCj _ (hQ.bw.trans (hb.mono hQ.size)); go_simp; try rfl))) ?_
          simp only [Act.put, List.setIfInBounds_toArray, List.set_cons_succ, List.set_cons_zero, Nat.reduceAdd]
          refine Many.lex_want (by rfl) (rdb (v := .agg #[.int .i64 o0, .int .i64 o1]) (fun w hb => by (obtain ⟨c0, c1, f0, f1⟩ := (op).after hb; go_simp; try rfl))) ?_
          simp only [Act.put, List.setIfInBounds_toArray, List.set_cons_succ, List.set_cons_zero, Nat.reduceAdd]
          refine Many.lex_want (by rfl) (clb q53o (fun w hb => by (go_simp; try rfl))) ?_
          simp only [Act.put, List.setIfInBounds_toArray, List.set_cons_succ, List.set_cons_zero, Nat.reduceAdd]
          refine Many.lex_nil fun s wiba hs hC => ?_
          have hC : Below wib.heap.size wib wiba := hC
          have hQ := hQ.after hC
          clear hC hs op q53o
          go_wp2
          obtain ⟨wibb, rfl⟩ : ∃ x, x = wiba := ⟨_, rfl⟩
          refine (wpIn_wide (n := 0)).1 ?_
          refine Inv.region_inv (fun t act W => ∃ p9, act = { tmps := #[Value.slice A0 n0 cap0, Value.int IntKind.i64 F, Value.int IntKind.i64 R, undef, undef, undef, Value.bool false, Value.slice (some ⟨gz, oz, none⟩) n cap, Value.slice (some ⟨G1, 0, none⟩) n n, Value.int IntKind.i64 0, Value.slice (some ⟨G2, 0, none⟩) n n, Value.int IntKind.i64 0, Value.slice (some ⟨G3, 0, none⟩) n n, Value.int IntKind.i64 0, Value.pointer (some ⟨p7, 0, none⟩), Value.pointer (some ⟨p8, 0, none⟩), Value.pointer (some ⟨r7, 0, none⟩), Value.pointer (some ⟨r8, 0, none⟩), Value.int IntKind.i64 (j : Nat), if t 10 = true then .pointer (some ⟨p9, 0, none⟩) else u19, u20, Value.tuple #[Value.slice (some ⟨gz, oz, none⟩) n cap, Value.int IntKind.i64 F], Value.slice A0 n0 cap0, Value.int IntKind.i64 E, Value.tuple #[Value.slice (some ⟨gz, oz, none⟩) n cap, Value.int IntKind.i64 F], Value.slice (some ⟨gz, oz, none⟩) n cap, Value.int IntKind.i64 F, Value.tuple #[Value.slice (some ⟨G1, 0, none⟩) n n, Value.int IntKind.i64 0], Value.slice (some ⟨gz, oz, none⟩) n cap, Value.int IntKind.i64 F, Value.tuple #[Value.slice (some ⟨G1, 0, none⟩) n n, Value.int IntKind.i64 0], Value.slice (some ⟨G1, 0, none⟩) n n, Value.int IntKind.i64 0, Value.tuple #[Value.slice (some ⟨G2, 0, none⟩) n n, Value.int IntKind.i64 0], Value.slice (some ⟨gz, oz, none⟩) n cap, Value.int IntKind.i64 F, Value.tuple #[Value.slice (some ⟨G2, 0, none⟩) n n, Value.int IntKind.i64 0], Value.slice (some ⟨G2, 0, none⟩) n n, Value.int IntKind.i64 0, Value.tuple #[Value.slice (some ⟨G3, 0, none⟩) n n, Value.int IntKind.i64 0], Value.int IntKind.i64 R, Value.int IntKind.i64 (r : Nat), Value.slice (some ⟨gz, oz, none⟩) n cap, Value.int IntKind.i64 F, Value.tuple #[Value.slice (some ⟨G3, 0, none⟩) n n, Value.int IntKind.i64 0], Value.slice (some ⟨G3, 0, none⟩) n n, Value.int IntKind.i64 0, Value.int IntKind.i64 0, Value.bool false, Value.bool false, Value.int IntKind.i64 0, Value.bool false, Value.bool false, Value.bool false, Value.int IntKind.i64 0, Value.bool false, Value.bool false, Value.bool false, Value.slice (some ⟨G1, 0, none⟩) n n, Value.int IntKind.i64 (n : Nat), Value.slice (some ⟨gz, oz, none⟩) n cap, Value.int IntKind.i64 (n : Nat), Value.bool false, Value.bool false, Value.bool false, Value.slice (some ⟨G2, 0, none⟩) n n, Value.int IntKind.i64 (n : Nat), Value.slice (some ⟨gz, oz, none⟩) n cap, Value.int IntKind.i64 (n : Nat), Value.bool false, Value.bool false, Value.bool false, Value.slice (some ⟨G3, 0, none⟩) n n, Value.int IntKind.i64 (n : Nat), Value.slice (some ⟨gz, oz, none⟩) n cap, Value.int IntKind.i64 (n : Nat), Value.bool false, Value.bool false, Value.bool false, Value.slice (some ⟨G1, 0, none⟩) n n, Value.bool true, Value.bool false, Value.bool false, Value.bool false, Value.slice (some ⟨G2, 0, none⟩) n n, Value.bool true, Value.bool false, Value.bool false, Value.bool false, Value.slice (some ⟨G3, 0, none⟩) n n, Value.bool true, Value.bool false, Value.bool false, Value.slice (some ⟨G1, 0, none⟩) n n, Value.pointer (some ⟨G1, 0, none⟩), Value.agg #[Value.int IntKind.i64 a0, Value.int IntKind.i64 a1], Value.slice (some ⟨G3, 0, none⟩) n n, Value.pointer (some ⟨G3, 0, none⟩), Value.agg #[Value.int IntKind.i64 cc0, Value.int IntKind.i64 cc1], Value.slice (some ⟨gz, oz, none⟩) n cap, Value.pointer (some ⟨gz, oz, none⟩), Value.int IntKind.i64 z0, Value.agg #[Value.int IntKind.i64 z0, Value.int IntKind.i64 1], Value.slice (some ⟨G2, 0, none⟩) n n, Value.pointer (some ⟨G2, 0, none⟩), Value.agg #[Value.int IntKind.i64 ib0, Value.int IntKind.i64 ib1], Value.agg #[Value.int IntKind.i64 il0, Value.int IntKind.i64 il1], Value.slice (some ⟨gz, oz, none⟩) n cap, Value.pointer (some ⟨gz, oz, none⟩), Value.int IntKind.i64 z0, Value.agg #[Value.int IntKind.i64 z0, Value.int IntKind.i64 1], Value.slice (some ⟨G3, 0, none⟩) n n, Value.pointer (some ⟨G3, 0, none⟩), Value.agg #[Value.int IntKind.i64 cc0, Value.int IntKind.i64 cc1], Value.agg #[Value.int IntKind.i64 im0, Value.int IntKind.i64 im1], Value.int IntKind.i64 (j : Nat), Value.slice (some ⟨gz, oz, none⟩) n cap, Value.int IntKind.i64 (n : Nat), Value.bool true, u119, u120, .slice (some ⟨G1, 0, none⟩) n n, .int .i64 (j : Nat), .pointer (some ⟨G1, j * 2, none⟩), .agg #[.int .i64 x0, .int .i64 x1], .agg #[.int .i64 s0, .int .i64 s1], .bool false, u127, u128, u129, u130, .slice (some ⟨G3, 0, none⟩) n n, .int .i64 (j : Nat), .pointer (some ⟨G3, j * 2, none⟩), .agg #[.int .i64 y0, .int .i64 y1], .agg #[.int .i64 o0, .int .i64 o1], .bool false, u137, u138, u139, u140, if t 0 = true then .slice (some ⟨gz, oz, none⟩) n cap else u141, if t 1 = true then .int .i64 (j : Nat) else u142, if t 2 = true then .pointer (some ⟨gz, oz + j, none⟩) else u143, if t 3 = true then .int .i64 c else u144, if t 4 = true then .agg #[.int .i64 c, .int .i64 1] else u145, if t 5 = true then .slice (some ⟨G2, 0, none⟩) n n else u146, if t 6 = true then .int .i64 (j : Nat) else u147, if t 7 = true then .pointer (some ⟨G2, j * 2, none⟩) else u148, if t 8 = true then .agg #[.int .i64 b0, .int .i64 b1] else u149, if t 9 = true then .agg #[.int .i64 u0, .int .i64 u1] else u150, u151, u152, u153, u154, u155, u156, u157, u158, u159, u160, u161, u162, u163, u164, u165, u166, u167, u168, undef, undef, undef, undef, undef, undef, undef, undef, undef, undef, undef, undef, undef], defers := [] } ∧ Fv1 wibb 10 11 u0 u1 t p9 W) mixed_ok (by kernel_rfl) ?_ ?_ ?_
          · intro t hs
            refine ⟨0, ?_, Fv1.start (hs 10 (by decide)) (hs 11 (by decide))⟩
            simp only [hs 0 (by decide), hs 1 (by decide), hs 2 (by decide), hs 3 (by decide), hs 4 (by decide), hs 5 (by decide), hs 6 (by decide), hs 7 (by decide), hs 8 (by decide), hs 9 (by decide), hs 10 (by decide), hs 11 (by decide), Bool.false_eq_true, if_false]
          · refine ⟨?_, ?_, ?_, ?_, ?_, ?_, ?_, ?_, ?_, ?_, ?_, ?_, trivial⟩
            · rintro t act W hun hdep hbeh ⟨p9, rfl, hT⟩
              (try simp only [Nat.reduceAdd] at hun)
              refine .inl ⟨by rfl, Inv.comesV_val (.slice (some ⟨gz, oz, none⟩) n cap) W (by (go_simp; try rfl)) ⟨p9, by (simp only [Act.put, List.setIfInBounds_toArray, List.set_cons_succ, List.set_cons_zero, Manyd.upd, Nat.reduceAdd, Nat.reduceBEq, Bool.or_false, Bool.or_true, if_true]), Fv1.keep (i := 0) (by decide) (by decide) hT⟩⟩
            · rintro t act W hun hdep hbeh ⟨p9, rfl, hT⟩
              (try simp only [Nat.reduceAdd] at hun)
              refine .inl ⟨by rfl, Inv.comesV_val (.int .i64 (j : Nat)) W (by (go_simp; try rfl)) ⟨p9, by (simp only [Act.put, List.setIfInBounds_toArray, List.set_cons_succ, List.set_cons_zero, Manyd.upd, Nat.reduceAdd, Nat.reduceBEq, Bool.or_false, Bool.or_true, if_true]), Fv1.keep (i := 1) (by decide) (by decide) hT⟩⟩
            · rintro t act W hun hdep hbeh ⟨p9, rfl, hT⟩
              (try simp only [Nat.reduceAdd] at hun)
              have h0 : t 0 = true := Inv.depB_mem 0 hdep (by rfl)
              have h1 : t 1 = true := Inv.depB_mem 1 hdep (by rfl)
              refine .inl ⟨by rfl, Inv.comesV_val (.pointer (some ⟨gz, oz + j, none⟩)) W (by (simp only [h0, h1, if_true, Bool.false_eq_true, if_false]; go_simp; try rfl)) ⟨p9, by (simp only [Act.put, List.setIfInBounds_toArray, List.set_cons_succ, List.set_cons_zero, Manyd.upd, Nat.reduceAdd, Nat.reduceBEq, Bool.or_false, Bool.or_true, if_true]), Fv1.keep (i := 2) (by decide) (by decide) hT⟩⟩
            · rintro t act W hun hdep hbeh ⟨p9, rfl, hT⟩
              (try simp only [Nat.reduceAdd] at hun)
              have h2 : t 2 = true := Inv.depB_mem 2 hdep (by rfl)
              have c0 := hzj _ (hQ.bw.trans (hT.bw.mono hQ.size))
              refine .inl ⟨by rfl, Inv.comesV_val (.int .i64 c) W (by (simp only [h2, if_true, Bool.false_eq_true, if_false]; go_simp; try rfl)) ⟨p9, by (simp only [Act.put, List.setIfInBounds_toArray, List.set_cons_succ, List.set_cons_zero, Manyd.upd, Nat.reduceAdd, Nat.reduceBEq, Bool.or_false, Bool.or_true, if_true]), Fv1.keep (i := 3) (by decide) (by decide) hT⟩⟩
            · rintro t act W hun hdep hbeh ⟨p9, rfl, hT⟩
              (try simp only [Nat.reduceAdd] at hun)
              have h3 : t 3 = true := Inv.depB_mem 3 hdep (by rfl)
              refine .inl ⟨by rfl, Inv.comesV_call 29 #[.int .i64 c] W (by (simp only [h3, if_true, Bool.false_eq_true, if_false]; go_simp; try rfl)) ((q29 W).mono fun e w5 hw5 => ⟨_, hw5.1, p9, by (simp only [Act.put, List.setIfInBounds_toArray, List.set_cons_succ, List.set_cons_zero, Manyd.upd, Nat.reduceAdd, Nat.reduceBEq, Bool.or_false, Bool.or_true, if_true]), Fv1.keep (i := 4) (by decide) (by decide) (hT.after hw5.2)⟩)⟩
            · rintro t act W hun hdep hbeh ⟨p9, rfl, hT⟩
              (try simp only [Nat.reduceAdd] at hun)
              refine .inl ⟨by rfl, Inv.comesV_val (.slice (some ⟨G2, 0, none⟩) n n) W (by (go_simp; try rfl)) ⟨p9, by (simp only [Act.put, List.setIfInBounds_toArray, List.set_cons_succ, List.set_cons_zero, Manyd.upd, Nat.reduceAdd, Nat.reduceBEq, Bool.or_false, Bool.or_true, if_true]), Fv1.keep (i := 5) (by decide) (by decide) hT⟩⟩
            · rintro t act W hun hdep hbeh ⟨p9, rfl, hT⟩
              (try simp only [Nat.reduceAdd] at hun)
              refine .inl ⟨by rfl, Inv.comesV_val (.int .i64 (j : Nat)) W (by (go_simp; try rfl)) ⟨p9, by (simp only [Act.put, List.setIfInBounds_toArray, List.set_cons_succ, List.set_cons_zero, Manyd.upd, Nat.reduceAdd, Nat.reduceBEq, Bool.or_false, Bool.or_true, if_true]), Fv1.keep (i := 6) (by decide) (by decide) hT⟩⟩
            · rintro t act W hun hdep hbeh ⟨p9, rfl, hT⟩
              (try simp only [Nat.reduceAdd] at hun)
              have h5 : t 5 = true := Inv.depB_mem 5 hdep (by rfl)
              have h6 : t 6 = true := Inv.depB_mem 6 hdep (by rfl)
              refine .inl ⟨by rfl, Inv.comesV_val (.pointer (some ⟨G2, j * 2, none⟩)) W (by (simp only [h5, h6, if_true, Bool.false_eq_true, if_false]; go_simp; try rfl)) ⟨p9, by (simp only [Act.put, List.setIfInBounds_toArray, List.set_cons_succ, List.set_cons_zero, Manyd.upd, Nat.reduceAdd, Nat.reduceBEq, Bool.or_false, Bool.or_true, if_true]), Fv1.keep (i := 7) (by decide) (by decide) hT⟩⟩
            · rintro t act W hun hdep hbeh ⟨p9, rfl, hT⟩
              (try simp only [Nat.reduceAdd] at hun)
              have h7 : t 7 = true := Inv.depB_mem 7 hdep (by rfl)
              obtain ⟨c0, c1⟩ := hBj _ (hQ.bw.trans (hT.bw.mono hQ.size))
              refine .inl ⟨by rfl, Inv.comesV_val (.agg #[.int .i64 b0, .int .i64 b1]) W (by (simp only [h7, if_true, Bool.false_eq_true, if_false]; go_simp; try rfl)) ⟨p9, by (simp only [Act.put, List.setIfInBounds_toArray, List.set_cons_succ, List.set_cons_zero, Manyd.upd, Nat.reduceAdd, Nat.reduceBEq, Bool.or_false, Bool.or_true, if_true]), Fv1.keep (i := 8) (by decide) (by decide) hT⟩⟩
            · rintro t act W hun hdep hbeh ⟨p9, rfl, hT⟩
              (try simp only [Nat.reduceAdd] at hun)
              have h4 : t 4 = true := Inv.depB_mem 4 hdep (by rfl)
              have h8 : t 8 = true := Inv.depB_mem 8 hdep (by rfl)
              refine .inl ⟨by rfl, Inv.comesV_call 58 #[.agg #[.int .i64 c, .int .i64 1], .agg #[.int .i64 b0, .int .i64 b1]] W (by (simp only [h4, h8, if_true, Bool.false_eq_true, if_false]; go_simp; try rfl)) ((qb W).mono fun e w5 hw5 => ⟨_, hw5.1, p9, by (simp only [Act.put, List.setIfInBounds_toArray, List.set_cons_succ, List.set_cons_zero, Manyd.upd, Nat.reduceAdd, Nat.reduceBEq, Bool.or_false, Bool.or_true, if_true]), Fv1.keep (i := 9) (by decide) (by decide) (hT.after hw5.2)⟩)⟩
            · rintro t act W hun hdep hbeh ⟨p9, rfl, hT⟩
              (try simp only [Nat.reduceAdd] at hun)
              refine .inl ⟨by rfl, Inv.comesV_val (.pointer (some ⟨W.heap.size, 0, none⟩)) (W.alloc (.cells #[.int .i64 0, .int .i64 0] 37)) (by (go_simp; try rfl)) ⟨W.heap.size, by (simp only [Act.put, List.setIfInBounds_toArray, List.set_cons_succ, List.set_cons_zero, Manyd.upd, Nat.reduceAdd, Nat.reduceBEq, Bool.or_false, Bool.or_true, if_true]), hT.alloc7 (by decide) hun⟩⟩
            · rintro t act W hun hdep hbeh ⟨p9, rfl, hT⟩
              (try simp only [Nat.reduceAdd] at hun)
              have h10 : t 10 = true := Inv.depB_mem 10 hdep (by rfl)
              have h9 : t 9 = true := Inv.depB_mem 9 hdep (by rfl)
              obtain ⟨c0, c1, f0, f1⟩ := hT.own7 h10 hun
              refine .inl ⟨by rfl, Inv.comesV_skip ((W.setCell ⟨p9, 0, none⟩ (.int .i64 u0)).setCell ⟨p9, 1, none⟩ (.int .i64 u1)) (by (simp only [h10, h9, if_true, Bool.false_eq_true, if_false]; go_simp; try rfl)) ⟨p9, by (simp only [Act.put, List.setIfInBounds_toArray, List.set_cons_succ, List.set_cons_zero, Manyd.upd, Nat.reduceAdd, Nat.reduceBEq, Bool.or_false, Bool.or_true, if_true]), hT.set7 (by decide) h10 hun⟩⟩
          rintro t a' wibbc hs ⟨p9, rfl, hT⟩
          simp only [hs 0 (by decide), hs 1 (by decide), hs 2 (by decide), hs 3 (by decide), hs 4 (by decide), hs 5 (by decide), hs 6 (by decide), hs 7 (by decide), hs 8 (by decide), hs 9 (by decide), hs 10 (by decide), hs 11 (by decide), if_true]
          obtain ⟨hg9, b9⟩ := hT.a7 (hs 10 (by decide))
          rw [if_pos (hs 11 (by decide))] at b9
          have o9 := Own2.of b9
          have hQ := hQ.after hT.bw
          have ov : Own2 wibbc r7 (.int .i64 l0) (.int .i64 l1) := Own2.of hQ.r
          clear hT hs b9 hg9
          by_cases h3 : fl < fl'
          · rw [decide_eq_true h3] at q53l
            obtain ⟨c90, c91, f90, f91⟩ := o9
            obtain ⟨c50, c51, f50, f51⟩ := ov
            go_wp2_with (go_at_call 53; (with_reducible refine (q53l _).mono ?_); rintro e wibbd ⟨rfl, hbe⟩
                         have hQ := hQ.after hbe
                         obtain ⟨d90, d91, g90, g91⟩ := (⟨c90, c91, f90, f91⟩ : Own2 wibbc p9 (.int .i64 u0) (.int .i64 u1)).after hbe
                         obtain ⟨d50, d51, g50, g51⟩ := (⟨c50, c51, f50, f51⟩ : Own2 wibbc r7 (.int .i64 l0) (.int .i64 l1)).after hbe
                         clear hbe q53l c90 c91 f90 f91 c50 c51 f50 f51)
            clear d90 d91 g90 g91 d50 d51 g50 g51
            have hQ := hQ.setR hN u0 u1
            generalize (wibbd.setCell ⟨r7, 0, none⟩ (.int .i64 u0)).setCell ⟨r7, 1, none⟩ (.int .i64 u1) = wibbe at hQ ⊢
            refine (wpIn_wide (n := 0)).1 ?_
            refine Inv.region_inv (fun t act W => ∃ p10, act = { tmps := #[Value.slice A0 n0 cap0, Value.int IntKind.i64 F, Value.int IntKind.i64 R, undef, undef, undef, Value.bool false, Value.slice (some ⟨gz, oz, none⟩) n cap, Value.slice (some ⟨G1, 0, none⟩) n n, Value.int IntKind.i64 0, Value.slice (some ⟨G2, 0, none⟩) n n, Value.int IntKind.i64 0, Value.slice (some ⟨G3, 0, none⟩) n n, Value.int IntKind.i64 0, Value.pointer (some ⟨p7, 0, none⟩), Value.pointer (some ⟨p8, 0, none⟩), Value.pointer (some ⟨r7, 0, none⟩), Value.pointer (some ⟨r8, 0, none⟩), Value.int IntKind.i64 (j : Nat), .pointer (some ⟨p9, 0, none⟩), if t 10 = true then .pointer (some ⟨p10, 0, none⟩) else u20, Value.tuple #[Value.slice (some ⟨gz, oz, none⟩) n cap, Value.int IntKind.i64 F], Value.slice A0 n0 cap0, Value.int IntKind.i64 E, Value.tuple #[Value.slice (some ⟨gz, oz, none⟩) n cap, Value.int IntKind.i64 F], Value.slice (some ⟨gz, oz, none⟩) n cap, Value.int IntKind.i64 F, Value.tuple #[Value.slice (some ⟨G1, 0, none⟩) n n, Value.int IntKind.i64 0], Value.slice (some ⟨gz, oz, none⟩) n cap, Value.int IntKind.i64 F, Value.tuple #[Value.slice (some ⟨G1, 0, none⟩) n n, Value.int IntKind.i64 0], Value.slice (some ⟨G1, 0, none⟩) n n, Value.int IntKind.i64 0, Value.tuple #[Value.slice (some ⟨G2, 0, none⟩) n n, Value.int IntKind.i64 0], Value.slice (some ⟨gz, oz, none⟩) n cap, Value.int IntKind.i64 F, Value.tuple #[Value.slice (some ⟨G2, 0, none⟩) n n, Value.int IntKind.i64 0], Value.slice (some ⟨G2, 0, none⟩) n n, Value.int IntKind.i64 0, Value.tuple #[Value.slice (some ⟨G3, 0, none⟩) n n, Value.int IntKind.i64 0], Value.int IntKind.i64 R, Value.int IntKind.i64 (r : Nat), Value.slice (some ⟨gz, oz, none⟩) n cap, Value.int IntKind.i64 F, Value.tuple #[Value.slice (some ⟨G3, 0, none⟩) n n, Value.int IntKind.i64 0], Value.slice (some ⟨G3, 0, none⟩) n n, Value.int IntKind.i64 0, Value.int IntKind.i64 0, Value.bool false, Value.bool false, Value.int IntKind.i64 0, Value.bool false, Value.bool false, Value.bool false, Value.int IntKind.i64 0, Value.bool false, Value.bool false, Value.bool false, Value.slice (some ⟨G1, 0, none⟩) n n, Value.int IntKind.i64 (n : Nat), Value.slice (some ⟨gz, oz, none⟩) n cap, Value.int IntKind.i64 (n : Nat), Value.bool false, Value.bool false, Value.bool false, Value.slice (some ⟨G2, 0, none⟩) n n, Value.int IntKind.i64 (n : Nat), Value.slice (some ⟨gz, oz, none⟩) n cap, Value.int IntKind.i64 (n : Nat), Value.bool false, Value.bool false, Value.bool false, Value.slice (some ⟨G3, 0, none⟩) n n, Value.int IntKind.i64 (n : Nat), Value.slice (some ⟨gz, oz, none⟩) n cap, Value.int IntKind.i64 (n : Nat), Value.bool false, Value.bool false, Value.bool false, Value.slice (some ⟨G1, 0, none⟩) n n, Value.bool true, Value.bool false, Value.bool false, Value.bool false, Value.slice (some ⟨G2, 0, none⟩) n n, Value.bool true, Value.bool false, Value.bool false, Value.bool false, Value.slice (some ⟨G3, 0, none⟩) n n, Value.bool true, Value.bool false, Value.bool false, Value.slice (some ⟨G1, 0, none⟩) n n, Value.pointer (some ⟨G1, 0, none⟩), Value.agg #[Value.int IntKind.i64 a0, Value.int IntKind.i64 a1], Value.slice (some ⟨G3, 0, none⟩) n n, Value.pointer (some ⟨G3, 0, none⟩), Value.agg #[Value.int IntKind.i64 cc0, Value.int IntKind.i64 cc1], Value.slice (some ⟨gz, oz, none⟩) n cap, Value.pointer (some ⟨gz, oz, none⟩), Value.int IntKind.i64 z0, Value.agg #[Value.int IntKind.i64 z0, Value.int IntKind.i64 1], Value.slice (some ⟨G2, 0, none⟩) n n, Value.pointer (some ⟨G2, 0, none⟩), Value.agg #[Value.int IntKind.i64 ib0, Value.int IntKind.i64 ib1], Value.agg #[Value.int IntKind.i64 il0, Value.int IntKind.i64 il1], Value.slice (some ⟨gz, oz, none⟩) n cap, Value.pointer (some ⟨gz, oz, none⟩), Value.int IntKind.i64 z0, Value.agg #[Value.int IntKind.i64 z0, Value.int IntKind.i64 1], Value.slice (some ⟨G3, 0, none⟩) n n, Value.pointer (some ⟨G3, 0, none⟩), Value.agg #[Value.int IntKind.i64 cc0, Value.int IntKind.i64 cc1], Value.agg #[Value.int IntKind.i64 im0, Value.int IntKind.i64 im1], Value.int IntKind.i64 (j : Nat), Value.slice (some ⟨gz, oz, none⟩) n cap, Value.int IntKind.i64 (n : Nat), Value.bool true, u119, u120, .slice (some ⟨G1, 0, none⟩) n n, .int .i64 (j : Nat), .pointer (some ⟨G1, j * 2, none⟩), .agg #[.int .i64 x0, .int .i64 x1], .agg #[.int .i64 s0, .int .i64 s1], .bool false, u127, u128, u129, u130, .slice (some ⟨G3, 0, none⟩) n n, .int .i64 (j : Nat), .pointer (some ⟨G3, j * 2, none⟩), .agg #[.int .i64 y0, .int .i64 y1], .agg #[.int .i64 o0, .int .i64 o1], .bool false, u137, u138, u139, u140, .slice (some ⟨gz, oz, none⟩) n cap, .int .i64 (j : Nat), .pointer (some ⟨gz, oz + j, none⟩), .int .i64 c, .agg #[.int .i64 c, .int .i64 1], .slice (some ⟨G2, 0, none⟩) n n, .int .i64 (j : Nat), .pointer (some ⟨G2, j * 2, none⟩), .agg #[.int .i64 b0, .int .i64 b1], .agg #[.int .i64 u0, .int .i64 u1], .agg #[.int .i64 l0, .int .i64 l1], .agg #[.int .i64 u0, .int .i64 u1], .bool true, .agg #[.int .i64 u0, .int .i64 u1], if t 0 = true then .slice (some ⟨gz, oz, none⟩) n cap else u155, if t 1 = true then .int .i64 (j : Nat) else u156, if t 2 = true then .pointer (some ⟨gz, oz + j, none⟩) else u157, if t 3 = true then .int .i64 c else u158, if t 4 = true then .agg #[.int .i64 c, .int .i64 1] else u159, if t 5 = true then .slice (some ⟨G3, 0, none⟩) n n else u160, if t 6 = true then .int .i64 (j : Nat) else u161, if t 7 = true then .pointer (some ⟨G3, j * 2, none⟩) else u162, if t 8 = true then .agg #[.int .i64 y0, .int .i64 y1] else u163, if t 9 = true then .agg #[.int .i64 v0, .int .i64 v1] else u164, u165, u166, u167, u168, undef, undef, undef, undef, undef, undef, undef, undef, undef, undef, undef, undef, undef], defers := [] } ∧ Fv1 wibbe 10 11 v0 v1 t p10 W) mixed_ok (by kernel_rfl) ?_ ?_ ?_
            · intro t hs
              refine ⟨0, ?_, Fv1.start (hs 10 (by decide)) (hs 11 (by decide))⟩
              simp only [hs 0 (by decide), hs 1 (by decide), hs 2 (by decide), hs 3 (by decide), hs 4 (by decide), hs 5 (by decide), hs 6 (by decide), hs 7 (by decide), hs 8 (by decide), hs 9 (by decide), hs 10 (by decide), hs 11 (by decide), Bool.false_eq_true, if_false]
            · refine ⟨?_, ?_, ?_, ?_, ?_, ?_, ?_, ?_, ?_, ?_, ?_, ?_, trivial⟩
              · rintro t act W hun hdep hbeh ⟨p10, rfl, hT⟩
                (try simp only [Nat.reduceAdd] at hun)
                refine .inl ⟨by rfl, Inv.comesV_val (.slice (some ⟨gz, oz, none⟩) n cap) W (by (go_simp; try rfl)) ⟨p10, by (simp only [Act.put, List.setIfInBounds_toArray, List.set_cons_succ, List.set_cons_zero, Manyd.upd, Nat.reduceAdd, Nat.reduceBEq, Bool.or_false, Bool.or_true, if_true]), Fv1.keep (i := 0) (by decide) (by decide) hT⟩⟩
              · rintro t act W hun hdep hbeh ⟨p10, rfl, hT⟩
                (try simp only [Nat.reduceAdd] at hun)
                refine .inl ⟨by rfl, Inv.comesV_val (.int .i64 (j : Nat)) W (by (go_simp; try rfl)) ⟨p10, by (simp only [Act.put, List.setIfInBounds_toArray, List.set_cons_succ, List.set_cons_zero, Manyd.upd, Nat.reduceAdd, Nat.reduceBEq, Bool.or_false, Bool.or_true, if_true]), Fv1.keep (i := 1) (by decide) (by decide) hT⟩⟩
              · rintro t act W hun hdep hbeh ⟨p10, rfl, hT⟩
                (try simp only [Nat.reduceAdd] at hun)
                have h0 : t 0 = true := Inv.depB_mem 0 hdep (by rfl)
                have h1 : t 1 = true := Inv.depB_mem 1 hdep (by rfl)
                refine .inl ⟨by rfl, Inv.comesV_val (.pointer (some ⟨gz, oz + j, none⟩)) W (by (simp only [h0, h1, if_true, Bool.false_eq_true, if_false]; go_simp; try rfl)) ⟨p10, by (simp only [Act.put, List.setIfInBounds_toArray, List.set_cons_succ, List.set_cons_zero, Manyd.upd, Nat.reduceAdd, Nat.reduceBEq, Bool.or_false, Bool.or_true, if_true]), Fv1.keep (i := 2) (by decide) (by decide) hT⟩⟩
              · rintro t act W hun hdep hbeh ⟨p10, rfl, hT⟩
                (try simp only [Nat.reduceAdd] at hun)
                have h2 : t 2 = true := Inv.depB_mem 2 hdep (by rfl)
                have c0 := hzj _ (hQ.bw.trans (hT.bw.mono hQ.size))
                refine .inl ⟨by rfl, Inv.comesV_val (.int .i64 c) W (by (simp only [h2, if_true, Bool.false_eq_true, if_false]; go_simp; try rfl)) ⟨p10, by (simp only [Act.put, List.setIfInBounds_toArray, List.set_cons_succ, List.set_cons_zero, Manyd.upd, Nat.reduceAdd, Nat.reduceBEq, Bool.or_false, Bool.or_true, if_true]), Fv1.keep (i := 3) (by decide) (by decide) hT⟩⟩
              · rintro t act W hun hdep hbeh ⟨p10, rfl, hT⟩
                (try simp only [Nat.reduceAdd] at hun)
                have h3 : t 3 = true := Inv.depB_mem 3 hdep (by rfl)
                refine .inl ⟨by rfl, Inv.comesV_call 29 #[.int .i64 c] W (by (simp only [h3, if_true, Bool.false_eq_true, if_false]; go_simp; try rfl)) ((q29 W).mono fun e w5 hw5 => ⟨_, hw5.1, p10, by (simp only [Act.put, List.setIfInBounds_toArray, List.set_cons_succ, List.set_cons_zero, Manyd.upd, Nat.reduceAdd, Nat.reduceBEq, Bool.or_false, Bool.or_true, if_true]), Fv1.keep (i := 4) (by decide) (by decide) (hT.after hw5.2)⟩)⟩
              · rintro t act W hun hdep hbeh ⟨p10, rfl, hT⟩
                (try simp only [Nat.reduceAdd] at hun)
                refine .inl ⟨by rfl, Inv.comesV_val (.slice (some ⟨G3, 0, none⟩) n n) W (by (go_simp; try rfl)) ⟨p10, by (simp only [Act.put, List.setIfInBounds_toArray, List.set_cons_succ, List.set_cons_zero, Manyd.upd, Nat.reduceAdd, Nat.reduceBEq, Bool.or_false, Bool.or_true, if_true]), Fv1.keep (i := 5) (by decide) (by decide) hT⟩⟩
              · rintro t act W hun hdep hbeh ⟨p10, rfl, hT⟩
                (try simp only [Nat.reduceAdd] at hun)
                refine .inl ⟨by rfl, Inv.comesV_val (.int .i64 (j : Nat)) W (by (go_simp; try rfl)) ⟨p10, by (simp only [Act.put, List.setIfInBounds_toArray, List.set_cons_succ, List.set_cons_zero, Manyd.upd, Nat.reduceAdd, Nat.reduceBEq, Bool.or_false, Bool.or_true, if_true]), Fv1.keep (i := 6) (by decide) (by decide) hT⟩⟩
              · rintro t act W hun hdep hbeh ⟨p10, rfl, hT⟩
                (try simp only [Nat.reduceAdd] at hun)
                have h5 : t 5 = true := Inv.depB_mem 5 hdep (by rfl)
                have h6 : t 6 = true := Inv.depB_mem 6 hdep (by rfl)
                refine .inl ⟨by rfl, Inv.comesV_val (.pointer (some ⟨G3, j * 2, none⟩)) W (by (simp only [h5, h6, if_true, Bool.false_eq_true, if_false]; go_simp; try rfl)) ⟨p10, by (simp only [Act.put, List.setIfInBounds_toArray, List.set_cons_succ, List.set_cons_zero, Manyd.upd, Nat.reduceAdd, Nat.reduceBEq, Bool.or_false, Bool.or_true, if_true]), Fv1.keep (i := 7) (by decide) (by decide) hT⟩⟩
              · rintro t act W hun hdep hbeh ⟨p10, rfl, hT⟩
                (try simp only [Nat.reduceAdd] at hun)
                have h7 : t 7 = true := Inv.depB_mem 7 hdep (by rfl)
                obtain ⟨c0, c1⟩ := hCj _ (hQ.bw.trans (hT.bw.mono hQ.size))
                refine .inl ⟨by rfl, Inv.comesV_val (.agg #[.int .i64 y0, .int .i64 y1]) W (by (simp only [h7, if_true, Bool.false_eq_true, if_false]; go_simp; try rfl)) ⟨p10, by (simp only [Act.put, List.setIfInBounds_toArray, List.set_cons_succ, List.set_cons_zero, Manyd.upd, Nat.reduceAdd, Nat.reduceBEq, Bool.or_false, Bool.or_true, if_true]), Fv1.keep (i := 8) (by decide) (by decide) hT⟩⟩
              · rintro t act W hun hdep hbeh ⟨p10, rfl, hT⟩
                (try simp only [Nat.reduceAdd] at hun)
                have h4 : t 4 = true := Inv.depB_mem 4 hdep (by rfl)
                have h8 : t 8 = true := Inv.depB_mem 8 hdep (by rfl)
                refine .inl ⟨by rfl, Inv.comesV_call 58 #[.agg #[.int .i64 c, .int .i64 1], .agg #[.int .i64 y0, .int .i64 y1]] W (by (simp only [h4, h8, if_true, Bool.false_eq_true, if_false]; go_simp; try rfl)) ((qc W).mono fun e w5 hw5 => ⟨_, hw5.1, p10, by (simp only [Act.put, List.setIfInBounds_toArray, List.set_cons_succ, List.set_cons_zero, Manyd.upd, Nat.reduceAdd, Nat.reduceBEq, Bool.or_false, Bool.or_true, if_true]), Fv1.keep (i := 9) (by decide) (by decide) (hT.after hw5.2)⟩)⟩
              · rintro t act W hun hdep hbeh ⟨p10, rfl, hT⟩
                (try simp only [Nat.reduceAdd] at hun)
                refine .inl ⟨by rfl, Inv.comesV_val (.pointer (some ⟨W.heap.size, 0, none⟩)) (W.alloc (.cells #[.int .i64 0, .int .i64 0] 37)) (by (go_simp; try rfl)) ⟨W.heap.size, by (simp only [Act.put, List.setIfInBounds_toArray, List.set_cons_succ, List.set_cons_zero, Manyd.upd, Nat.reduceAdd, Nat.reduceBEq, Bool.or_false, Bool.or_true, if_true]), hT.alloc7 (by decide) hun⟩⟩
              · rintro t act W hun hdep hbeh ⟨p10, rfl, hT⟩
                (try simp only [Nat.reduceAdd] at hun)
                have h10 : t 10 = true := Inv.depB_mem 10 hdep (by rfl)
                have h9 : t 9 = true := Inv.depB_mem 9 hdep (by rfl)
                obtain ⟨c0, c1, f0, f1⟩ := hT.own7 h10 hun
                refine .inl ⟨by rfl, Inv.comesV_skip ((W.setCell ⟨p10, 0, none⟩ (.int .i64 v0)).setCell ⟨p10, 1, none⟩ (.int .i64 v1)) (by (simp only [h10, h9, if_true, Bool.false_eq_true, if_false]; go_simp; try rfl)) ⟨p10, by (simp only [Act.put, List.setIfInBounds_toArray, List.set_cons_succ, List.set_cons_zero, Manyd.upd, Nat.reduceAdd, Nat.reduceBEq, Bool.or_false, Bool.or_true, if_true]), hT.set7 (by decide) h10 hun⟩⟩
            rintro t a' wibbec hs ⟨p10, rfl, hT⟩
            simp only [hs 0 (by decide), hs 1 (by decide), hs 2 (by decide), hs 3 (by decide), hs 4 (by decide), hs 5 (by decide), hs 6 (by decide), hs 7 (by decide), hs 8 (by decide), hs 9 (by decide), hs 10 (by decide), hs 11 (by decide), if_true]
            obtain ⟨hg9, b9⟩ := hT.a7 (hs 10 (by decide))
            rw [if_pos (hs 11 (by decide))] at b9
            have o9 := Own2.of b9
            have hQ := hQ.after hT.bw
            have ov : Own2 wibbec r8 (.int .i64 m0) (.int .i64 m1) := Own2.of hQ.s
            clear hT hs b9 hg9
            by_cases h4 : fm < fm'
            · rw [decide_eq_true h4] at q53m
              obtain ⟨c90, c91, f90, f91⟩ := o9
              obtain ⟨c50, c51, f50, f51⟩ := ov
              go_wp2_with (go_at_call 53; (with_reducible refine (q53m _).mono ?_); rintro e wibbed ⟨rfl, hbe⟩
                           have hQ := hQ.after hbe
                           obtain ⟨d90, d91, g90, g91⟩ := (⟨c90, c91, f90, f91⟩ : Own2 wibbec p10 (.int .i64 v0) (.int .i64 v1)).after hbe
                           obtain ⟨d50, d51, g50, g51⟩ := (⟨c50, c51, f50, f51⟩ : Own2 wibbec r8 (.int .i64 m0) (.int .i64 m1)).after hbe
                           clear hbe q53m c90 c91 f90 f91 c50 c51 f50 f51)
              clear d90 d91 g90 g91 d50 d51 g50 g51
              have hQ := hQ.setS hN v0 v1
              generalize (wibbed.setCell ⟨r8, 0, none⟩ (.int .i64 v0)).setCell ⟨r8, 1, none⟩ (.int .i64 v1) = wibbee at hQ ⊢
              exact ⟨fin _ _ _ _ _ hQ ⟨.inl ⟨rfl, by omega⟩⟩ ⟨.inl ⟨rfl, by omega⟩⟩ ⟨.inr ⟨rfl, by omega⟩⟩ ⟨.inr ⟨rfl, by omega⟩⟩, by simp [intOf]; omega⟩
            · rw [decide_eq_false h4] at q53m
              obtain ⟨c90, c91, f90, f91⟩ := o9
              obtain ⟨c50, c51, f50, f51⟩ := ov
              go_wp2_with (go_at_call 53; (with_reducible refine (q53m _).mono ?_); rintro e wibbed ⟨rfl, hbe⟩
                           have hQ := hQ.after hbe
                           obtain ⟨d90, d91, g90, g91⟩ := (⟨c90, c91, f90, f91⟩ : Own2 wibbec p10 (.int .i64 v0) (.int .i64 v1)).after hbe
                           obtain ⟨d50, d51, g50, g51⟩ := (⟨c50, c51, f50, f51⟩ : Own2 wibbec r8 (.int .i64 m0) (.int .i64 m1)).after hbe
                           clear hbe q53m c90 c91 f90 f91 c50 c51 f50 f51)
              clear d90 d91 g90 g91 d50 d51 g50 g51
              obtain ⟨wibbee, rfl⟩ : ∃ x, x = wibbed := ⟨_, rfl⟩
              exact ⟨fin _ _ _ _ _ hQ ⟨.inl ⟨rfl, by omega⟩⟩ ⟨.inl ⟨rfl, by omega⟩⟩ ⟨.inr ⟨rfl, by omega⟩⟩ ⟨.inl ⟨rfl, by omega⟩⟩, by simp [intOf]; omega⟩
          · rw [decide_eq_false h3] at q53l
            obtain ⟨c90, c91, f90, f91⟩ := o9
            obtain ⟨c50, c51, f50, f51⟩ := ov
            go_wp2_with (go_at_call 53; (with_reducible refine (q53l _).mono ?_); rintro e wibbd ⟨rfl, hbe⟩
                         have hQ := hQ.after hbe
                         obtain ⟨d90, d91, g90, g91⟩ := (⟨c90, c91, f90, f91⟩ : Own2 wibbc p9 (.int .i64 u0) (.int .i64 u1)).after hbe
                         obtain ⟨d50, d51, g50, g51⟩ := (⟨c50, c51, f50, f51⟩ : Own2 wibbc r7 (.int .i64 l0) (.int .i64 l1)).after hbe
                         clear hbe q53l c90 c91 f90 f91 c50 c51 f50 f51)
            clear d90 d91 g90 g91 d50 d51 g50 g51
            obtain ⟨wibbe, rfl⟩ : ∃ x, x = wibbd := ⟨_, rfl⟩
            refine (wpIn_wide (n := 0)).1 ?_
            refine Inv.region_inv (fun t act W => ∃ p10, act = { tmps := #[Value.slice A0 n0 cap0, Value.int IntKind.i64 F, Value.int IntKind.i64 R, undef, undef, undef, Value.bool false, Value.slice (some ⟨gz, oz, none⟩) n cap, Value.slice (some ⟨G1, 0, none⟩) n n, Value.int IntKind.i64 0, Value.slice (some ⟨G2, 0, none⟩) n n, Value.int IntKind.i64 0, Value.slice (some ⟨G3, 0, none⟩) n n, Value.int IntKind.i64 0, Value.pointer (some ⟨p7, 0, none⟩), Value.pointer (some ⟨p8, 0, none⟩), Value.pointer (some ⟨r7, 0, none⟩), Value.pointer (some ⟨r8, 0, none⟩), Value.int IntKind.i64 (j : Nat), .pointer (some ⟨p9, 0, none⟩), if t 10 = true then .pointer (some ⟨p10, 0, none⟩) else u20, Value.tuple #[Value.slice (some ⟨gz, oz, none⟩) n cap, Value.int IntKind.i64 F], Value.slice A0 n0 cap0, Value.int IntKind.i64 E, Value.tuple #[Value.slice (some ⟨gz, oz, none⟩) n cap, Value.int IntKind.i64 F], Value.slice (some ⟨gz, oz, none⟩) n cap, Value.int IntKind.i64 F, Value.tuple #[Value.slice (some ⟨G1, 0, none⟩) n n, Value.int IntKind.i64 0], Value.slice (some ⟨gz, oz, none⟩) n cap, Value.int IntKind.i64 F, Value.tuple #[Value.slice (some ⟨G1, 0, none⟩) n n, Value.int IntKind.i64 0], Value.slice (some ⟨G1, 0, none⟩) n n, Value.int IntKind.i64 0, Value.tuple #[Value.slice (some ⟨G2, 0, none⟩) n n, Value.int IntKind.i64 0], Value.slice (some ⟨gz, oz, none⟩) n cap, Value.int IntKind.i64 F, Value.tuple #[Value.slice (some ⟨G2, 0, none⟩) n n, Value.int IntKind.i64 0], Value.slice (some ⟨G2, 0, none⟩) n n, Value.int IntKind.i64 0, Value.tuple #[Value.slice (some ⟨G3, 0, none⟩) n n, Value.int IntKind.i64 0], Value.int IntKind.i64 R, Value.int IntKind.i64 (r : Nat), Value.slice (some ⟨gz, oz, none⟩) n cap, Value.int IntKind.i64 F, Value.tuple #[Value.slice (some ⟨G3, 0, none⟩) n n, Value.int IntKind.i64 0], Value.slice (some ⟨G3, 0, none⟩) n n, Value.int IntKind.i64 0, Value.int IntKind.i64 0, Value.bool false, Value.bool false, Value.int IntKind.i64 0, Value.bool false, Value.bool false, Value.bool false, Value.int IntKind.i64 0, Value.bool false, Value.bool false, Value.bool false, Value.slice (some ⟨G1, 0, none⟩) n n, Value.int IntKind.i64 (n : Nat), Value.slice (some ⟨gz, oz, none⟩) n cap, Value.int IntKind.i64 (n : Nat), Value.bool false, Value.bool false, Value.bool false, Value.slice (some ⟨G2, 0, none⟩) n n, Value.int IntKind.i64 (n : Nat), Value.slice (some ⟨gz, oz, none⟩) n cap, Value.int IntKind.i64 (n : Nat), Value.bool false, Value.bool false, Value.bool false, Value.slice (some ⟨G3, 0, none⟩) n n, Value.int IntKind.i64 (n : Nat), Value.slice (some ⟨gz, oz, none⟩) n cap, Value.int IntKind.i64 (n : Nat), Value.bool false, Value.bool false, Value.bool false, Value.slice (some ⟨G1, 0, none⟩) n n, Value.bool true, Value.bool false, Value.bool false, Value.bool false, Value.slice (some ⟨G2, 0, none⟩) n n, Value.bool true, Value.bool false, Value.bool false, Value.bool false, Value.slice (some ⟨G3, 0, none⟩) n n, Value.bool true, Value.bool false, Value.bool false, Value.slice (some ⟨G1, 0, none⟩) n n, Value.pointer (some ⟨G1, 0, none⟩), Value.agg #[Value.int IntKind.i64 a0, Value.int IntKind.i64 a1], Value.slice (some ⟨G3, 0, none⟩) n n, Value.pointer (some ⟨G3, 0, none⟩), Value.agg #[Value.int IntKind.i64 cc0, Value.int IntKind.i64 cc1], Value.slice (some ⟨gz, oz, none⟩) n cap, Value.pointer (some ⟨gz, oz, none⟩), Value.int IntKind.i64 z0, Value.agg #[Value.int IntKind.i64 z0, Value.int IntKind.i64 1], Value.slice (some ⟨G2, 0, none⟩) n n, Value.pointer (some ⟨G2, 0, none⟩), Value.agg #[Value.int IntKind.i64 ib0, Value.int IntKind.i64 ib1], Value.agg #[Value.int IntKind.i64 il0, Value.int IntKind.i64 il1], Value.slice (some ⟨gz, oz, none⟩) n cap, Value.pointer (some ⟨gz, oz, none⟩), Value.int IntKind.i64 z0, Value.agg #[Value.int IntKind.i64 z0, Value.int IntKind.i64 1], Value.slice (some ⟨G3, 0, none⟩) n n, Value.pointer (some ⟨G3, 0, none⟩), Value.agg #[Value.int IntKind.i64 cc0, Value.int IntKind.i64 cc1], Value.agg #[Value.int IntKind.i64 im0, Value.int IntKind.i64 im1], Value.int IntKind.i64 (j : Nat), Value.slice (some ⟨gz, oz, none⟩) n cap, Value.int IntKind.i64 (n : Nat), Value.bool true, u119, u120, .slice (some ⟨G1, 0, none⟩) n n, .int .i64 (j : Nat), .pointer (some ⟨G1, j * 2, none⟩), .agg #[.int .i64 x0, .int .i64 x1], .agg #[.int .i64 s0, .int .i64 s1], .bool false, u127, u128, u129, u130, .slice (some ⟨G3, 0, none⟩) n n, .int .i64 (j : Nat), .pointer (some ⟨G3, j * 2, none⟩), .agg #[.int .i64 y0, .int .i64 y1], .agg #[.int .i64 o0, .int .i64 o1], .bool false, u137, u138, u139, u140, .slice (some ⟨gz, oz, none⟩) n cap, .int .i64 (j : Nat), .pointer (some ⟨gz, oz + j, none⟩), .int .i64 c, .agg #[.int .i64 c, .int .i64 1], .slice (some ⟨G2, 0, none⟩) n n, .int .i64 (j : Nat), .pointer (some ⟨G2, j * 2, none⟩), .agg #[.int .i64 b0, .int .i64 b1], .agg #[.int .i64 u0, .int .i64 u1], .agg #[.int .i64 l0, .int .i64 l1], .agg #[.int .i64 u0, .int .i64 u1], .bool false, u154, if t 0 = true then .slice (some ⟨gz, oz, none⟩) n cap else u155, if t 1 = true then .int .i64 (j : Nat) else u156, if t 2 = true then .pointer (some ⟨gz, oz + j, none⟩) else u157, if t 3 = true then .int .i64 c else u158, if t 4 = true then .agg #[.int .i64 c, .int .i64 1] else u159, if t 5 = true then .slice (some ⟨G3, 0, none⟩) n n else u160, if t 6 = true then .int .i64 (j : Nat) else u161, if t 7 = true then .pointer (some ⟨G3, j * 2, none⟩) else u162, if t 8 = true then .agg #[.int .i64 y0, .int .i64 y1] else u163, if t 9 = true then .agg #[.int .i64 v0, .int .i64 v1] else u164, u165, u166, u167, u168, undef, undef, undef, undef, undef, undef, undef, undef, undef, undef, undef, undef, undef], defers := [] } ∧ Fv1 wibbe 10 11 v0 v1 t p10 W) mixed_ok (by kernel_rfl) ?_ ?_ ?_
            · intro t hs
              refine ⟨0, ?_, Fv1.start (hs 10 (by decide)) (hs 11 (by decide))⟩
              simp only [hs 0 (by decide), hs 1 (by decide), hs 2 (by decide), hs 3 (by decide), hs 4 (by decide), hs 5 (by decide), hs 6 (by decide), hs 7 (by decide), hs 8 (by decide), hs 9 (by decide), hs 10 (by decide), hs 11 (by decide), Bool.false_eq_true, if_false]
            · refine ⟨?_, ?_, ?_, ?_, ?_, ?_, ?_, ?_, ?_, ?_, ?_, ?_, trivial⟩
              · rintro t act W hun hdep hbeh ⟨p10, rfl, hT⟩
                (try simp only [Nat.reduceAdd] at hun)
                refine .inl ⟨by rfl, Inv.comesV_val (.slice (some ⟨gz, oz, none⟩) n cap) W (by (go_simp; try rfl)) ⟨p10, by (simp only [Act.put, List.setIfInBounds_toArray, List.set_cons_succ, List.set_cons_zero, Manyd.upd, Nat.reduceAdd, Nat.reduceBEq, Bool.or_false, Bool.or_true, if_true]), Fv1.keep (i := 0) (by decide) (by decide) hT⟩⟩
              · rintro t act W hun hdep hbeh ⟨p10, rfl, hT⟩
                (try simp only [Nat.reduceAdd] at hun)
                refine .inl ⟨by rfl, Inv.comesV_val (.int .i64 (j : Nat)) W (by (go_simp; try rfl)) ⟨p10, by (simp only [Act.put, List.setIfInBounds_toArray, List.set_cons_succ, List.set_cons_zero, Manyd.upd, Nat.reduceAdd, Nat.reduceBEq, Bool.or_false, Bool.or_true, if_true]), Fv1.keep (i := 1) (by decide) (by decide) hT⟩⟩
              · rintro t act W hun hdep hbeh ⟨p10, rfl, hT⟩
                (try simp only [Nat.reduceAdd] at hun)
                have h0 : t 0 = true := Inv.depB_mem 0 hdep (by rfl)
                have h1 : t 1 = true := Inv.depB_mem 1 hdep (by rfl)
                refine .inl ⟨by rfl, Inv.comesV_val (.pointer (some ⟨gz, oz + j, none⟩)) W (by (simp only [h0, h1, if_true, Bool.false_eq_true, if_false]; go_simp; try rfl)) ⟨p10, by (simp only [Act.put, List.setIfInBounds_toArray, List.set_cons_succ, List.set_cons_zero, Manyd.upd, Nat.reduceAdd, Nat.reduceBEq, Bool.or_false, Bool.or_true, if_true]), Fv1.keep (i := 2) (by decide) (by decide) hT⟩⟩
              · rintro t act W hun hdep hbeh ⟨p10, rfl, hT⟩
                (try simp only [Nat.reduceAdd] at hun)
                have h2 : t 2 = true := Inv.depB_mem 2 hdep (by rfl)
                have c0 := hzj _ (hQ.bw.trans (hT.bw.mono hQ.size))
                refine .inl ⟨by rfl, Inv.comesV_val (.int .i64 c) W (by (simp only [h2, if_true, Bool.false_eq_true, if_false]; go_simp; try rfl)) ⟨p10, by (simp only [Act.put, List.setIfInBounds_toArray, List.set_cons_succ, List.set_cons_zero, Manyd.upd, Nat.reduceAdd, Nat.reduceBEq, Bool.or_false, Bool.or_true, if_true]), Fv1.keep (i := 3) (by decide) (by decide) hT⟩⟩
              · rintro t act W hun hdep hbeh ⟨p10, rfl, hT⟩
                (try simp only [Nat.reduceAdd] at hun)
                have h3 : t 3 = true := Inv.depB_mem 3 hdep (by rfl)
                refine .inl ⟨by rfl, Inv.comesV_call 29 #[.int .i64 c] W (by (simp only [h3, if_true, Bool.false_eq_true, if_false]; go_simp; try rfl)) ((q29 W).mono fun e w5 hw5 => ⟨_, hw5.1, p10, by (simp only [Act.put, List.setIfInBounds_toArray, List.set_cons_succ, List.set_cons_zero, Manyd.upd, Nat.reduceAdd, Nat.reduceBEq, Bool.or_false, Bool.or_true, if_true]), Fv1.keep (i := 4) (by decide) (by decide) (hT.after hw5.2)⟩)⟩
              · rintro t act W hun hdep hbeh ⟨p10, rfl, hT⟩
                (try simp only [Nat.reduceAdd] at hun)
                refine .inl ⟨by rfl, Inv.comesV_val (.slice (some ⟨G3, 0, none⟩) n n) W (by (go_simp; try rfl)) ⟨p10, by (simp only [Act.put, List.setIfInBounds_toArray, List.set_cons_succ, List.set_cons_zero, Manyd.upd, Nat.reduceAdd, Nat.reduceBEq, Bool.or_false, Bool.or_true, if_true]), Fv1.keep (i := 5) (by decide) (by decide) hT⟩⟩
              · rintro t act W hun hdep hbeh ⟨p10, rfl, hT⟩
                (try simp only [Nat.reduceAdd] at hun)
                refine .inl ⟨by rfl, Inv.comesV_val (.int .i64 (j : Nat)) W (by (go_simp; try rfl)) ⟨p10, by (simp only [Act.put, List.setIfInBounds_toArray, List.set_cons_succ, List.set_cons_zero, Manyd.upd, Nat.reduceAdd, Nat.reduceBEq, Bool.or_false, Bool.or_true, if_true]), Fv1.keep (i := 6) (by decide) (by decide) hT⟩⟩
              · rintro t act W hun hdep hbeh ⟨p10, rfl, hT⟩
                (try simp only [Nat.reduceAdd] at hun)
                have h5 : t 5 = true := Inv.depB_mem 5 hdep (by rfl)
                have h6 : t 6 = true := Inv.depB_mem 6 hdep (by rfl)
                refine .inl ⟨by rfl, Inv.comesV_val (.pointer (some ⟨G3, j * 2, none⟩)) W (by (simp only [h5, h6, if_true, Bool.false_eq_true, if_false]; go_simp; try rfl)) ⟨p10, by (simp only [Act.put, List.setIfInBounds_toArray, List.set_cons_succ, List.set_cons_zero, Manyd.upd, Nat.reduceAdd, Nat.reduceBEq, Bool.or_false, Bool.or_true, if_true]), Fv1.keep (i := 7) (by decide) (by decide) hT⟩⟩
              · rintro t act W hun hdep hbeh ⟨p10, rfl, hT⟩
                (try simp only [Nat.reduceAdd] at hun)
                have h7 : t 7 = true := Inv.depB_mem 7 hdep (by rfl)
                obtain ⟨c0, c1⟩ := hCj _ (hQ.bw.trans (hT.bw.mono hQ.size))
                refine .inl ⟨by rfl, Inv.comesV_val (.agg #[.int .i64 y0, .int .i64 y1]) W (by (simp only [h7, if_true, Bool.false_eq_true, if_false]; go_simp; try rfl)) ⟨p10, by (simp only [Act.put, List.setIfInBounds_toArray, List.set_cons_succ, List.set_cons_zero, Manyd.upd, Nat.reduceAdd, Nat.reduceBEq, Bool.or_false, Bool.or_true, if_true]), Fv1.keep (i := 8) (by decide) (by decide) hT⟩⟩
              · rintro t act W hun hdep hbeh ⟨p10, rfl, hT⟩
                (try simp only [Nat.reduceAdd] at hun)
                have h4 : t 4 = true := Inv.depB_mem 4 hdep (by rfl)
                have h8 : t 8 = true := Inv.depB_mem 8 hdep (by rfl)
                refine .inl ⟨by rfl, Inv.comesV_call 58 #[.agg #[.int .i64 c, .int .i64 1], .agg #[.int .i64 y0, .int .i64 y1]] W (by (simp only [h4, h8, if_true, Bool.false_eq_true, if_false]; go_simp; try rfl)) ((qc W).mono fun e w5 hw5 => ⟨_, hw5.1, p10, by (simp only [Act.put, List.setIfInBounds_toArray, List.set_cons_succ, List.set_cons_zero, Manyd.upd, Nat.reduceAdd, Nat.reduceBEq, Bool.or_false, Bool.or_true, if_true]), Fv1.keep (i := 9) (by decide) (by decide) (hT.after hw5.2)⟩)⟩
              · rintro t act W hun hdep hbeh ⟨p10, rfl, hT⟩
                (try simp only [Nat.reduceAdd] at hun)
                refine .inl ⟨by rfl, Inv.comesV_val (.pointer (some ⟨W.heap.size, 0, none⟩)) (W.alloc (.cells #[.int .i64 0, .int .i64 0] 37)) (by (go_simp; try rfl)) ⟨W.heap.size, by (simp only [Act.put, List.setIfInBounds_toArray, List.set_cons_succ, List.set_cons_zero, Manyd.upd, Nat.reduceAdd, Nat.reduceBEq, Bool.or_false, Bool.or_true, if_true]), hT.alloc7 (by decide) hun⟩⟩
              · rintro t act W hun hdep hbeh ⟨p10, rfl, hT⟩
                (try simp only [Nat.reduceAdd] at hun)
                have h10 : t 10 = true := Inv.depB_mem 10 hdep (by rfl)
                have h9 : t 9 = true := Inv.depB_mem 9 hdep (by rfl)
                obtain ⟨c0, c1, f0, f1⟩ := hT.own7 h10 hun
                refine .inl ⟨by rfl, Inv.comesV_skip ((W.setCell ⟨p10, 0, none⟩ (.int .i64 v0)).setCell ⟨p10, 1, none⟩ (.int .i64 v1)) (by (simp only [h10, h9, if_true, Bool.false_eq_true, if_false]; go_simp; try rfl)) ⟨p10, by (simp only [Act.put, List.setIfInBounds_toArray, List.set_cons_succ, List.set_cons_zero, Manyd.upd, Nat.reduceAdd, Nat.reduceBEq, Bool.or_false, Bool.or_true, if_true]), hT.set7 (by decide) h10 hun⟩⟩
            rintro t a' wibbec hs ⟨p10, rfl, hT⟩
            simp only [hs 0 (by decide), hs 1 (by decide), hs 2 (by decide), hs 3 (by decide), hs 4 (by decide), hs 5 (by decide), hs 6 (by decide), hs 7 (by decide), hs 8 (by decide), hs 9 (by decide), hs 10 (by decide), hs 11 (by decide), if_true]
            obtain ⟨hg9, b9⟩ := hT.a7 (hs 10 (by decide))
            rw [if_pos (hs 11 (by decide))] at b9
            have o9 := Own2.of b9
            have hQ := hQ.after hT.bw
            have ov : Own2 wibbec r8 (.int .i64 m0) (.int .i64 m1) := Own2.of hQ.s
            clear hT hs b9 hg9
            by_cases h4 : fm < fm'
            · rw [decide_eq_true h4] at q53m
              obtain ⟨c90, c91, f90, f91⟩ := o9
              obtain ⟨c50, c51, f50, f51⟩ := ov
              go_wp2_with (go_at_call 53; (with_reducible refine (q53m _).mono ?_); rintro e wibbed ⟨rfl, hbe⟩
                           have hQ := hQ.after hbe
                           obtain ⟨d90, d91, g90, g91⟩ := (⟨c90, c91, f90, f91⟩ : Own2 wibbec p10 (.int .i64 v0) (.int .i64 v1)).after hbe
                           obtain ⟨d50, d51, g50, g51⟩ := (⟨c50, c51, f50, f51⟩ : Own2 wibbec r8 (.int .i64 m0) (.int .i64 m1)).after hbe
                           clear hbe q53m c90 c91 f90 f91 c50 c51 f50 f51)
              clear d90 d91 g90 g91 d50 d51 g50 g51
              have hQ := hQ.setS hN v0 v1
              generalize (wibbed.setCell ⟨r8, 0, none⟩ (.int .i64 v0)).setCell ⟨r8, 1, none⟩ (.int .i64 v1) = wibbee at hQ ⊢
              exact ⟨fin _ _ _ _ _ hQ ⟨.inl ⟨rfl, by omega⟩⟩ ⟨.inl ⟨rfl, by omega⟩⟩ ⟨.inl ⟨rfl, by omega⟩⟩ ⟨.inr ⟨rfl, by omega⟩⟩, by simp [intOf]; omega⟩
            · rw [decide_eq_false h4] at q53m
              obtain ⟨c90, c91, f90, f91⟩ := o9
              obtain ⟨c50, c51, f50, f51⟩ := ov
              go_wp2_with (go_at_call 53; (with_reducible refine (q53m _).mono ?_); rintro e wibbed ⟨rfl, hbe⟩
                           have hQ := hQ.after hbe
                           obtain ⟨d90, d91, g90, g91⟩ := (⟨c90, c91, f90, f91⟩ : Own2 wibbec p10 (.int .i64 v0) (.int .i64 v1)).after hbe
                           obtain ⟨d50, d51, g50, g51⟩ := (⟨c50, c51, f50, f51⟩ : Own2 wibbec r8 (.int .i64 m0) (.int .i64 m1)).after hbe
                           clear hbe q53m c90 c91 f90 f91 c50 c51 f50 f51)
              clear d90 d91 g90 g91 d50 d51 g50 g51
              obtain ⟨wibbee, rfl⟩ : ∃ x, x = wibbed := ⟨_, rfl⟩
              exact ⟨fin _ _ _ _ _ hQ ⟨.inl ⟨rfl, by omega⟩⟩ ⟨.inl ⟨rfl, by omega⟩⟩ ⟨.inl ⟨rfl, by omega⟩⟩ ⟨.inl ⟨rfl, by omega⟩⟩, by simp [intOf]; omega⟩
    · obtain rfl : n = j := by omega
      have hQ2 := hQ
      unfold rp at hQ2
      have o1 := Own2.of hQ2.p
      have o2 := Own2.of hQ2.q
      have o3 := Own2.of hQ2.r
      have o4 := Own2.of hQ2.s
      simp only at o1 o2 o3 o4
      obtain ⟨⟨l1, l2, l3, l4⟩⟩ := hLL
      have ee1 : ¬ fa ka * D3 < fc ko * D1 := by
        obtain ⟨z, hz, h⟩ := hSm.out ka l1.mem
        rw [← hn.out] at l2
        have h2 := l2.all z hz
        have := Int.mul_le_mul_of_nonneg_right h2 (show 0 ≤ D1 by have := (bA.out ka l1.mem).q1; omega)
        omega
      have ee2 : ¬ (km * D3 - fc km) * D2 < (kl * D2 - fb kl) * D3 := by
        obtain ⟨z, hz, h⟩ := hLo.out kl l3.mem
        rw [← hn.out] at l4
        have h2 : -(km * D3 - fc km) ≤ -(z * D3 - fc z) := l4.all z hz
        have := Int.mul_le_mul_of_nonneg_right (show z * D3 - fc z ≤ km * D3 - fc km by omega) (show 0 ≤ D2 by have := (bL.out kl l3.mem).q1; omega)
        omega
      have q1 := fun w => refLess_red (bA.out ka l1.mem) (bC.out ko l2.mem) w
      have q2 := fun w => refLess_red (bM.out km l4.mem) (bL.out kl l3.mem) w
      rw [decide_eq_false ee1] at q1
      rw [decide_eq_false ee2] at q2
      unfold redV fracV at q1 q2
      generalize redN (fa ka) D1 = s0 at *
      generalize redD (fa ka) D1 = s1 at *
      generalize redN (fc ko) D3 = o0' at *
      generalize redD (fc ko) D3 = o1' at *
      generalize redN (kl * D2 - fb kl) D2 = l0' at *
      generalize redD (kl * D2 - fb kl) D2 = l1' at *
      generalize redN (km * D3 - fc km) D3 = m0' at *
      generalize redD (km * D3 - fc km) D3 = m1' at *
      have hbw := hQ.bw
      obtain ⟨c10, c11, f10, f11⟩ := o1
      obtain ⟨c20, c21, f20, f21⟩ := o2
      have hszE := hQ.size
      clear ee1 ee2 hQ hQ2
      go_wp2_with (first
        | (go_at_call 53; (with_reducible refine (q1 _).mono ?_); rintro e w20 ⟨rfl, hb20⟩
           obtain ⟨c30, c31, f30, f31⟩ := o3.after hb20
           obtain ⟨c40, c41, f40, f41⟩ := o4.after hb20
           have hbw20 := hbw.trans (hb20.mono hszE)
           have hsz20 := Nat.le_trans hszE hb20.size
           clear hb20 q1)
        | (go_at_call 53; (with_reducible refine (q2 _).mono ?_); rintro e w21 ⟨rfl, hb21⟩
           have hbw21 := hbw20.trans (hb21.mono hsz20)
           have hsz21 := Nat.le_trans hsz20 hb21.size
           clear hb21 q2)
        | (go_at_call 25; refine (awake_any _).mono ?_; rintro e w22 ⟨rfl, hb22⟩))
      go_ret
      have hb9 := hw11.out
      exact ⟨rfl, hb9.trans ((hbw21.trans (hb22.mono hsz21)).mono hb9.size)⟩
end Go.Proofs.Ytbocmbhinjkjlaa
