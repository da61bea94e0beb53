/- Two shares and the contested garment: agree of the program. -/
import Derived.Test.YtbocmbhinjkjlaaDivides
set_option linter.unusedSimpArgs false
set_option linter.unusedVariables false
namespace Go.Proofs.Ytbocmbhinjkjlaa
open Go Go.Proofs Go.RowKit Go.Seq
structure GbI (W0 : World) (m0 m1 o0 o1 : Int) (t : Nat → Bool) (p7 p8 : Nat) (W : World) : Prop where
  bw : Below W0.heap.size W0 W
  a7 : t 8 = true → W0.heap.size ≤ p7 ∧ BlkAt W p7 (if t 10 = true then #[.int .i64 m0, .int .i64 m1] else #[.int .i64 0, .int .i64 0]) 37
  a8 : t 9 = true → W0.heap.size ≤ p8 ∧ BlkAt W p8 (if t 11 = true then #[.int .i64 o0, .int .i64 o1] else #[.int .i64 0, .int .i64 0]) 37
  ne : t 8 = true → t 9 = true → p7 ≠ p8
  d8 : t 10 = true → t 8 = true
  d9 : t 11 = true → t 9 = true
section
variable {W0 W W' : World} {m0 m1 o0 o1 : Int} {t : Nat → Bool} {p7 p8 : Nat}
theorem GbI.keep {i : Nat} (h6 : (i == 8) = false) (h7 : (i == 9) = false) (h8 : (i == 10) = false) (h9 : (i == 11) = false) (h : GbI W0 m0 m1 o0 o1 t p7 p8 W) : GbI W0 m0 m1 o0 o1 (Manyd.upd t i) p7 p8 W :=
  ⟨h.bw, by rw [upd_ne h6, upd_ne h8]; exact h.a7, by rw [upd_ne h7, upd_ne h9]; exact h.a8, by rw [upd_ne h6, upd_ne h7]; exact h.ne, by rw [upd_ne h8, upd_ne h6]; exact h.d8, by rw [upd_ne h9, upd_ne h7]; exact h.d9⟩
theorem GbI.after (h : GbI W0 m0 m1 o0 o1 t p7 p8 W) (hb : Below W.heap.size W W') : GbI W0 m0 m1 o0 o1 t p7 p8 W' :=
  ⟨h.bw.trans (hb.mono h.bw.size), fun k => ⟨(h.a7 k).1, (h.a7 k).2.after hb⟩, fun k => ⟨(h.a8 k).1, (h.a8 k).2.after hb⟩, h.ne, h.d8, h.d9⟩
theorem GbI.alloc7 (h : GbI W0 m0 m1 o0 o1 t p7 p8 W) (hun : t 8 = false) : GbI W0 m0 m1 o0 o1 (Manyd.upd t 8) W.heap.size p8 (W.alloc (.cells #[.int .i64 0, .int .i64 0] 37)) := by
  have n8 : t 10 = false := by
    cases e : t 10 with
    | false => rfl
    | true => rw [h.d8 e] at hun; cases hun
  have h' := h.after ((Below.refl _ _).alloc (Nat.le_refl _) (.cells #[.int .i64 0, .int .i64 0] 37))
  refine ⟨h'.bw, fun _ => ⟨h.bw.size, ?_⟩, ?_, ?_, ?_, ?_⟩
  · rw [upd_ne (by decide), n8]; exact BlkAt.new _ _ _
  · rw [upd_ne (by decide), upd_ne (by decide)]; exact h'.a8
  · rw [upd_ne (t := t) (i := 8) (j := 9) (by decide)]
    intro _ k e
    have := (h.a8 k).2.lt
    omega
  · rw [upd_ne (by decide), n8]; intro e; cases e
  · rw [upd_ne (by decide), upd_ne (by decide)]; exact h.d9
theorem GbI.alloc8 (h : GbI W0 m0 m1 o0 o1 t p7 p8 W) (hun : t 9 = false) : GbI W0 m0 m1 o0 o1 (Manyd.upd t 9) p7 W.heap.size (W.alloc (.cells #[.int .i64 0, .int .i64 0] 37)) := by
  have n9 : t 11 = false := by
    cases e : t 11 with
    | false => rfl
    | true => rw [h.d9 e] at hun; cases hun
  have h' := h.after ((Below.refl _ _).alloc (Nat.le_refl _) (.cells #[.int .i64 0, .int .i64 0] 37))
  refine ⟨h'.bw, ?_, fun _ => ⟨h.bw.size, ?_⟩, ?_, ?_, ?_⟩
  · rw [upd_ne (by decide), upd_ne (by decide)]; exact h'.a7
  · rw [upd_ne (by decide), n9]; exact BlkAt.new _ _ _
  · rw [upd_ne (t := t) (i := 9) (j := 8) (by decide)]
    intro k _ e
    have := (h.a7 k).2.lt
    omega
  · rw [upd_ne (by decide), upd_ne (by decide)]; exact h.d8
  · rw [upd_ne (by decide), n9]; intro e; cases e
theorem GbI.own7 (h : GbI W0 m0 m1 o0 o1 t p7 p8 W) (k : t 8 = true) (hun : t 10 = false) : Own2 W p7 (.int .i64 0) (.int .i64 0) := by
  have := (h.a7 k).2
  rw [hun] at this
  exact Own2.of this
theorem GbI.own8 (h : GbI W0 m0 m1 o0 o1 t p7 p8 W) (k : t 9 = true) (hun : t 11 = false) : Own2 W p8 (.int .i64 0) (.int .i64 0) := by
  have := (h.a8 k).2
  rw [hun] at this
  exact Own2.of this
theorem GbI.set7 (h : GbI W0 m0 m1 o0 o1 t p7 p8 W) (k : t 8 = true) (hun : t 10 = false) : GbI W0 m0 m1 o0 o1 (Manyd.upd t 10) p7 p8 ((W.setCell ⟨p7, 0, none⟩ (.int .i64 m0)).setCell ⟨p7, 1, none⟩ (.int .i64 m1)) := by
  obtain ⟨g7, b7⟩ := h.a7 k
  rw [hun] at b7
  refine ⟨(h.bw.setCell (p := ⟨p7, 0, none⟩) g7 _).setCell (p := ⟨p7, 1, none⟩) g7 _, fun _ => ⟨g7, ?_⟩, ?_, ?_, fun _ => ?_, ?_⟩
  · rw [if_pos (by simp [Manyd.upd])]; exact (b7.set 0 _).set 1 _
  · rw [upd_ne (by decide), upd_ne (by decide)]
    intro k8
    have hne := h.ne k k8
    exact ⟨(h.a8 k8).1, ((h.a8 k8).2.other (p := ⟨p7, 0, none⟩) (by exact fun e => hne e.symm) _).other (p := ⟨p7, 1, none⟩) (by exact fun e => hne e.symm) _⟩
  · rw [upd_ne (by decide), upd_ne (by decide)]; exact h.ne
  · rw [upd_ne (by decide)]; exact k
  · rw [upd_ne (by decide), upd_ne (by decide)]; exact h.d9
theorem GbI.set8 (h : GbI W0 m0 m1 o0 o1 t p7 p8 W) (k : t 9 = true) (hun : t 11 = false) : GbI W0 m0 m1 o0 o1 (Manyd.upd t 11) p7 p8 ((W.setCell ⟨p8, 0, none⟩ (.int .i64 o0)).setCell ⟨p8, 1, none⟩ (.int .i64 o1)) := by
  obtain ⟨g8, b8⟩ := h.a8 k
  rw [hun] at b8
  refine ⟨(h.bw.setCell (p := ⟨p8, 0, none⟩) g8 _).setCell (p := ⟨p8, 1, none⟩) g8 _, ?_, fun _ => ⟨g8, ?_⟩, ?_, ?_, fun _ => ?_⟩
  · rw [upd_ne (by decide), upd_ne (by decide)]
    intro k7
    have hne := h.ne k7 k
    exact ⟨(h.a7 k7).1, ((h.a7 k7).2.other (p := ⟨p8, 0, none⟩) (by exact hne) _).other (p := ⟨p8, 1, none⟩) (by exact hne) _⟩
  · rw [if_pos (by simp [Manyd.upd])]; exact (b8.set 0 _).set 1 _
  · rw [upd_ne (by decide), upd_ne (by decide)]; exact h.ne
  · rw [upd_ne (by decide), upd_ne (by decide)]; exact h.d8
  · rw [upd_ne (by decide)]; exact k
end
structure GcI (W0 : World) (m0 m1 o0 o1 : Int) (t : Nat → Bool) (p7 p8 : Nat) (W : World) : Prop where
  bw : Below W0.heap.size W0 W
  a7 : t 34 = true → W0.heap.size ≤ p7 ∧ BlkAt W p7 (if t 36 = true then #[.int .i64 m0, .int .i64 m1] else #[.int .i64 0, .int .i64 0]) 37
  a8 : t 35 = true → W0.heap.size ≤ p8 ∧ BlkAt W p8 (if t 37 = true then #[.int .i64 o0, .int .i64 o1] else #[.int .i64 0, .int .i64 0]) 37
  ne : t 34 = true → t 35 = true → p7 ≠ p8
  d8 : t 36 = true → t 34 = true
  d9 : t 37 = true → t 35 = true
section
variable {W0 W W' : World} {m0 m1 o0 o1 : Int} {t : Nat → Bool} {p7 p8 : Nat}
theorem GcI.keep {i : Nat} (h6 : (i == 34) = false) (h7 : (i == 35) = false) (h8 : (i == 36) = false) (h9 : (i == 37) = false) (h : GcI W0 m0 m1 o0 o1 t p7 p8 W) : GcI W0 m0 m1 o0 o1 (Manyd.upd t i) p7 p8 W :=
  ⟨h.bw, by rw [upd_ne h6, upd_ne h8]; exact h.a7, by rw [upd_ne h7, upd_ne h9]; exact h.a8, by rw [upd_ne h6, upd_ne h7]; exact h.ne, by rw [upd_ne h8, upd_ne h6]; exact h.d8, by rw [upd_ne h9, upd_ne h7]; exact h.d9⟩
theorem GcI.after (h : GcI W0 m0 m1 o0 o1 t p7 p8 W) (hb : Below W.heap.size W W') : GcI W0 m0 m1 o0 o1 t p7 p8 W' :=
  ⟨h.bw.trans (hb.mono h.bw.size), fun k => ⟨(h.a7 k).1, (h.a7 k).2.after hb⟩, fun k => ⟨(h.a8 k).1, (h.a8 k).2.after hb⟩, h.ne, h.d8, h.d9⟩
theorem GcI.alloc7 (h : GcI W0 m0 m1 o0 o1 t p7 p8 W) (hun : t 34 = false) : GcI W0 m0 m1 o0 o1 (Manyd.upd t 34) W.heap.size p8 (W.alloc (.cells #[.int .i64 0, .int .i64 0] 37)) := by
  have n8 : t 36 = false := by
    cases e : t 36 with
    | false => rfl
    | true => rw [h.d8 e] at hun; cases hun
  have h' := h.after ((Below.refl _ _).alloc (Nat.le_refl _) (.cells #[.int .i64 0, .int .i64 0] 37))
  refine ⟨h'.bw, fun _ => ⟨h.bw.size, ?_⟩, ?_, ?_, ?_, ?_⟩
  · rw [upd_ne (by decide), n8]; exact BlkAt.new _ _ _
  · rw [upd_ne (by decide), upd_ne (by decide)]; exact h'.a8
  · rw [upd_ne (t := t) (i := 34) (j := 35) (by decide)]
    intro _ k e
    have := (h.a8 k).2.lt
    omega
  · rw [upd_ne (by decide), n8]; intro e; cases e
  · rw [upd_ne (by decide), upd_ne (by decide)]; exact h.d9
theorem GcI.alloc8 (h : GcI W0 m0 m1 o0 o1 t p7 p8 W) (hun : t 35 = false) : GcI W0 m0 m1 o0 o1 (Manyd.upd t 35) p7 W.heap.size (W.alloc (.cells #[.int .i64 0, .int .i64 0] 37)) := by
  have n9 : t 37 = false := by
    cases e : t 37 with
    | false => rfl
    | true => rw [h.d9 e] at hun; cases hun
  have h' := h.after ((Below.refl _ _).alloc (Nat.le_refl _) (.cells #[.int .i64 0, .int .i64 0] 37))
  refine ⟨h'.bw, ?_, fun _ => ⟨h.bw.size, ?_⟩, ?_, ?_, ?_⟩
  · rw [upd_ne (by decide), upd_ne (by decide)]; exact h'.a7
  · rw [upd_ne (by decide), n9]; exact BlkAt.new _ _ _
  · rw [upd_ne (t := t) (i := 35) (j := 34) (by decide)]
    intro k _ e
    have := (h.a7 k).2.lt
    omega
  · rw [upd_ne (by decide), upd_ne (by decide)]; exact h.d8
  · rw [upd_ne (by decide), n9]; intro e; cases e
theorem GcI.own7 (h : GcI W0 m0 m1 o0 o1 t p7 p8 W) (k : t 34 = true) (hun : t 36 = false) : Own2 W p7 (.int .i64 0) (.int .i64 0) := by
  have := (h.a7 k).2
  rw [hun] at this
  exact Own2.of this
theorem GcI.own8 (h : GcI W0 m0 m1 o0 o1 t p7 p8 W) (k : t 35 = true) (hun : t 37 = false) : Own2 W p8 (.int .i64 0) (.int .i64 0) := by
  have := (h.a8 k).2
  rw [hun] at this
  exact Own2.of this
theorem GcI.set7 (h : GcI W0 m0 m1 o0 o1 t p7 p8 W) (k : t 34 = true) (hun : t 36 = false) : GcI W0 m0 m1 o0 o1 (Manyd.upd t 36) p7 p8 ((W.setCell ⟨p7, 0, none⟩ (.int .i64 m0)).setCell ⟨p7, 1, none⟩ (.int .i64 m1)) := by
  obtain ⟨g7, b7⟩ := h.a7 k
  rw [hun] at b7
  refine ⟨(h.bw.setCell (p := ⟨p7, 0, none⟩) g7 _).setCell (p := ⟨p7, 1, none⟩) g7 _, fun _ => ⟨g7, ?_⟩, ?_, ?_, fun _ => ?_, ?_⟩
  · rw [if_pos (by simp [Manyd.upd])]; exact (b7.set 0 _).set 1 _
  · rw [upd_ne (by decide), upd_ne (by decide)]
    intro k8
    have hne := h.ne k k8
    exact ⟨(h.a8 k8).1, ((h.a8 k8).2.other (p := ⟨p7, 0, none⟩) (by exact fun e => hne e.symm) _).other (p := ⟨p7, 1, none⟩) (by exact fun e => hne e.symm) _⟩
  · rw [upd_ne (by decide), upd_ne (by decide)]; exact h.ne
  · rw [upd_ne (by decide)]; exact k
  · rw [upd_ne (by decide), upd_ne (by decide)]; exact h.d9
theorem GcI.set8 (h : GcI W0 m0 m1 o0 o1 t p7 p8 W) (k : t 35 = true) (hun : t 37 = false) : GcI W0 m0 m1 o0 o1 (Manyd.upd t 37) p7 p8 ((W.setCell ⟨p8, 0, none⟩ (.int .i64 o0)).setCell ⟨p8, 1, none⟩ (.int .i64 o1)) := by
  obtain ⟨g8, b8⟩ := h.a8 k
  rw [hun] at b8
  refine ⟨(h.bw.setCell (p := ⟨p8, 0, none⟩) g8 _).setCell (p := ⟨p8, 1, none⟩) g8 _, ?_, fun _ => ⟨g8, ?_⟩, ?_, ?_, fun _ => ?_⟩
  · rw [upd_ne (by decide), upd_ne (by decide)]
    intro k7
    have hne := h.ne k7 k
    exact ⟨(h.a7 k7).1, ((h.a7 k7).2.other (p := ⟨p8, 0, none⟩) (by exact hne) _).other (p := ⟨p8, 1, none⟩) (by exact hne) _⟩
  · rw [if_pos (by simp [Manyd.upd])]; exact (b8.set 0 _).set 1 _
  · rw [upd_ne (by decide), upd_ne (by decide)]; exact h.ne
  · rw [upd_ne (by decide), upd_ne (by decide)]; exact h.d8
  · rw [upd_ne (by decide)]; exact k
end

/-- Whether two shares are those of the contested garment. -/
def agr (c e : Int) (f g : Int × Int) : Bool := decide (redN (conX (f.1 * g.2 + g.1 * f.2) (c * (f.2 * g.2)) (e * (f.2 * g.2))) (2 * (f.2 * g.2)) = f.1 ∧ redD (conX (f.1 * g.2 + g.1 * f.2) (c * (f.2 * g.2)) (e * (f.2 * g.2))) (2 * (f.2 * g.2)) = f.2)
theorem conX_sum (E a b : Int) : conX E a b + conX E b a = 2 * E := by unfold conX; omega
theorem agr_other {c e : Int} {f g : Int × Int} (hf : 1 ≤ f.2) (hg : 1 ≤ g.2 ∧ Int.gcd g.1 g.2 = 1) (h : agr c e f g = true) :
    redN (conX (f.1 * g.2 + g.1 * f.2) (e * (f.2 * g.2)) (c * (f.2 * g.2))) (2 * (f.2 * g.2)) = g.1 ∧ redD (conX (f.1 * g.2 + g.1 * f.2) (e * (f.2 * g.2)) (c * (f.2 * g.2))) (2 * (f.2 * g.2)) = g.2 := by
  obtain ⟨h1, h2⟩ := of_decide_eq_true h
  obtain ⟨n, d⟩ := f
  obtain ⟨m, q⟩ := g
  simp only at *
  have hs := conX_sum (n * q + m * d) (c * (d * q)) (e * (d * q))
  generalize conX (n * q + m * d) (c * (d * q)) (e * (d * q)) = X at *
  generalize conX (n * q + m * d) (e * (d * q)) (c * (d * q)) = Y at *
  have hu := mul_pos1 hf hg.1
  obtain ⟨k, k1, p1, p2, p3, p4⟩ := red_parts X (b := 2 * (d * q)) (by omega)
  rw [h1] at p1
  rw [h2] at p2
  -- X = n k, 2 d q = d k: k = 2 q
  have hk : k = 2 * q := by
    have : d * k = d * (2 * q) := by rw [p2]; ac_rfl
    exact Int.eq_of_mul_eq_mul_left (by omega) this
  subst hk
  have hY : Y = m * (2 * d) := by
    have e1 : n * (2 * q) = 2 * (n * q) := by ac_rfl
    have e2 : m * (2 * d) = 2 * (m * d) := by ac_rfl
    omega
  have hr := red_self hg.1 hg.2
  have := red_same (a := Y) (b := 2 * (d * q)) (c := m) (d := q) (by omega) hg.1 (by rw [hY]; ac_rfl)
  rw [this.1, this.2]
  exact hr
structure AgB (n d m q c e : Int) : Prop where
  d1 : 1 ≤ d ∧ d ≤ 20
  q1 : 1 ≤ q ∧ q ≤ 20
  n1 : 0 ≤ n ∧ n ≤ 20000
  m1 : 0 ≤ m ∧ m ≤ 20000
  c1 : 0 ≤ c ∧ c ≤ 1000
  e1 : 0 ≤ e ∧ e ≤ 1000
theorem mul_in {a b A B : Int} (h1 : 0 ≤ a) (h2 : a ≤ A) (h3 : 0 ≤ b) (h4 : b ≤ B) : 0 ≤ a * b ∧ a * b ≤ A * B := ⟨Int.mul_nonneg h1 h3, by
  have x1 : a * b ≤ A * b := Int.mul_le_mul_of_nonneg_right h2 h3
  have x2 : A * b ≤ A * B := Int.mul_le_mul_of_nonneg_left h4 (by omega)
  omega⟩
set_option maxHeartbeats 16000000 in
set_option maxRecDepth 100000 in
theorem agree_any {H i j : Nat} {sl v E0 S0 : Value} {zs : List Int} {l : Pts} {w : World} (hg : Own3 w H sl E0 S0) (hc : IntsO w sl zs) (hv : FracsO w v l) (hi : i < l.length) (hj : j < l.length) (hlz : l.length = zs.length) (hl : l.length ≤ 1000)
    (hok : ∀ k, k < l.length → okA (zs.getD k 0) (l.getD k (0, 0)) = true) (hzb : ∀ z ∈ zs, 0 ≤ z ∧ z ≤ 1000) :
    Calls Try.prog 71 #[.pointer (some ⟨H, 0, none⟩), v, .int .i64 i, .int .i64 j] w fun r w' => r = .returned (.bool (agr (zs.getD i 0) (zs.getD j 0) (l.getD i (0, 0)) (l.getD j (0, 0)))) ∧ Below w.heap.size w w' := by
  obtain ⟨D, hD⟩ : ∃ D, Keep (agr (zs.getD i 0) (zs.getD j 0) (l.getD i (0, 0)) (l.getD j (0, 0)) = D) := ⟨_, ⟨rfl⟩⟩
  rw [hD.out]
  obtain ⟨A, cap, rfl, hcell⟩ := hv
  obtain ⟨Z, cz, rfl, hzell⟩ := hc
  obtain ⟨ga, oa, rfl, hi1, hi2⟩ := hcell i hi
  obtain ⟨ga', oa', ea, hj1, hj2⟩ := hcell j hj
  obtain ⟨rfl, rfl⟩ : ga = ga' ∧ oa = oa' := by simpa using ea
  obtain ⟨gz, oz, rfl, hci⟩ := hzell i (by omega)
  obtain ⟨gz', oz', ez, hcj⟩ := hzell j (by omega)
  obtain ⟨rfl, rfl⟩ : gz = gz' ∧ oz = oz' := by simpa using ez
  clear ea ez
  have oi := hok i hi
  have oj := hok j hj
  have zi := hzb _ (getz (zs := zs) (k := i) (by omega))
  have zj := hzb _ (getz (zs := zs) (k := j) (by omega))
  have hlz' : (l.length : Int) = (zs.length : Int) := by omega
  have hiz : i < zs.length := by omega
  have hjz : j < zs.length := by omega
  generalize l.getD i (0, 0) = f at *
  generalize l.getD j (0, 0) = g at *
  generalize zs.getD i 0 = c at *
  generalize zs.getD j 0 = e at *
  clear hcell hzell hok hzb
  obtain ⟨n, d⟩ := f
  obtain ⟨m, q⟩ := g
  obtain ⟨d1, d2, n1, n2, _, _⟩ := okA_parts oi
  obtain ⟨q1, q2, m1, m2, gq, _⟩ := okA_parts oj
  simp only at *
  have hoth := Keep.mk (fun h => agr_other (c := c) (e := e) (f := (n, d)) (g := (m, q)) d1 ⟨q1, gq⟩ h)
  have hag : Keep (agr c e (n, d) (m, q) = decide (redN (conX (n * q + m * d) (c * (d * q)) (e * (d * q))) (2 * (d * q)) = n ∧ redD (conX (n * q + m * d) (c * (d * q)) (e * (d * q))) (2 * (d * q)) = d)) := ⟨rfl⟩
  have bU := mul_in (a := d) (b := q) (A := 20) (B := 20) (by omega) d2 (by omega) q2
  have bU1 := mul_pos1 d1 q1
  have bP1 := mul_in (a := n) (b := q) (A := 20000) (B := 20) n1 n2 (by omega) q2
  have bP2 := mul_in (a := m) (b := d) (A := 20000) (B := 20) m1 m2 (by omega) d2
  have bA := mul_in (a := c) (b := d * q) (A := 1000) (B := 400) zi.1 zi.2 bU.1 bU.2
  have bB := mul_in (a := e) (b := d * q) (A := 1000) (B := 400) zj.1 zj.2 bU.1 bU.2
  have qc := fun w => contested_any (E := n * q + m * d) (a := c * (d * q)) (b := e * (d * q)) (u := d * q) (by omega) (by omega) (by omega) (by omega) w
  simp only at hoth
  obtain ⟨U, hU⟩ : ∃ U, Keep (d * q = U) := ⟨_, ⟨rfl⟩⟩
  obtain ⟨P1, hP1⟩ : ∃ U, Keep (n * q = U) := ⟨_, ⟨rfl⟩⟩
  obtain ⟨P2, hP2⟩ : ∃ U, Keep (m * d = U) := ⟨_, ⟨rfl⟩⟩
  have w1 : IntKind.i64.wrap (d * q) = U := by rw [← hU.out]; exact IntWalk.i64_in _ (by omega)
  have w2 : IntKind.i64.wrap (n * q) = P1 := by rw [← hP1.out]; exact IntWalk.i64_in _ (by omega)
  have w3 : IntKind.i64.wrap (m * d) = P2 := by rw [← hP2.out]; exact IntWalk.i64_in _ (by omega)
  rw [hU.out] at bU bU1 bA bB qc hoth hag
  rw [hP1.out] at bP1 qc hoth hag
  rw [hP2.out] at bP2 qc hoth hag
  obtain ⟨E, hE⟩ : ∃ X, Keep (P1 + P2 = X) := ⟨_, ⟨rfl⟩⟩
  obtain ⟨a, ha⟩ : ∃ X, Keep (c * U = X) := ⟨_, ⟨rfl⟩⟩
  obtain ⟨b, hb⟩ : ∃ X, Keep (e * U = X) := ⟨_, ⟨rfl⟩⟩
  have w4 : IntKind.i64.wrap (P1 + P2) = E := by rw [← hE.out]; exact IntWalk.i64_in _ (by omega)
  have w5 : IntKind.i64.wrap (c * U) = a := by rw [← ha.out]; exact IntWalk.i64_in _ (by omega)
  have w6 : IntKind.i64.wrap (e * U) = b := by rw [← hb.out]; exact IntWalk.i64_in _ (by omega)
  rw [hE.out, ha.out, hb.out] at qc hoth hag
  obtain ⟨x0, hx0⟩ : ∃ x, Keep (redN (conX E a b) (2 * U) = x) := ⟨_, ⟨rfl⟩⟩
  obtain ⟨x1, hx1⟩ : ∃ x, Keep (redD (conX E a b) (2 * U) = x) := ⟨_, ⟨rfl⟩⟩
  obtain ⟨y0, hy0⟩ : ∃ x, Keep (redN (conX E b a) (2 * U) = x) := ⟨_, ⟨rfl⟩⟩
  obtain ⟨y1, hy1⟩ : ∃ x, Keep (redD (conX E b a) (2 * U) = x) := ⟨_, ⟨rfl⟩⟩
  rw [hx0.out, hx1.out, hy0.out, hy1.out] at qc
  rw [hy0.out, hy1.out] at hoth
  rw [hx0.out, hx1.out] at hag
  have hDx : Keep ((x0 = n ∧ x1 = d ∧ y0 = m ∧ y1 = q ∧ D = true) ∨ (¬ (x0 = n ∧ x1 = d) ∧ D = false)) := ⟨by
    by_cases h : x0 = n ∧ x1 = d
    · have e : agr c e (n, d) (m, q) = true := by rw [hag.out]; exact decide_eq_true h
      have e2 := hoth.out e
      exact .inl ⟨h.1, h.2, e2.1, e2.2, by rw [← hD.out, e]⟩
    · exact .inr ⟨h, by rw [← hD.out, hag.out]; exact decide_eq_false h⟩⟩
  clear hoth hag hx0 hx1 hy0 hy1 hE ha hb hP1 hP2 hU bU bU1 bA bB bP1 bP2 d1 d2 q1 q2 n1 n2 m1 m2 gq oi oj zi zj hD
  unfold fracV at qc
  go_enter Try.func71, Try.ntmps71
  go_wp2
  have hC0 : ∀ t : Nat → Bool, (∀ j, j < 12 → t j = false) → GbI w n d m q t 0 0 w.drew := fun t hs => ⟨(Below.refl _ _).drew, fun e => (by rw [hs 8 (by decide)] at e; cases e), fun e => (by rw [hs 9 (by decide)] at e; cases e), fun e => (by rw [hs 8 (by decide)] at e; cases e), fun e => (by rw [hs 10 (by decide)] at e; cases e), fun e => (by rw [hs 11 (by decide)] at e; cases e)⟩
  refine (wpIn_wide (n := 0)).1 ?_
  refine Inv.region_inv (fun t act W => ∃ p7, ∃ p8, act = { tmps := #[.pointer (some ⟨H, 0, none⟩), .slice (some ⟨ga, oa, none⟩) l.length cap, .int .i64 i, .int .i64 j, undef, undef, undef, undef, .bool false, if t 8 = true then .pointer (some ⟨p7, 0, none⟩) else undef, if t 9 = true then .pointer (some ⟨p8, 0, none⟩) else undef, undef, undef, undef, if t 0 = true then .slice (some ⟨ga, oa, none⟩) l.length cap else undef, if t 1 = true then .int .i64 i else undef, if t 2 = true then .pointer (some ⟨ga, oa + i * 2, none⟩) else undef, if t 3 = true then .agg #[.int .i64 n, .int .i64 d] else undef, if t 4 = true then .slice (some ⟨ga, oa, none⟩) l.length cap else undef, if t 5 = true then .int .i64 j else undef, if t 6 = true then .pointer (some ⟨ga, oa + j * 2, none⟩) else undef, if t 7 = true then .agg #[.int .i64 m, .int .i64 q] else undef, undef, undef, undef, undef, undef, undef, undef, undef, undef, undef, undef, undef, undef, undef, undef, undef, undef, undef, undef, undef, undef, undef, undef, undef, undef, undef, undef, undef, undef, undef, undef, undef, undef, undef, undef, undef, undef, undef, undef, undef, undef, undef, undef, undef, undef, undef, undef], defers := [] } ∧ GbI w n d m q t p7 p8 W) mixed_ok (by kernel_rfl) ?_ ?_ ?_
  · intro t hs
    refine ⟨0, 0, ?_, hC0 t (fun j hj => hs j hj)⟩
    simp only [hs 0 (by decide), hs 1 (by decide), hs 2 (by decide), hs 3 (by decide), hs 4 (by decide), hs 5 (by decide), hs 6 (by decide), hs 7 (by decide), hs 8 (by decide), hs 9 (by decide), hs 10 (by decide), hs 11 (by decide), Bool.false_eq_true, if_false]
  · refine ⟨?_, ?_, ?_, ?_, ?_, ?_, ?_, ?_, ?_, ?_, ?_, ?_, trivial⟩
    · rintro t act W hun hdep hbeh ⟨p7, p8, rfl, hT⟩
      (try simp only [Nat.reduceAdd] at hun)
      refine .inl ⟨by rfl, Inv.comesV_val (.slice (some ⟨ga, oa, none⟩) l.length cap) W (by (go_simp; try rfl)) ⟨p7, p8, by (simp only [Act.put, List.setIfInBounds_toArray, List.set_cons_succ, List.set_cons_zero, Manyd.upd, Nat.reduceAdd, Nat.reduceBEq, Bool.or_false, Bool.or_true, if_true]), GbI.keep (i := 0) (by decide) (by decide) (by decide) (by decide) hT⟩⟩
    · rintro t act W hun hdep hbeh ⟨p7, p8, rfl, hT⟩
      (try simp only [Nat.reduceAdd] at hun)
      refine .inl ⟨by rfl, Inv.comesV_val (.int .i64 i) W (by (go_simp; try rfl)) ⟨p7, p8, by (simp only [Act.put, List.setIfInBounds_toArray, List.set_cons_succ, List.set_cons_zero, Manyd.upd, Nat.reduceAdd, Nat.reduceBEq, Bool.or_false, Bool.or_true, if_true]), GbI.keep (i := 1) (by decide) (by decide) (by decide) (by decide) hT⟩⟩
    · rintro t act W hun hdep hbeh ⟨p7, p8, rfl, hT⟩
      (try simp only [Nat.reduceAdd] at hun)
      have h0 : t 0 = true := Inv.depB_mem 0 hdep (by rfl)
      have h1 : t 1 = true := Inv.depB_mem 1 hdep (by rfl)
      refine .inl ⟨by rfl, Inv.comesV_val (.pointer (some ⟨ga, oa + i * 2, none⟩)) W (by (simp only [h0, h1, if_true]; go_simp; try rfl)) ⟨p7, p8, by (simp only [Act.put, List.setIfInBounds_toArray, List.set_cons_succ, List.set_cons_zero, Manyd.upd, Nat.reduceAdd, Nat.reduceBEq, Bool.or_false, Bool.or_true, if_true]), GbI.keep (i := 2) (by decide) (by decide) (by decide) (by decide) hT⟩⟩
    · rintro t act W hun hdep hbeh ⟨p7, p8, rfl, hT⟩
      (try simp only [Nat.reduceAdd] at hun)
      have h2 : t 2 = true := Inv.depB_mem 2 hdep (by rfl)
      have c0 := cell_below hi1 hT.bw
      have c1 := cell_below hi2 hT.bw
      refine .inl ⟨by rfl, Inv.comesV_val (.agg #[.int .i64 n, .int .i64 d]) W (by (simp only [h2, if_true]; go_simp; try rfl)) ⟨p7, p8, by (simp only [Act.put, List.setIfInBounds_toArray, List.set_cons_succ, List.set_cons_zero, Manyd.upd, Nat.reduceAdd, Nat.reduceBEq, Bool.or_false, Bool.or_true, if_true]), GbI.keep (i := 3) (by decide) (by decide) (by decide) (by decide) hT⟩⟩
    · rintro t act W hun hdep hbeh ⟨p7, p8, rfl, hT⟩
      (try simp only [Nat.reduceAdd] at hun)
      refine .inl ⟨by rfl, Inv.comesV_val (.slice (some ⟨ga, oa, none⟩) l.length cap) W (by (go_simp; try rfl)) ⟨p7, p8, by (simp only [Act.put, List.setIfInBounds_toArray, List.set_cons_succ, List.set_cons_zero, Manyd.upd, Nat.reduceAdd, Nat.reduceBEq, Bool.or_false, Bool.or_true, if_true]), GbI.keep (i := 4) (by decide) (by decide) (by decide) (by decide) hT⟩⟩
    · rintro t act W hun hdep hbeh ⟨p7, p8, rfl, hT⟩
      (try simp only [Nat.reduceAdd] at hun)
      refine .inl ⟨by rfl, Inv.comesV_val (.int .i64 j) W (by (go_simp; try rfl)) ⟨p7, p8, by (simp only [Act.put, List.setIfInBounds_toArray, List.set_cons_succ, List.set_cons_zero, Manyd.upd, Nat.reduceAdd, Nat.reduceBEq, Bool.or_false, Bool.or_true, if_true]), GbI.keep (i := 5) (by decide) (by decide) (by decide) (by decide) hT⟩⟩
    · rintro t act W hun hdep hbeh ⟨p7, p8, rfl, hT⟩
      (try simp only [Nat.reduceAdd] at hun)
      have h4 : t 4 = true := Inv.depB_mem 4 hdep (by rfl)
      have h5 : t 5 = true := Inv.depB_mem 5 hdep (by rfl)
      refine .inl ⟨by rfl, Inv.comesV_val (.pointer (some ⟨ga, oa + j * 2, none⟩)) W (by (simp only [h4, h5, if_true]; go_simp; try rfl)) ⟨p7, p8, by (simp only [Act.put, List.setIfInBounds_toArray, List.set_cons_succ, List.set_cons_zero, Manyd.upd, Nat.reduceAdd, Nat.reduceBEq, Bool.or_false, Bool.or_true, if_true]), GbI.keep (i := 6) (by decide) (by decide) (by decide) (by decide) hT⟩⟩
    · rintro t act W hun hdep hbeh ⟨p7, p8, rfl, hT⟩
      (try simp only [Nat.reduceAdd] at hun)
      have h6 : t 6 = true := Inv.depB_mem 6 hdep (by rfl)
      have c0 := cell_below hj1 hT.bw
      have c1 := cell_below hj2 hT.bw
      refine .inl ⟨by rfl, Inv.comesV_val (.agg #[.int .i64 m, .int .i64 q]) W (by (simp only [h6, if_true]; go_simp; try rfl)) ⟨p7, p8, by (simp only [Act.put, List.setIfInBounds_toArray, List.set_cons_succ, List.set_cons_zero, Manyd.upd, Nat.reduceAdd, Nat.reduceBEq, Bool.or_false, Bool.or_true, if_true]), GbI.keep (i := 7) (by decide) (by decide) (by decide) (by decide) hT⟩⟩
    · rintro t act W hun hdep hbeh ⟨p7, p8, rfl, hT⟩
      (try simp only [Nat.reduceAdd] at hun)
      refine .inl ⟨by rfl, Inv.comesV_val (.pointer (some ⟨W.heap.size, 0, none⟩)) (W.alloc (.cells #[.int .i64 0, .int .i64 0] 37)) (by (go_simp; try rfl)) ⟨W.heap.size, p8, by (simp only [Act.put, List.setIfInBounds_toArray, List.set_cons_succ, List.set_cons_zero, Manyd.upd, Nat.reduceAdd, Nat.reduceBEq, Bool.or_false, Bool.or_true, if_true]), hT.alloc7 hun⟩⟩
    · rintro t act W hun hdep hbeh ⟨p7, p8, rfl, hT⟩
      (try simp only [Nat.reduceAdd] at hun)
      refine .inl ⟨by rfl, Inv.comesV_val (.pointer (some ⟨W.heap.size, 0, none⟩)) (W.alloc (.cells #[.int .i64 0, .int .i64 0] 37)) (by (go_simp; try rfl)) ⟨p7, W.heap.size, by (simp only [Act.put, List.setIfInBounds_toArray, List.set_cons_succ, List.set_cons_zero, Manyd.upd, Nat.reduceAdd, Nat.reduceBEq, Bool.or_false, Bool.or_true, if_true]), hT.alloc8 hun⟩⟩
    · rintro t act W hun hdep hbeh ⟨p7, p8, rfl, hT⟩
      (try simp only [Nat.reduceAdd] at hun)
      have h8 : t 8 = true := Inv.depB_mem 8 hdep (by rfl)
      have h3 : t 3 = true := Inv.depB_mem 3 hdep (by rfl)
      obtain ⟨c0, c1, f0, f1⟩ := hT.own7 h8 hun
      refine .inl ⟨by rfl, Inv.comesV_skip ((W.setCell ⟨p7, 0, none⟩ (.int .i64 n)).setCell ⟨p7, 1, none⟩ (.int .i64 d)) (by (simp only [h8, h3, if_true]; go_simp; try rfl)) ⟨p7, p8, by (simp only [Act.put, List.setIfInBounds_toArray, List.set_cons_succ, List.set_cons_zero, Manyd.upd, Nat.reduceAdd, Nat.reduceBEq, Bool.or_false, Bool.or_true, if_true]), hT.set7 h8 hun⟩⟩
    · rintro t act W hun hdep hbeh ⟨p7, p8, rfl, hT⟩
      (try simp only [Nat.reduceAdd] at hun)
      have h9 : t 9 = true := Inv.depB_mem 9 hdep (by rfl)
      have h7 : t 7 = true := Inv.depB_mem 7 hdep (by rfl)
      obtain ⟨c0, c1, f0, f1⟩ := hT.own8 h9 hun
      refine .inl ⟨by rfl, Inv.comesV_skip ((W.setCell ⟨p8, 0, none⟩ (.int .i64 m)).setCell ⟨p8, 1, none⟩ (.int .i64 q)) (by (simp only [h9, h7, if_true]; go_simp; try rfl)) ⟨p7, p8, by (simp only [Act.put, List.setIfInBounds_toArray, List.set_cons_succ, List.set_cons_zero, Manyd.upd, Nat.reduceAdd, Nat.reduceBEq, Bool.or_false, Bool.or_true, if_true]), hT.set8 h9 hun⟩⟩
  rintro t a' W1 hs ⟨p7, p8, rfl, hT⟩
  simp only [hs 0 (by decide), hs 1 (by decide), hs 2 (by decide), hs 3 (by decide), hs 4 (by decide), hs 5 (by decide), hs 6 (by decide), hs 7 (by decide), hs 8 (by decide), hs 9 (by decide), hs 10 (by decide), hs 11 (by decide), if_true]
  obtain ⟨g7, b7⟩ := hT.a7 (hs 8 (by decide))
  obtain ⟨g8, b8⟩ := hT.a8 (hs 9 (by decide))
  rw [if_pos (hs 10 (by decide))] at b7
  rw [if_pos (hs 11 (by decide))] at b8
  have o7 := Own2.of b7
  have o8 := Own2.of b8
  have hbw1 := hT.bw
  have hci := cell_below hci hbw1
  have hcj := cell_below hcj hbw1
  have hg1 := (hg.after hbw1)
  have o7' := o7
  have o8' := o8
  obtain ⟨c70, c71, f70, f71⟩ := o7'
  obtain ⟨c80, c81, f80, f81⟩ := o8'
  clear hT hC0 hs b7 b8
  go_wp2
  clear c70 c71 f70 f71 c80 c81 f80 f81
  have hC0 : ∀ t : Nat → Bool, (∀ j, j < 38 → t j = false) → GcI W1 x0 x1 y0 y1 t 0 0 W1.drew := fun t hs => ⟨(Below.refl _ _).drew, fun e => (by rw [hs 34 (by decide)] at e; cases e), fun e => (by rw [hs 35 (by decide)] at e; cases e), fun e => (by rw [hs 34 (by decide)] at e; cases e), fun e => (by rw [hs 36 (by decide)] at e; cases e), fun e => (by rw [hs 37 (by decide)] at e; cases e)⟩
  refine (wpIn_wide (n := 0)).1 ?_
  refine Inv.region_inv (fun t act W => ∃ r7, ∃ r8, act = { tmps := #[.pointer (some ⟨H, 0, none⟩), .slice (some ⟨ga, oa, none⟩) l.length cap, .int .i64 i, .int .i64 j, undef, undef, undef, undef, .bool false, .pointer (some ⟨p7, 0, none⟩), .pointer (some ⟨p8, 0, none⟩), .int .i64 U, if t 34 = true then .pointer (some ⟨r7, 0, none⟩) else undef, if t 35 = true then .pointer (some ⟨r8, 0, none⟩) else undef, .slice (some ⟨ga, oa, none⟩) l.length cap, .int .i64 i, .pointer (some ⟨ga, oa + i * 2, none⟩), .agg #[.int .i64 n, .int .i64 d], .slice (some ⟨ga, oa, none⟩) l.length cap, .int .i64 j, .pointer (some ⟨ga, oa + j * 2, none⟩), .agg #[.int .i64 m, .int .i64 q], .pointer (some ⟨p7, 1, none⟩), .int .i64 d, .pointer (some ⟨p8, 1, none⟩), .int .i64 q, .int .i64 U, if t 31 = true then .tuple #[.agg #[.int .i64 x0, .int .i64 x1], .agg #[.int .i64 y0, .int .i64 y1]] else undef, if t 0 = true then .pointer (some ⟨p7, 0, none⟩) else undef, if t 1 = true then .int .i64 n else undef, if t 2 = true then .pointer (some ⟨p8, 1, none⟩) else undef, if t 3 = true then .int .i64 q else undef, if t 4 = true then .int .i64 P1 else undef, if t 5 = true then .pointer (some ⟨p8, 0, none⟩) else undef, if t 6 = true then .int .i64 m else undef, if t 7 = true then .pointer (some ⟨p7, 1, none⟩) else undef, if t 8 = true then .int .i64 d else undef, if t 9 = true then .int .i64 P2 else undef, if t 10 = true then .int .i64 E else undef, if t 11 = true then .pointer (some ⟨H, 0, none⟩) else undef, if t 12 = true then .pointer (some ⟨H, 0, none⟩) else undef, if t 13 = true then .pointer (some ⟨H, 0, none⟩) else undef, if t 14 = true then .slice (some ⟨gz, oz, none⟩) zs.length cz else undef, if t 15 = true then .int .i64 i else undef, if t 16 = true then .pointer (some ⟨gz, oz + i, none⟩) else undef, if t 17 = true then .int .i64 c else undef, if t 18 = true then .int .i64 U else undef, if t 19 = true then .int .i64 a else undef, if t 20 = true then .pointer (some ⟨H, 0, none⟩) else undef, if t 21 = true then .pointer (some ⟨H, 0, none⟩) else undef, if t 22 = true then .pointer (some ⟨H, 0, none⟩) else undef, if t 23 = true then .slice (some ⟨gz, oz, none⟩) zs.length cz else undef, if t 24 = true then .int .i64 j else undef, if t 25 = true then .pointer (some ⟨gz, oz + j, none⟩) else undef, if t 26 = true then .int .i64 e else undef, if t 27 = true then .int .i64 U else undef, if t 28 = true then .int .i64 b else undef, if t 29 = true then .int .i64 U else undef, if t 30 = true then .tuple #[.agg #[.int .i64 x0, .int .i64 x1], .agg #[.int .i64 y0, .int .i64 y1]] else undef, if t 32 = true then .agg #[.int .i64 x0, .int .i64 x1] else undef, if t 33 = true then .agg #[.int .i64 y0, .int .i64 y1] else undef, undef, undef, undef, undef, undef, undef, undef, undef], defers := [] } ∧ GcI W1 x0 x1 y0 y1 t r7 r8 W) mixed_ok (by kernel_rfl) ?_ ?_ ?_
  · intro t hs
    refine ⟨0, 0, ?_, hC0 t (fun j hj => hs j hj)⟩
    simp only [hs 0 (by decide), hs 1 (by decide), hs 2 (by decide), hs 3 (by decide), hs 4 (by decide), hs 5 (by decide), hs 6 (by decide), hs 7 (by decide), hs 8 (by decide), hs 9 (by decide), hs 10 (by decide), hs 11 (by decide), hs 12 (by decide), hs 13 (by decide), hs 14 (by decide), hs 15 (by decide), hs 16 (by decide), hs 17 (by decide), hs 18 (by decide), hs 19 (by decide), hs 20 (by decide), hs 21 (by decide), hs 22 (by decide), hs 23 (by decide), hs 24 (by decide), hs 25 (by decide), hs 26 (by decide), hs 27 (by decide), hs 28 (by decide), hs 29 (by decide), hs 30 (by decide), hs 31 (by decide), hs 32 (by decide), hs 33 (by decide), hs 34 (by decide), hs 35 (by decide), hs 36 (by decide), hs 37 (by decide), Bool.false_eq_true, if_false]
  · refine ⟨?_, ?_, ?_, ?_, ?_, ?_, ?_, ?_, ?_, ?_, ?_, ?_, ?_, ?_, ?_, ?_, ?_, ?_, ?_, ?_, ?_, ?_, ?_, ?_, ?_, ?_, ?_, ?_, ?_, ?_, ?_, ?_, ?_, ?_, ?_, ?_, ?_, ?_, trivial⟩
    · rintro t act W hun hdep hbeh ⟨r7, r8, rfl, hT⟩
      (try simp only [Nat.reduceAdd] at hun)
      refine .inl ⟨by rfl, Inv.comesV_val (.pointer (some ⟨p7, 0, none⟩)) W (by (go_simp; try rfl)) ⟨r7, r8, by (simp only [Act.put, List.setIfInBounds_toArray, List.set_cons_succ, List.set_cons_zero, Manyd.upd, Nat.reduceAdd, Nat.reduceBEq, Bool.or_false, Bool.or_true, if_true]), GcI.keep (i := 0) (by decide) (by decide) (by decide) (by decide) hT⟩⟩
    · rintro t act W hun hdep hbeh ⟨r7, r8, rfl, hT⟩
      (try simp only [Nat.reduceAdd] at hun)
      have h0 : t 0 = true := Inv.depB_mem 0 hdep (by rfl)
      obtain ⟨c0, c1, f0, f1⟩ := o7.after hT.bw
      refine .inl ⟨by rfl, Inv.comesV_val (.int .i64 n) W (by (simp only [h0, if_true]; go_simp; try rfl)) ⟨r7, r8, by (simp only [Act.put, List.setIfInBounds_toArray, List.set_cons_succ, List.set_cons_zero, Manyd.upd, Nat.reduceAdd, Nat.reduceBEq, Bool.or_false, Bool.or_true, if_true]), GcI.keep (i := 1) (by decide) (by decide) (by decide) (by decide) hT⟩⟩
    · rintro t act W hun hdep hbeh ⟨r7, r8, rfl, hT⟩
      (try simp only [Nat.reduceAdd] at hun)
      refine .inl ⟨by rfl, Inv.comesV_val (.pointer (some ⟨p8, 1, none⟩)) W (by (go_simp; try rfl)) ⟨r7, r8, by (simp only [Act.put, List.setIfInBounds_toArray, List.set_cons_succ, List.set_cons_zero, Manyd.upd, Nat.reduceAdd, Nat.reduceBEq, Bool.or_false, Bool.or_true, if_true]), GcI.keep (i := 2) (by decide) (by decide) (by decide) (by decide) hT⟩⟩
    · rintro t act W hun hdep hbeh ⟨r7, r8, rfl, hT⟩
      (try simp only [Nat.reduceAdd] at hun)
      have h2 : t 2 = true := Inv.depB_mem 2 hdep (by rfl)
      obtain ⟨c0, c1, f0, f1⟩ := o8.after hT.bw
      refine .inl ⟨by rfl, Inv.comesV_val (.int .i64 q) W (by (simp only [h2, if_true]; go_simp; try rfl)) ⟨r7, r8, by (simp only [Act.put, List.setIfInBounds_toArray, List.set_cons_succ, List.set_cons_zero, Manyd.upd, Nat.reduceAdd, Nat.reduceBEq, Bool.or_false, Bool.or_true, if_true]), GcI.keep (i := 3) (by decide) (by decide) (by decide) (by decide) hT⟩⟩
    · rintro t act W hun hdep hbeh ⟨r7, r8, rfl, hT⟩
      (try simp only [Nat.reduceAdd] at hun)
      have h1 : t 1 = true := Inv.depB_mem 1 hdep (by rfl)
      have h3 : t 3 = true := Inv.depB_mem 3 hdep (by rfl)
      refine .inl ⟨by rfl, Inv.comesV_val (.int .i64 P1) W (by (simp only [h1, h3, if_true]; go_simp; try rfl)) ⟨r7, r8, by (simp only [Act.put, List.setIfInBounds_toArray, List.set_cons_succ, List.set_cons_zero, Manyd.upd, Nat.reduceAdd, Nat.reduceBEq, Bool.or_false, Bool.or_true, if_true]), GcI.keep (i := 4) (by decide) (by decide) (by decide) (by decide) hT⟩⟩
    · rintro t act W hun hdep hbeh ⟨r7, r8, rfl, hT⟩
      (try simp only [Nat.reduceAdd] at hun)
      refine .inl ⟨by rfl, Inv.comesV_val (.pointer (some ⟨p8, 0, none⟩)) W (by (go_simp; try rfl)) ⟨r7, r8, by (simp only [Act.put, List.setIfInBounds_toArray, List.set_cons_succ, List.set_cons_zero, Manyd.upd, Nat.reduceAdd, Nat.reduceBEq, Bool.or_false, Bool.or_true, if_true]), GcI.keep (i := 5) (by decide) (by decide) (by decide) (by decide) hT⟩⟩
    · rintro t act W hun hdep hbeh ⟨r7, r8, rfl, hT⟩
      (try simp only [Nat.reduceAdd] at hun)
      have h5 : t 5 = true := Inv.depB_mem 5 hdep (by rfl)
      obtain ⟨c0, c1, f0, f1⟩ := o8.after hT.bw
      refine .inl ⟨by rfl, Inv.comesV_val (.int .i64 m) W (by (simp only [h5, if_true]; go_simp; try rfl)) ⟨r7, r8, by (simp only [Act.put, List.setIfInBounds_toArray, List.set_cons_succ, List.set_cons_zero, Manyd.upd, Nat.reduceAdd, Nat.reduceBEq, Bool.or_false, Bool.or_true, if_true]), GcI.keep (i := 6) (by decide) (by decide) (by decide) (by decide) hT⟩⟩
    · rintro t act W hun hdep hbeh ⟨r7, r8, rfl, hT⟩
      (try simp only [Nat.reduceAdd] at hun)
      refine .inl ⟨by rfl, Inv.comesV_val (.pointer (some ⟨p7, 1, none⟩)) W (by (go_simp; try rfl)) ⟨r7, r8, by (simp only [Act.put, List.setIfInBounds_toArray, List.set_cons_succ, List.set_cons_zero, Manyd.upd, Nat.reduceAdd, Nat.reduceBEq, Bool.or_false, Bool.or_true, if_true]), GcI.keep (i := 7) (by decide) (by decide) (by decide) (by decide) hT⟩⟩
    · rintro t act W hun hdep hbeh ⟨r7, r8, rfl, hT⟩
      (try simp only [Nat.reduceAdd] at hun)
      have h7 : t 7 = true := Inv.depB_mem 7 hdep (by rfl)
      obtain ⟨c0, c1, f0, f1⟩ := o7.after hT.bw
      refine .inl ⟨by rfl, Inv.comesV_val (.int .i64 d) W (by (simp only [h7, if_true]; go_simp; try rfl)) ⟨r7, r8, by (simp only [Act.put, List.setIfInBounds_toArray, List.set_cons_succ, List.set_cons_zero, Manyd.upd, Nat.reduceAdd, Nat.reduceBEq, Bool.or_false, Bool.or_true, if_true]), GcI.keep (i := 8) (by decide) (by decide) (by decide) (by decide) hT⟩⟩
    · rintro t act W hun hdep hbeh ⟨r7, r8, rfl, hT⟩
      (try simp only [Nat.reduceAdd] at hun)
      have h6 : t 6 = true := Inv.depB_mem 6 hdep (by rfl)
      have h8 : t 8 = true := Inv.depB_mem 8 hdep (by rfl)
      refine .inl ⟨by rfl, Inv.comesV_val (.int .i64 P2) W (by (simp only [h6, h8, if_true]; go_simp; try rfl)) ⟨r7, r8, by (simp only [Act.put, List.setIfInBounds_toArray, List.set_cons_succ, List.set_cons_zero, Manyd.upd, Nat.reduceAdd, Nat.reduceBEq, Bool.or_false, Bool.or_true, if_true]), GcI.keep (i := 9) (by decide) (by decide) (by decide) (by decide) hT⟩⟩
    · rintro t act W hun hdep hbeh ⟨r7, r8, rfl, hT⟩
      (try simp only [Nat.reduceAdd] at hun)
      have h4 : t 4 = true := Inv.depB_mem 4 hdep (by rfl)
      have h9 : t 9 = true := Inv.depB_mem 9 hdep (by rfl)
      refine .inl ⟨by rfl, Inv.comesV_val (.int .i64 E) W (by (simp only [h4, h9, if_true]; go_simp; try rfl)) ⟨r7, r8, by (simp only [Act.put, List.setIfInBounds_toArray, List.set_cons_succ, List.set_cons_zero, Manyd.upd, Nat.reduceAdd, Nat.reduceBEq, Bool.or_false, Bool.or_true, if_true]), GcI.keep (i := 10) (by decide) (by decide) (by decide) (by decide) hT⟩⟩
    · rintro t act W hun hdep hbeh ⟨r7, r8, rfl, hT⟩
      (try simp only [Nat.reduceAdd] at hun)
      refine .inl ⟨by rfl, Inv.comesV_val (.pointer (some ⟨H, 0, none⟩)) W (by (go_simp; try rfl)) ⟨r7, r8, by (simp only [Act.put, List.setIfInBounds_toArray, List.set_cons_succ, List.set_cons_zero, Manyd.upd, Nat.reduceAdd, Nat.reduceBEq, Bool.or_false, Bool.or_true, if_true]), GcI.keep (i := 11) (by decide) (by decide) (by decide) (by decide) hT⟩⟩
    · rintro t act W hun hdep hbeh ⟨r7, r8, rfl, hT⟩
      (try simp only [Nat.reduceAdd] at hun)
      have h11 : t 11 = true := Inv.depB_mem 11 hdep (by rfl)
      refine .inl ⟨by rfl, Inv.comesV_val (.pointer (some ⟨H, 0, none⟩)) W (by (simp only [h11, if_true]; go_simp; try rfl)) ⟨r7, r8, by (simp only [Act.put, List.setIfInBounds_toArray, List.set_cons_succ, List.set_cons_zero, Manyd.upd, Nat.reduceAdd, Nat.reduceBEq, Bool.or_false, Bool.or_true, if_true]), GcI.keep (i := 12) (by decide) (by decide) (by decide) (by decide) hT⟩⟩
    · rintro t act W hun hdep hbeh ⟨r7, r8, rfl, hT⟩
      (try simp only [Nat.reduceAdd] at hun)
      have h12 : t 12 = true := Inv.depB_mem 12 hdep (by rfl)
      refine .inl ⟨by rfl, Inv.comesV_val (.pointer (some ⟨H, 0, none⟩)) W (by (simp only [h12, if_true]; go_simp; try rfl)) ⟨r7, r8, by (simp only [Act.put, List.setIfInBounds_toArray, List.set_cons_succ, List.set_cons_zero, Manyd.upd, Nat.reduceAdd, Nat.reduceBEq, Bool.or_false, Bool.or_true, if_true]), GcI.keep (i := 13) (by decide) (by decide) (by decide) (by decide) hT⟩⟩
    · rintro t act W hun hdep hbeh ⟨r7, r8, rfl, hT⟩
      (try simp only [Nat.reduceAdd] at hun)
      have h13 : t 13 = true := Inv.depB_mem 13 hdep (by rfl)
      have h0 := (hg1.after hT.bw).c0
      refine .inl ⟨by rfl, Inv.comesV_val (.slice (some ⟨gz, oz, none⟩) zs.length cz) W (by (simp only [h13, if_true]; go_simp; try rfl)) ⟨r7, r8, by (simp only [Act.put, List.setIfInBounds_toArray, List.set_cons_succ, List.set_cons_zero, Manyd.upd, Nat.reduceAdd, Nat.reduceBEq, Bool.or_false, Bool.or_true, if_true]), GcI.keep (i := 14) (by decide) (by decide) (by decide) (by decide) hT⟩⟩
    · rintro t act W hun hdep hbeh ⟨r7, r8, rfl, hT⟩
      (try simp only [Nat.reduceAdd] at hun)
      refine .inl ⟨by rfl, Inv.comesV_val (.int .i64 i) W (by (go_simp; try rfl)) ⟨r7, r8, by (simp only [Act.put, List.setIfInBounds_toArray, List.set_cons_succ, List.set_cons_zero, Manyd.upd, Nat.reduceAdd, Nat.reduceBEq, Bool.or_false, Bool.or_true, if_true]), GcI.keep (i := 15) (by decide) (by decide) (by decide) (by decide) hT⟩⟩
    · rintro t act W hun hdep hbeh ⟨r7, r8, rfl, hT⟩
      (try simp only [Nat.reduceAdd] at hun)
      have h14 : t 14 = true := Inv.depB_mem 14 hdep (by rfl)
      have h15 : t 15 = true := Inv.depB_mem 15 hdep (by rfl)
      refine .inl ⟨by rfl, Inv.comesV_val (.pointer (some ⟨gz, oz + i, none⟩)) W (by (simp only [h14, h15, if_true]; go_simp; try rfl)) ⟨r7, r8, by (simp only [Act.put, List.setIfInBounds_toArray, List.set_cons_succ, List.set_cons_zero, Manyd.upd, Nat.reduceAdd, Nat.reduceBEq, Bool.or_false, Bool.or_true, if_true]), GcI.keep (i := 16) (by decide) (by decide) (by decide) (by decide) hT⟩⟩
    · rintro t act W hun hdep hbeh ⟨r7, r8, rfl, hT⟩
      (try simp only [Nat.reduceAdd] at hun)
      have h16 : t 16 = true := Inv.depB_mem 16 hdep (by rfl)
      have c0 := cell_below hci hT.bw
      refine .inl ⟨by rfl, Inv.comesV_val (.int .i64 c) W (by (simp only [h16, if_true]; go_simp; try rfl)) ⟨r7, r8, by (simp only [Act.put, List.setIfInBounds_toArray, List.set_cons_succ, List.set_cons_zero, Manyd.upd, Nat.reduceAdd, Nat.reduceBEq, Bool.or_false, Bool.or_true, if_true]), GcI.keep (i := 17) (by decide) (by decide) (by decide) (by decide) hT⟩⟩
    · rintro t act W hun hdep hbeh ⟨r7, r8, rfl, hT⟩
      (try simp only [Nat.reduceAdd] at hun)
      refine .inl ⟨by rfl, Inv.comesV_val (.int .i64 U) W (by (go_simp; try rfl)) ⟨r7, r8, by (simp only [Act.put, List.setIfInBounds_toArray, List.set_cons_succ, List.set_cons_zero, Manyd.upd, Nat.reduceAdd, Nat.reduceBEq, Bool.or_false, Bool.or_true, if_true]), GcI.keep (i := 18) (by decide) (by decide) (by decide) (by decide) hT⟩⟩
    · rintro t act W hun hdep hbeh ⟨r7, r8, rfl, hT⟩
      (try simp only [Nat.reduceAdd] at hun)
      have h17 : t 17 = true := Inv.depB_mem 17 hdep (by rfl)
      have h18 : t 18 = true := Inv.depB_mem 18 hdep (by rfl)
      refine .inl ⟨by rfl, Inv.comesV_val (.int .i64 a) W (by (simp only [h17, h18, if_true]; go_simp; try rfl)) ⟨r7, r8, by (simp only [Act.put, List.setIfInBounds_toArray, List.set_cons_succ, List.set_cons_zero, Manyd.upd, Nat.reduceAdd, Nat.reduceBEq, Bool.or_false, Bool.or_true, if_true]), GcI.keep (i := 19) (by decide) (by decide) (by decide) (by decide) hT⟩⟩
    · rintro t act W hun hdep hbeh ⟨r7, r8, rfl, hT⟩
      (try simp only [Nat.reduceAdd] at hun)
      refine .inl ⟨by rfl, Inv.comesV_val (.pointer (some ⟨H, 0, none⟩)) W (by (go_simp; try rfl)) ⟨r7, r8, by (simp only [Act.put, List.setIfInBounds_toArray, List.set_cons_succ, List.set_cons_zero, Manyd.upd, Nat.reduceAdd, Nat.reduceBEq, Bool.or_false, Bool.or_true, if_true]), GcI.keep (i := 20) (by decide) (by decide) (by decide) (by decide) hT⟩⟩
    · rintro t act W hun hdep hbeh ⟨r7, r8, rfl, hT⟩
      (try simp only [Nat.reduceAdd] at hun)
      have h20 : t 20 = true := Inv.depB_mem 20 hdep (by rfl)
      refine .inl ⟨by rfl, Inv.comesV_val (.pointer (some ⟨H, 0, none⟩)) W (by (simp only [h20, if_true]; go_simp; try rfl)) ⟨r7, r8, by (simp only [Act.put, List.setIfInBounds_toArray, List.set_cons_succ, List.set_cons_zero, Manyd.upd, Nat.reduceAdd, Nat.reduceBEq, Bool.or_false, Bool.or_true, if_true]), GcI.keep (i := 21) (by decide) (by decide) (by decide) (by decide) hT⟩⟩
    · rintro t act W hun hdep hbeh ⟨r7, r8, rfl, hT⟩
      (try simp only [Nat.reduceAdd] at hun)
      have h21 : t 21 = true := Inv.depB_mem 21 hdep (by rfl)
      refine .inl ⟨by rfl, Inv.comesV_val (.pointer (some ⟨H, 0, none⟩)) W (by (simp only [h21, if_true]; go_simp; try rfl)) ⟨r7, r8, by (simp only [Act.put, List.setIfInBounds_toArray, List.set_cons_succ, List.set_cons_zero, Manyd.upd, Nat.reduceAdd, Nat.reduceBEq, Bool.or_false, Bool.or_true, if_true]), GcI.keep (i := 22) (by decide) (by decide) (by decide) (by decide) hT⟩⟩
    · rintro t act W hun hdep hbeh ⟨r7, r8, rfl, hT⟩
      (try simp only [Nat.reduceAdd] at hun)
      have h22 : t 22 = true := Inv.depB_mem 22 hdep (by rfl)
      have h0 := (hg1.after hT.bw).c0
      refine .inl ⟨by rfl, Inv.comesV_val (.slice (some ⟨gz, oz, none⟩) zs.length cz) W (by (simp only [h22, if_true]; go_simp; try rfl)) ⟨r7, r8, by (simp only [Act.put, List.setIfInBounds_toArray, List.set_cons_succ, List.set_cons_zero, Manyd.upd, Nat.reduceAdd, Nat.reduceBEq, Bool.or_false, Bool.or_true, if_true]), GcI.keep (i := 23) (by decide) (by decide) (by decide) (by decide) hT⟩⟩
    · rintro t act W hun hdep hbeh ⟨r7, r8, rfl, hT⟩
      (try simp only [Nat.reduceAdd] at hun)
      refine .inl ⟨by rfl, Inv.comesV_val (.int .i64 j) W (by (go_simp; try rfl)) ⟨r7, r8, by (simp only [Act.put, List.setIfInBounds_toArray, List.set_cons_succ, List.set_cons_zero, Manyd.upd, Nat.reduceAdd, Nat.reduceBEq, Bool.or_false, Bool.or_true, if_true]), GcI.keep (i := 24) (by decide) (by decide) (by decide) (by decide) hT⟩⟩
    · rintro t act W hun hdep hbeh ⟨r7, r8, rfl, hT⟩
      (try simp only [Nat.reduceAdd] at hun)
      have h23 : t 23 = true := Inv.depB_mem 23 hdep (by rfl)
      have h24 : t 24 = true := Inv.depB_mem 24 hdep (by rfl)
      refine .inl ⟨by rfl, Inv.comesV_val (.pointer (some ⟨gz, oz + j, none⟩)) W (by (simp only [h23, h24, if_true]; go_simp; try rfl)) ⟨r7, r8, by (simp only [Act.put, List.setIfInBounds_toArray, List.set_cons_succ, List.set_cons_zero, Manyd.upd, Nat.reduceAdd, Nat.reduceBEq, Bool.or_false, Bool.or_true, if_true]), GcI.keep (i := 25) (by decide) (by decide) (by decide) (by decide) hT⟩⟩
    · rintro t act W hun hdep hbeh ⟨r7, r8, rfl, hT⟩
      (try simp only [Nat.reduceAdd] at hun)
      have h25 : t 25 = true := Inv.depB_mem 25 hdep (by rfl)
      have c0 := cell_below hcj hT.bw
      refine .inl ⟨by rfl, Inv.comesV_val (.int .i64 e) W (by (simp only [h25, if_true]; go_simp; try rfl)) ⟨r7, r8, by (simp only [Act.put, List.setIfInBounds_toArray, List.set_cons_succ, List.set_cons_zero, Manyd.upd, Nat.reduceAdd, Nat.reduceBEq, Bool.or_false, Bool.or_true, if_true]), GcI.keep (i := 26) (by decide) (by decide) (by decide) (by decide) hT⟩⟩
    · rintro t act W hun hdep hbeh ⟨r7, r8, rfl, hT⟩
      (try simp only [Nat.reduceAdd] at hun)
      refine .inl ⟨by rfl, Inv.comesV_val (.int .i64 U) W (by (go_simp; try rfl)) ⟨r7, r8, by (simp only [Act.put, List.setIfInBounds_toArray, List.set_cons_succ, List.set_cons_zero, Manyd.upd, Nat.reduceAdd, Nat.reduceBEq, Bool.or_false, Bool.or_true, if_true]), GcI.keep (i := 27) (by decide) (by decide) (by decide) (by decide) hT⟩⟩
    · rintro t act W hun hdep hbeh ⟨r7, r8, rfl, hT⟩
      (try simp only [Nat.reduceAdd] at hun)
      have h26 : t 26 = true := Inv.depB_mem 26 hdep (by rfl)
      have h27 : t 27 = true := Inv.depB_mem 27 hdep (by rfl)
      refine .inl ⟨by rfl, Inv.comesV_val (.int .i64 b) W (by (simp only [h26, h27, if_true]; go_simp; try rfl)) ⟨r7, r8, by (simp only [Act.put, List.setIfInBounds_toArray, List.set_cons_succ, List.set_cons_zero, Manyd.upd, Nat.reduceAdd, Nat.reduceBEq, Bool.or_false, Bool.or_true, if_true]), GcI.keep (i := 28) (by decide) (by decide) (by decide) (by decide) hT⟩⟩
    · rintro t act W hun hdep hbeh ⟨r7, r8, rfl, hT⟩
      (try simp only [Nat.reduceAdd] at hun)
      refine .inl ⟨by rfl, Inv.comesV_val (.int .i64 U) W (by (go_simp; try rfl)) ⟨r7, r8, by (simp only [Act.put, List.setIfInBounds_toArray, List.set_cons_succ, List.set_cons_zero, Manyd.upd, Nat.reduceAdd, Nat.reduceBEq, Bool.or_false, Bool.or_true, if_true]), GcI.keep (i := 29) (by decide) (by decide) (by decide) (by decide) hT⟩⟩
    · rintro t act W hun hdep hbeh ⟨r7, r8, rfl, hT⟩
      (try simp only [Nat.reduceAdd] at hun)
      have h10 : t 10 = true := Inv.depB_mem 10 hdep (by rfl)
      have h19 : t 19 = true := Inv.depB_mem 19 hdep (by rfl)
      have h28 : t 28 = true := Inv.depB_mem 28 hdep (by rfl)
      have h29 : t 29 = true := Inv.depB_mem 29 hdep (by rfl)
      refine .inl ⟨by rfl, Inv.comesV_call 68 #[.int .i64 E, .int .i64 a, .int .i64 b, .int .i64 U] W (by (simp only [h10, h19, h28, h29, if_true]; go_simp; try rfl)) ((qc W).mono fun e w5 hw5 => ⟨_, hw5.1, r7, r8, by (simp only [Act.put, List.setIfInBounds_toArray, List.set_cons_succ, List.set_cons_zero, Manyd.upd, Nat.reduceAdd, Nat.reduceBEq, Bool.or_false, Bool.or_true, if_true]), GcI.keep (i := 30) (by decide) (by decide) (by decide) (by decide) (hT.after hw5.2)⟩)⟩
    · rintro t act W hun hdep hbeh ⟨r7, r8, rfl, hT⟩
      (try simp only [Nat.reduceAdd] at hun)
      have h30 : t 30 = true := Inv.depB_mem 30 hdep (by rfl)
      refine .inl ⟨by rfl, Inv.comesV_val (.tuple #[.agg #[.int .i64 x0, .int .i64 x1], .agg #[.int .i64 y0, .int .i64 y1]]) W (by (simp only [h30, if_true]; go_simp; try rfl)) ⟨r7, r8, by (simp only [Act.put, List.setIfInBounds_toArray, List.set_cons_succ, List.set_cons_zero, Manyd.upd, Nat.reduceAdd, Nat.reduceBEq, Bool.or_false, Bool.or_true, if_true]), GcI.keep (i := 31) (by decide) (by decide) (by decide) (by decide) hT⟩⟩
    · rintro t act W hun hdep hbeh ⟨r7, r8, rfl, hT⟩
      (try simp only [Nat.reduceAdd] at hun)
      have h31 : t 31 = true := Inv.depB_mem 31 hdep (by rfl)
      refine .inl ⟨by rfl, Inv.comesV_val (.agg #[.int .i64 x0, .int .i64 x1]) W (by (simp only [h31, if_true]; go_simp; try rfl)) ⟨r7, r8, by (simp only [Act.put, List.setIfInBounds_toArray, List.set_cons_succ, List.set_cons_zero, Manyd.upd, Nat.reduceAdd, Nat.reduceBEq, Bool.or_false, Bool.or_true, if_true]), GcI.keep (i := 32) (by decide) (by decide) (by decide) (by decide) hT⟩⟩
    · rintro t act W hun hdep hbeh ⟨r7, r8, rfl, hT⟩
      (try simp only [Nat.reduceAdd] at hun)
      have h31 : t 31 = true := Inv.depB_mem 31 hdep (by rfl)
      refine .inl ⟨by rfl, Inv.comesV_val (.agg #[.int .i64 y0, .int .i64 y1]) W (by (simp only [h31, if_true]; go_simp; try rfl)) ⟨r7, r8, by (simp only [Act.put, List.setIfInBounds_toArray, List.set_cons_succ, List.set_cons_zero, Manyd.upd, Nat.reduceAdd, Nat.reduceBEq, Bool.or_false, Bool.or_true, if_true]), GcI.keep (i := 33) (by decide) (by decide) (by decide) (by decide) hT⟩⟩
    · rintro t act W hun hdep hbeh ⟨r7, r8, rfl, hT⟩
      (try simp only [Nat.reduceAdd] at hun)
      refine .inl ⟨by rfl, Inv.comesV_val (.pointer (some ⟨W.heap.size, 0, none⟩)) (W.alloc (.cells #[.int .i64 0, .int .i64 0] 37)) (by (go_simp; try rfl)) ⟨W.heap.size, r8, by (simp only [Act.put, List.setIfInBounds_toArray, List.set_cons_succ, List.set_cons_zero, Manyd.upd, Nat.reduceAdd, Nat.reduceBEq, Bool.or_false, Bool.or_true, if_true]), hT.alloc7 hun⟩⟩
    · rintro t act W hun hdep hbeh ⟨r7, r8, rfl, hT⟩
      (try simp only [Nat.reduceAdd] at hun)
      refine .inl ⟨by rfl, Inv.comesV_val (.pointer (some ⟨W.heap.size, 0, none⟩)) (W.alloc (.cells #[.int .i64 0, .int .i64 0] 37)) (by (go_simp; try rfl)) ⟨r7, W.heap.size, by (simp only [Act.put, List.setIfInBounds_toArray, List.set_cons_succ, List.set_cons_zero, Manyd.upd, Nat.reduceAdd, Nat.reduceBEq, Bool.or_false, Bool.or_true, if_true]), hT.alloc8 hun⟩⟩
    · rintro t act W hun hdep hbeh ⟨r7, r8, rfl, hT⟩
      (try simp only [Nat.reduceAdd] at hun)
      have h34 : t 34 = true := Inv.depB_mem 34 hdep (by rfl)
      have h32 : t 32 = true := Inv.depB_mem 32 hdep (by rfl)
      obtain ⟨c0, c1, f0, f1⟩ := hT.own7 h34 hun
      refine .inl ⟨by rfl, Inv.comesV_skip ((W.setCell ⟨r7, 0, none⟩ (.int .i64 x0)).setCell ⟨r7, 1, none⟩ (.int .i64 x1)) (by (simp only [h34, h32, if_true]; go_simp; try rfl)) ⟨r7, r8, by (simp only [Act.put, List.setIfInBounds_toArray, List.set_cons_succ, List.set_cons_zero, Manyd.upd, Nat.reduceAdd, Nat.reduceBEq, Bool.or_false, Bool.or_true, if_true]), hT.set7 h34 hun⟩⟩
    · rintro t act W hun hdep hbeh ⟨r7, r8, rfl, hT⟩
      (try simp only [Nat.reduceAdd] at hun)
      have h35 : t 35 = true := Inv.depB_mem 35 hdep (by rfl)
      have h33 : t 33 = true := Inv.depB_mem 33 hdep (by rfl)
      obtain ⟨c0, c1, f0, f1⟩ := hT.own8 h35 hun
      refine .inl ⟨by rfl, Inv.comesV_skip ((W.setCell ⟨r8, 0, none⟩ (.int .i64 y0)).setCell ⟨r8, 1, none⟩ (.int .i64 y1)) (by (simp only [h35, h33, if_true]; go_simp; try rfl)) ⟨r7, r8, by (simp only [Act.put, List.setIfInBounds_toArray, List.set_cons_succ, List.set_cons_zero, Manyd.upd, Nat.reduceAdd, Nat.reduceBEq, Bool.or_false, Bool.or_true, if_true]), hT.set8 h35 hun⟩⟩
  rintro t a' W2 hs ⟨r7, r8, rfl, hT⟩
  simp only [hs 0 (by decide), hs 1 (by decide), hs 2 (by decide), hs 3 (by decide), hs 4 (by decide), hs 5 (by decide), hs 6 (by decide), hs 7 (by decide), hs 8 (by decide), hs 9 (by decide), hs 10 (by decide), hs 11 (by decide), hs 12 (by decide), hs 13 (by decide), hs 14 (by decide), hs 15 (by decide), hs 16 (by decide), hs 17 (by decide), hs 18 (by decide), hs 19 (by decide), hs 20 (by decide), hs 21 (by decide), hs 22 (by decide), hs 23 (by decide), hs 24 (by decide), hs 25 (by decide), hs 26 (by decide), hs 27 (by decide), hs 28 (by decide), hs 29 (by decide), hs 30 (by decide), hs 31 (by decide), hs 32 (by decide), hs 33 (by decide), hs 34 (by decide), hs 35 (by decide), hs 36 (by decide), hs 37 (by decide), if_true]
  obtain ⟨gr7, br7⟩ := hT.a7 (hs 34 (by decide))
  obtain ⟨gr8, br8⟩ := hT.a8 (hs 35 (by decide))
  rw [if_pos (hs 36 (by decide))] at br7
  rw [if_pos (hs 37 (by decide))] at br8
  obtain ⟨c70, c71, f70, f71⟩ := o7.after hT.bw
  obtain ⟨c80, c81, f80, f81⟩ := o8.after hT.bw
  obtain ⟨d70, d71, e70, e71⟩ := Own2.of br7
  obtain ⟨d80, d81, e80, e81⟩ := Own2.of br8
  have hbw2 := hbw1.trans (hT.bw.mono hbw1.size)
  clear hT hC0 hs br7 br8 qc
  have e1 := eq37 x0 x1 n d
  have e2 := eq37 y0 y1 m q
  rcases hDx.out with ⟨rfl, rfl, rfl, rfl, hDt⟩ | ⟨hno, hDf⟩
  · have hk := Keep.mk hDt
    clear hDt hDx
    have e1 := eqS x0 x1
    have e2 := eqS y0 y1
    go_wp2
    go_ret
    exact ⟨by rw [hk.out]; rfl, hbw2⟩
  · have hk := Keep.mk hDf
    have hb1 : (x0 == n && x1 == d) = false := by
      rw [Bool.eq_false_iff]; intro h
      simp only [Bool.and_eq_true, beq_iff_eq] at h
      exact hno h
    simp only [hb1] at e1
    clear hDf hDx
    go_wp2
    go_ret
    exact ⟨by rw [hk.out]; rfl, hbw2⟩
end Go.Proofs.Ytbocmbhinjkjlaa
