import Derived.Test.YtbmfipjnfbnjgaaShare
import Derived.Test.YtbmfipjnfbnjgaaArrays
set_option linter.unusedSimpArgs false
set_option linter.unusedVariables false
namespace Go.Proofs.Ytbmfipjnfbnjgaa
open Go Go.Proofs Go.RowKit Go.Sample
theorem dec_cast (x y : Nat) : decide ((x : Int) < (y : Int)) = decide (x < y) := decide_eq_decide.2 (by omega)
/-- The comparison by whole parts and reciprocals: what holds of the numbers that remain. -/
def LInv (a b c d a' b' c' d' : Nat) (tu : Bool) : Prop := if a' * d' = c' * b' then a * d = c * b else decide (a * d < c * b) = (decide (a' * d' < c' * b') != tu)
theorem floor_lt {a b c d : Nat} (hb : 1 ≤ b) (hd : 1 ≤ d) (h : a / b < c / d) : a * d < c * b := by
  have h1 := Nat.div_add_mod a b
  have h2 := Nat.div_add_mod c d
  have m1 := Nat.mod_lt a (y := b) (by omega)
  have k1 : a < (a / b + 1) * b := by rw [Nat.add_mul, Nat.mul_comm]; omega
  have k2 : (a / b + 1) * d ≤ c := by
    have : (a / b + 1) * d ≤ (c / d) * d := Nat.mul_le_mul_right d h
    have e : c / d * d = d * (c / d) := Nat.mul_comm _ _
    omega
  calc a * d < (a / b + 1) * b * d := Nat.mul_lt_mul_of_pos_right k1 hd
    _ = (a / b + 1) * d * b := Nat.mul_right_comm _ _ _
    _ ≤ c * b := Nat.mul_le_mul_right b k2
theorem floor_eq {a b c d : Nat} (hb : 1 ≤ b) (hd : 1 ≤ d) (h : a / b = c / d) : (a * d < c * b ↔ a % b * d < c % d * b) ∧ (a * d = c * b ↔ a % b * d = c % d * b) := by
  have h1 := Nat.div_add_mod a b
  have h2 := Nat.div_add_mod c d
  generalize a % b = p at *
  generalize c % d = q at *
  generalize hk : a / b = k at *
  rw [← h] at h2
  have e1 : a * d = k * (b * d) + p * d := by rw [← h1, Nat.add_mul, Nat.mul_comm b k, Nat.mul_assoc]
  have e2 : c * b = k * (b * d) + q * b := by rw [← h2, Nat.add_mul, Nat.mul_comm d k, Nat.mul_assoc, Nat.mul_comm d b]
  rw [e1, e2]
  omega
theorem LInv.out_ne {a b c d a' b' c' d' : Nat} {tu : Bool} (h : LInv a b c d a' b' c' d' tu) (hb : 1 ≤ b') (hd : 1 ≤ d') (hne : a' / b' ≠ c' / d') : (decide (a' / b' < c' / d') != tu) = decide (a * d < c * b) := by
  unfold LInv at h
  rcases Nat.lt_or_gt_of_ne hne with k | k
  · have k1 := floor_lt hb hd k
    rw [if_neg (by omega)] at h
    rw [h, decide_eq_true k, decide_eq_true k1]
  · have k1 := floor_lt hd hb k
    rw [if_neg (by omega)] at h
    rw [h, decide_eq_false (by omega), decide_eq_false (by omega)]
theorem LInv.out_zero {a b c d a' b' c' d' : Nat} {tu : Bool} (h : LInv a b c d a' b' c' d' tu) (hb : 1 ≤ b') (hd : 1 ≤ d') (he : a' / b' = c' / d') (hp : a' % b' = 0) (hq : c' % d' = 0) : decide (a * d < c * b) = false := by
  obtain ⟨_, k2⟩ := floor_eq hb hd he
  rw [hp, hq] at k2
  unfold LInv at h
  rw [if_pos (k2.2 (by simp))] at h
  exact decide_eq_false (by omega)
theorem LInv.out_one {a b c d a' b' c' d' : Nat} {tu : Bool} (h : LInv a b c d a' b' c' d' tu) (hb : 1 ≤ b') (hd : 1 ≤ d') (he : a' / b' = c' / d') (hp : a' % b' = 0 ↔ ¬ c' % d' = 0) : (decide (a' % b' = 0) != tu) = decide (a * d < c * b) := by
  obtain ⟨k1, k2⟩ := floor_eq hb hd he
  generalize a' % b' = p at *
  generalize c' % d' = q at *
  unfold LInv at h
  by_cases h0 : p = 0
  · have hq := hp.1 h0
    subst h0
    have : 0 < q * b' := Nat.mul_pos (by omega) (by omega)
    rw [if_neg (by omega)] at h
    rw [h, decide_eq_true (show a' * d' < c' * b' by omega)]; simp
  · have hq : q = 0 := by rcases Nat.eq_zero_or_pos q with h' | h'; exact h'; exact absurd (hp.2 (by omega)) h0
    subst hq
    have : 0 < p * d' := Nat.mul_pos (by omega) (by omega)
    rw [if_neg (by omega)] at h
    rw [h, decide_eq_false (show ¬ a' * d' < c' * b' by omega), decide_eq_false h0]
theorem LInv.next {a b c d a' b' c' d' : Nat} {tu : Bool} (h : LInv a b c d a' b' c' d' tu) (hb : 1 ≤ b') (hd : 1 ≤ d') (he : a' / b' = c' / d') : LInv a b c d b' (a' % b') d' (c' % d') (!tu) := by
  obtain ⟨k1, k2⟩ := floor_eq hb hd he
  generalize a' % b' = p at *
  generalize c' % d' = q at *
  unfold LInv at *
  have e1 : b' * q = q * b' := Nat.mul_comm _ _
  have e2 : d' * p = p * d' := Nat.mul_comm _ _
  rw [e1, e2]
  by_cases e : p * d' = q * b'
  · rw [if_pos (k2.2 e)] at h
    rw [if_pos e.symm]; exact h
  · rw [if_neg (fun x => e (k2.1 x))] at h
    rw [if_neg (fun x => e x.symm), h]
    by_cases l : p * d' < q * b'
    · rw [decide_eq_true (k1.2 l), decide_eq_false (by omega)]; cases tu <;> rfl
    · rw [decide_eq_false (fun x => l (k1.1 x)), decide_eq_true (show q * b' < p * d' by omega)]; cases tu <;> rfl
set_option maxHeartbeats 2000000 in
set_option maxRecDepth 100000 in
theorem refLess_any {a b c d : Nat} (ha : a < 4611686018427387904) (hb : b < 4611686018427387904) (hc : c < 4611686018427387904) (hd : d < 4611686018427387904) (hb1 : 1 ≤ b) (hd1 : 1 ≤ d) (w : World) :
    Calls Try.prog 46 #[fracV a b, fracV c d] w fun e w' => e = .returned (.bool (decide (a * d < c * b))) ∧ Below w.heap.size w w' := by
  have h0 : Keep (LInv a b c d a b c d false) := ⟨by
    unfold LInv
    split
    · assumption
    · simp⟩
  obtain ⟨D, hD⟩ : ∃ D, Keep (decide (a * d < c * b) = D) := ⟨_, ⟨rfl⟩⟩
  rw [hD.out]
  unfold fracV
  obtain ⟨w0, hw0⟩ : ∃ w0, (w.alloc (.cells #[.int .i64 a, .int .i64 b] 27)).alloc (.cells #[.int .i64 c, .int .i64 d] 27) = w0 := ⟨_, rfl⟩
  have hbw0 : Below w.heap.size w w0 := by rw [← hw0]; exact ((Below.refl _ w).alloc (Nat.le_refl _) _).alloc (by simp) _
  obtain ⟨u0, u1, u2, u3⟩ : Own2 w0 w.heap.size (.int .i64 a) (.int .i64 b) := by rw [← hw0]; exact (Own2.new w _ _ _).after ((Below.refl _ _).alloc (Nat.le_refl _) _)
  obtain ⟨v0, v1, v2, v3⟩ : Own2 w0 (w.heap.size + 1) (.int .i64 c) (.int .i64 d) := by
    rw [← hw0]; have := Own2.new (w.alloc (.cells #[.int .i64 a, .int .i64 b] 27)) (.int .i64 c) (.int .i64 d) 27; rwa [World.size_alloc] at this
  have hak := Keep.mk ha
  have hbk := Keep.mk hb
  have hck := Keep.mk hc
  have hdk := Keep.mk hd
  clear ha hb hc hd
  go_enter Try.func46, Try.ntmps46
  go_wp2
  try rw [hw0]
  clear hw0
  go_quiet (fail)
  go_wp2
  go_loopw [5, 6, 7, 8, 9] (fun x1 x2 x3 x4 x5 wr => ∃ (a' b' c' d' : Nat) (tu : Bool), x1 = .int .i64 a' ∧ x2 = .int .i64 b' ∧ x3 = .int .i64 c' ∧ x4 = .int .i64 d' ∧ x5 = .bool tu ∧ Keep (a' < 4611686018427387904 ∧ b' < 4611686018427387904 ∧ c' < 4611686018427387904 ∧ d' < 4611686018427387904) ∧ 1 ≤ b' ∧ 1 ≤ d' ∧ Keep (LInv a b c d a' b' c' d' tu) ∧ Below w.heap.size w wr) (fun _ x2 _ _ _ _ => (intOf x2).toNat)
  case atStart => exact ⟨a, b, c, d, false, rfl, rfl, rfl, rfl, rfl, ⟨hak.out, hbk.out, hck.out, hdk.out⟩, hb1, hd1, h0, below_drewN hbw0 _⟩
  case round =>
    obtain ⟨a', b', c', d', tu, rfl, rfl, rfl, rfl, rfl, hlt, k1, k2, hI, hbw⟩ := hrel
    have z1 : ((b' : Int) == 0) = false := by rw [beq_eq_false_iff_ne]; omega
    have z2 : ((d' : Int) == 0) = false := by rw [beq_eq_false_iff_ne]; omega
    have z3 : ¬ b' = 0 := by omega
    have z4 : ¬ d' = 0 := by omega
    obtain ⟨x, hx⟩ : ∃ x, Keep (a' / b' = x) := ⟨_, ⟨rfl⟩⟩
    obtain ⟨y, hy⟩ : ∃ y, Keep (c' / d' = y) := ⟨_, ⟨rfl⟩⟩
    have lx : x < 4611686018427387904 := by rw [← hx.out]; exact Nat.lt_of_le_of_lt (Nat.div_le_self _ _) hlt.out.1
    have ly : y < 4611686018427387904 := by rw [← hy.out]; exact Nat.lt_of_le_of_lt (Nat.div_le_self _ _) hlt.out.2.2.1
    have e1 : IntKind.i64.wrap ((a' : Int).tdiv (b' : Int)) = (x : Int) := by rw [IntWalk.up_tdiv rfl rfl, hx.out, IntWalk.i64_in _ (by omega)]
    have e2 : IntKind.i64.wrap ((c' : Int).tdiv (d' : Int)) = (y : Int) := by rw [IntWalk.up_tdiv rfl rfl, hy.out, IntWalk.i64_in _ (by omega)]
    have e3 : IntKind.i64.wrap ((a' : Int) / (b' : Int)) = (x : Int) := e1
    have e4 : IntKind.i64.wrap ((c' : Int) / (d' : Int)) = (y : Int) := e2
    have e5 : wrap64 ((a' : Int) / (b' : Int)) = (x : Int) := by rw [show (a' : Int) / (b' : Int) = (x : Int) by rw [← hx.out]; rfl]; unfold wrap64; omega
    have e6 : wrap64 ((c' : Int) / (d' : Int)) = (y : Int) := by rw [show (c' : Int) / (d' : Int) = (y : Int) by rw [← hy.out]; rfl]; unfold wrap64; omega
    have lxk := Keep.mk lx
    have lyk := Keep.mk ly
    clear lx ly
    go_wp2
    go_quiet (fail)
    have hbw := below_drewN hbw nq
    revert hbw
    generalize wr.drewN nq = wr
    intro hbw
    clear e1 e2 e3 e4 e5 e6
    by_cases hxy : x = y
    · have hxy' : ((x : Int) == (y : Int)) = true := by rw [beq_iff_eq]; omega
      have hfe : a' / b' = c' / d' := by rw [hx.out, hy.out, hxy]
      have hfek := Keep.mk hfe
      obtain ⟨p, hp⟩ : ∃ p, Keep (a' % b' = p) := ⟨_, ⟨rfl⟩⟩
      obtain ⟨q, hq⟩ : ∃ q, Keep (c' % d' = q) := ⟨_, ⟨rfl⟩⟩
      have lp : p < b' := by rw [← hp.out]; exact Nat.mod_lt _ (by omega)
      have lq : q < d' := by rw [← hq.out]; exact Nat.mod_lt _ (by omega)
      have lp2 : p < 4611686018427387904 := Nat.lt_trans lp hlt.out.2.1
      have lq2 : q < 4611686018427387904 := Nat.lt_trans lq hlt.out.2.2.2
      have r1 : IntKind.i64.wrap ((a' : Int).tmod (b' : Int)) = (p : Int) := by rw [IntWalk.up_tmod rfl rfl, hp.out, IntWalk.i64_in _ (by omega)]
      have r2 : IntKind.i64.wrap ((c' : Int).tmod (d' : Int)) = (q : Int) := by rw [IntWalk.up_tmod rfl rfl, hq.out, IntWalk.i64_in _ (by omega)]
      have r3 : (a' : Int) % (b' : Int) = (p : Int) := by rw [← hp.out]; rfl
      have r4 : (c' : Int) % (d' : Int) = (q : Int) := by rw [← hq.out]; rfl
      have lk : Keep (b' < 4611686018427387904 ∧ p < 4611686018427387904 ∧ d' < 4611686018427387904 ∧ q < 4611686018427387904) := ⟨hlt.out.2.1, lp2, hlt.out.2.2.2, lq2⟩
      have lpk := Keep.mk lp
      have hxyk := Keep.mk hxy
      clear lp2 lq2 hfe lq lp hxy
      go_wp2
      go_quiet (fail)
      have hbw := below_drewN hbw nq
      revert hbw
      generalize wr.drewN nq = wr
      intro hbw
      clear r1 r2
      by_cases hp0 : p = 0
      · have g1 : ((p : Int) == 0) = true := by rw [beq_iff_eq]; omega
        by_cases hq0 : q = 0
        · have g2 : ((q : Int) == 0) = true := by rw [beq_iff_eq]; omega
          have hres := hI.out.out_zero k1 k2 hfek.out (by rw [hp.out]; exact hp0) (by rw [hq.out]; exact hq0)
          rw [hD.out] at hres
          have hresk := Keep.mk hres
          clear hp0 hq0 hres
          go_wp2
          go_ret
          exact ⟨by rw [hresk.out]; rfl, hbw⟩
        · have g2 : ((q : Int) == 0) = false := by rw [beq_eq_false_iff_ne]; omega
          have hres := hI.out.out_one k1 k2 hfek.out (by rw [hp.out, hq.out]; omega)
          rw [hD.out, hp.out, decide_eq_true hp0] at hres
          have hresk := Keep.mk hres
          clear hp0 hq0 hres
          go_wp2
          go_ret
          exact ⟨by rw [← hresk.out]; first | rfl | simp, hbw⟩
      · have g1 : ((p : Int) == 0) = false := by rw [beq_eq_false_iff_ne]; omega
        by_cases hq0 : q = 0
        · have g2 : ((q : Int) == 0) = true := by rw [beq_iff_eq]; omega
          have hres := hI.out.out_one k1 k2 hfek.out (by rw [hp.out, hq.out]; omega)
          rw [hD.out, hp.out, decide_eq_false hp0] at hres
          have hresk := Keep.mk hres
          clear hp0 hq0 hres
          go_wp2
          go_ret
          exact ⟨by rw [← hresk.out]; first | rfl | simp, hbw⟩
        · have g2 : ((q : Int) == 0) = false := by rw [beq_eq_false_iff_ne]; omega
          have hnx := Keep.mk (hI.out.next k1 k2 hfek.out)
          rw [hp.out, hq.out] at hnx
          have hp1 : 1 ≤ p := by omega
          have hq1 : 1 ≤ q := by omega
          clear hp0 hq0
          go_wp2
          exact ⟨⟨b', p, d', q, !tu, by first | rfl | rw [r3], by first | rfl | rw [r3], by first | rfl | rw [r4], by first | rfl | rw [r4], rfl, lk, hp1, hq1, hnx, hbw⟩, by simp [intOf]; have := lpk.out; first | omega | (rw [r3]; omega) | (simp [r3]; omega)⟩
    · have hxy' : ((x : Int) == (y : Int)) = false := by rw [beq_eq_false_iff_ne]; intro h; exact hxy (Int.ofNat_inj.1 h)
      have hres := hI.out.out_ne k1 k2 (by rw [hx.out, hy.out]; exact hxy)
      rw [hD.out, hx.out, hy.out] at hres
      have hresk := Keep.mk hres
      rw [hxy']
      clear hxy hres hxy'
      go_wp2
      have e1 : IntKind.i64.wrap ((a' : Int).tdiv (b' : Int)) = (x : Int) := by rw [IntWalk.up_tdiv rfl rfl, hx.out, IntWalk.i64_in _ (by have := lxk.out; omega)]
      have e2 : IntKind.i64.wrap ((c' : Int).tdiv (d' : Int)) = (y : Int) := by rw [IntWalk.up_tdiv rfl rfl, hy.out, IntWalk.i64_in _ (by have := lyk.out; omega)]
      have e3 : IntKind.i64.wrap ((a' : Int) / (b' : Int)) = (x : Int) := e1
      have e4 : IntKind.i64.wrap ((c' : Int) / (d' : Int)) = (y : Int) := e2
      have e5 : wrap64 ((a' : Int) / (b' : Int)) = (x : Int) := by rw [show (a' : Int) / (b' : Int) = (x : Int) by rw [← hx.out]; rfl]; unfold wrap64; have := lxk.out; omega
      have e6 : wrap64 ((c' : Int) / (d' : Int)) = (y : Int) := by rw [show (c' : Int) / (d' : Int) = (y : Int) by rw [← hy.out]; rfl]; unfold wrap64; have := lyk.out; omega
      go_quiet (fail)
      clear e1 e2 e3 e4 e5 e6
      have hbw := below_drewN hbw nq
      revert hbw
      generalize wr.drewN nq = wr
      intro hbw
      have hfin : (!(decide (x < y) == tu)) = D := by
        rw [← hresk.out]
        generalize decide (x < y) = L
        cases L <;> cases tu <;> rfl
      clear hresk
      go_wp2
      go_ret
      exact ⟨congrArg (fun z => Ending.returned (Value.bool z)) hfin, hbw⟩
end Go.Proofs.Ytbmfipjnfbnjgaa
