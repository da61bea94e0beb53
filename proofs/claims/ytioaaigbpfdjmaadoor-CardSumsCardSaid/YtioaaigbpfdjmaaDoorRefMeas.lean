import Derived.Test.YtioaaigbpfdjmaaDoorMeasMath
import Derived.Test.YtioaaigbpfdjmaaDoorRefSum
set_option linter.unusedSimpArgs false
set_option linter.unusedVariables false
namespace Go.Proofs.YtioaaigbpfdjmaaDoor
open Go Go.Proofs Go.RowKit
theorem int_max2 {a b : Nat} : (if a < b then (b : Int) else (a : Int)) = ((max a b : Nat) : Int) := by
  split <;> omega
theorem flip_in : ∀ n, n ≤ 5 → ∀ i, i < n → ∀ p, p < 2 ^ n → p ^^^ 2 ^ i < 2 ^ n := by decide +kernel
theorem sum_char {s : ByteArray} {n N p : Nat} {T : ByteArray} (hT : T = ⟨(sumL s n N).toArray⟩) (hp : p < N) : ∃ h : p < T.size, T[p] = if rnd (fb s) n p then 49 else 48 := by
  have hs : T.size = N := by rw [hT]; show (sumL s n N).toArray.size = N; rw [List.size_toArray, sumL_len]
  refine ⟨by omega, ?_⟩
  rw [← getD_at (s := T) (by omega), hT]
  exact sumL_get hp
set_option maxHeartbeats 4000000 in
set_option maxRecDepth 100000 in
theorem refMeas_any {s : ByteArray} {w : World} {n N : Nat} (h40 : s.size ≤ 40) (htot : Keep (totOf s ≠ 0)) (hn : Keep (varsOf s = n)) (hn5 : n ≤ 5) (hN : Keep (N = 2 ^ n)) (hN1 : 1 ≤ N) (hN32 : N ≤ 32) (hsz : Keep (s.size = N)) {D M C K : Nat}
    (hD : Keep (degN (rnd (fb s) n) N = D)) (hM : Keep (sensM (fb s) n N = M)) (hC : Keep (certM (fb s) N n N = C)) (hK : Keep (onesK (fb s) N = K)) :
    Calls Tryd.prog 40 #[.string s] w fun e w' => e = .returned (.agg #[.int .i64 D, .int .i64 M, .int .i64 C, .int .i64 K]) ∧ Below w.heap.size w w' := by
  have hwN := wrap_pow (k := n) (by omega)
  rw [← hN.out] at hwN
  have hwN2 : IntKind.i64.wrap (2 ^ n) = (N : Int) := hwN
  clear hwN
  go_enter Tryd.func40, Tryd.ntmps40
  go_wp2_with (first
    | (go_at_call 19; refine (vars_any s h40 _).mono ?_; rintro e w' ⟨rfl, rfl⟩; rw [hn.out])
    | (go_at_call 39; refine (refSum_any (by rw [hsz.out]; exact hN32) (by rw [hsz.out]; exact hN1)).mono ?_; rintro e w2 ⟨rfl, hb2⟩
       rw [hsz.out, ref_sum hn5 hN.out]
       obtain ⟨T, hT⟩ : ∃ T : ByteArray, Keep (T = ⟨(sumL s n N).toArray⟩) := ⟨_, ⟨rfl⟩⟩
       rw [← hT.out]
       obtain ⟨hm2, hlt2, hb22⟩ := carry4 hb2
       have hme2 : Keep (RowAt w2 (w.heap.size + 1) 4 (fun j => [(0 : Int), 0, 0, 0].getD j 0)) := ⟨by simpa using hm2⟩
       have hlt2' : w.heap.size + 1 < w2.heap.size := by simpa using hlt2
       obtain ⟨hr2, _, hbw2⟩ := carry4 (w := w) (hb22)
       have hrow2 : Keep (RowAt w2 w.heap.size 4 (fun j => [(0 : Int), 0, 0, 0].getD j 0)) := ⟨hr2⟩
       clear hb2 hb22 hm2 hlt2 hr2))
  go_loopw [6] (fun i wr => ∃ p : Nat, p ≤ N ∧ i = .int .i64 p ∧ Keep (RowAt wr (w.heap.size + 1) 4 (fun j => [((degN (rnd (fb s) n) p : Nat) : Int), ((sensM (fb s) n p : Nat) : Int), ((certM (fb s) N n p : Nat) : Int), ((onesK (fb s) p : Nat) : Int)].getD j 0)) ∧ Keep (RowAt wr w.heap.size 4 (fun j => [(0 : Int), 0, 0, 0].getD j 0)) ∧ w.heap.size + 1 < wr.heap.size ∧ Below w.heap.size w wr) (fun i _ => N - (intOf i).toNat)
  case atStart => exact ⟨0, by omega, rfl, hme2, hrow2, hlt2', hbw2⟩
  case round =>
    clear hme2 hrow2 hlt2' hbw2
    obtain ⟨p, hp, rfl, hme, hrow, hlt, hbw⟩ := hrel
    by_cases hpN : p < N
    · have hps : p < s.size := by rw [hsz.out]; exact hpN
      have hp32 : p < 32 := by omega
      obtain ⟨hpT, hTv⟩ := sum_char hT.out hpN
      have hn0 : Keep (degN (rnd (fb s) n) (p + 1) = if rnd (fb s) n p then max (degN (rnd (fb s) n) p) (digN p) else degN (rnd (fb s) n) p) := ⟨degN_push _ _⟩
      have hn1 : Keep (sensM (fb s) n (p + 1) = max (sensM (fb s) n p) (sensK (fb s) p n)) := ⟨sensM_push _ _ _⟩
      have hn2 : Keep (certM (fb s) N n (p + 1) = max (certM (fb s) N n p) (certK (fb s) N n p N)) := ⟨certM_push _ _ _ _⟩
      have hn3 : Keep (onesK (fb s) (p + 1) = onesK (fb s) p + (fb s p).toNat) := ⟨onesK_push _ _⟩
      have l0 := degN_le (rnd (fb s) n) p
      have l1 := sensM_le (fb s) n p
      have l2 := certM_le (fb s) N n p
      have l3 := onesK_le (fb s) p
      obtain ⟨m0, hm0⟩ : ∃ m, Keep (degN (rnd (fb s) n) p = m) := ⟨_, ⟨rfl⟩⟩
      obtain ⟨m1, hm1⟩ : ∃ m, Keep (sensM (fb s) n p = m) := ⟨_, ⟨rfl⟩⟩
      obtain ⟨m2, hm2⟩ : ∃ m, Keep (certM (fb s) N n p = m) := ⟨_, ⟨rfl⟩⟩
      obtain ⟨m3, hm3⟩ : ∃ m, Keep (onesK (fb s) p = m) := ⟨_, ⟨rfl⟩⟩
      rw [hm0.out] at l0 hme hn0
      rw [hm1.out] at l1 hme hn1
      rw [hm2.out] at l2 hme hn2
      rw [hm3.out] at l3 hme hn3
      obtain ⟨q0, q1, q2, q3, g0, g1, g2, g3⟩ := row_cases hme.out
      obtain ⟨c0, hc0⟩ : ∃ c, Keep (digN p = c) := ⟨_, ⟨rfl⟩⟩
      have hd5 := dig_le p
      rw [hc0.out] at hd5 hn0
      -- the degree, after the first test
      have key : ∃ y : Nat, Keep (degN (rnd (fb s) n) (p + 1) = y) := ⟨_, ⟨rfl⟩⟩
      obtain ⟨y0, hy0⟩ := key
      rw [hy0.out] at hn0
      obtain ⟨y3, hy3⟩ : ∃ y : Nat, Keep (onesK (fb s) (p + 1) = y) := ⟨_, ⟨rfl⟩⟩
      rw [hy3.out] at hn3
      have hwG : Keep (w.heap.size ≠ w.heap.size + 1) := ⟨by omega⟩
      have hF := fb_at hps
      have hsum1 : IntKind.i64.wrap ((m3 : Int) + 1) = (m3 : Int) + 1 := by rw [IntKind.wrap_i64]; omega
      cases hR : rnd (fb s) n p <;> cases hf : fb s p
      case' false.false =>
        rw [hR] at hTv hn0
        rw [hf] at hn3 hF
        have hT49 : ((T[p].toNat : Int) == 49) = false := by rw [hTv]; rfl
        have hF49 : ((s[p].toNat : Int) == 49) = false := by rw [beq_eq_false_iff_ne]; intro h; rw [u8_of (n := 49) (by omega) h] at hF; cases hF
        have hmeX : Keep (RowAt wr (w.heap.size + 1) 4 (fun j => [(y0 : Int), (m1 : Int), (m2 : Int), (y3 : Int)].getD j 0)) := ⟨by
          have a0 : y0 = m0 := hn0.out
          have a3 : y3 = m3 := hn3.out
          rw [a0, a3]; exact hme.out⟩
        have hrowX := hrow
        have hltX := hlt
        have hbwX := hbw
        clear hTv hR hF hf hme hrow hlt hbw hsum1
        go_wp2
        obtain ⟨W, hW⟩ : ∃ W, W = wr := ⟨_, rfl⟩
        rw [← hW] at hmeX hrowX hltX hbwX ⊢
        clear hW q0 q1 q2 q3 g0 g1 g2 g3
      case' false.true =>
        rw [hR] at hTv hn0
        rw [hf] at hn3 hF
        have hT49 : ((T[p].toNat : Int) == 49) = false := by rw [hTv]; rfl
        have hF49 : (s[p].toNat : Int) = 49 := by have := beq_iff_eq.1 hF.symm; rw [this]; rfl
        have hmeX : Keep (RowAt (wr.setCell ⟨w.heap.size + 1, 3, none⟩ (.int .i64 ((m3 : Int) + 1))) (w.heap.size + 1) 4 (fun j => [(y0 : Int), (m1 : Int), (m2 : Int), (y3 : Int)].getD j 0)) := ⟨by
          have a0 : y0 = m0 := hn0.out
          have a1 : y3 = m3 + 1 := hn3.out
          have a3 : (y3 : Int) = (m3 : Int) + 1 := by omega
          rw [a0, a3]; exact row3_set hme.out⟩
        have hrowX : Keep (RowAt (wr.setCell ⟨w.heap.size + 1, 3, none⟩ (.int .i64 ((m3 : Int) + 1))) w.heap.size 4 (fun j => [(0 : Int), 0, 0, 0].getD j 0)) := ⟨row_other hrow.out hwG.out _⟩
        have hltX : w.heap.size + 1 < (wr.setCell ⟨w.heap.size + 1, 3, none⟩ (.int .i64 ((m3 : Int) + 1))).heap.size := by simpa using hlt
        have hbwX : Below w.heap.size w (wr.setCell ⟨w.heap.size + 1, 3, none⟩ (.int .i64 ((m3 : Int) + 1))) := below_set hbw (by omega) _
        clear hTv hR hF hf hme hrow hlt hbw hsum1
        go_wp2
        generalize wr.setCell ⟨w.heap.size + 1, 3, none⟩ (.int .i64 ((m3 : Int) + 1)) = W at hmeX hrowX hltX hbwX ⊢
        clear q0 q1 q2 q3 g0 g1 g2 g3
      case' true.false =>
        rw [hR] at hTv hn0
        have hT49 : (T[p].toNat : Int) = 49 := by rw [hTv]; rfl
        go_wp2
        go_region_with (first
          | (go_at_call 82; (with_reducible refine (digits_any p hp32 _).mono ?_); rintro e w5 ⟨rfl, hb5⟩
             rw [hc0.out]
             have hb5' : Below wr.heap.size wr w5 := (below_drewN (Below.refl _ _) 1).trans hb5
             have hme5 : Keep (RowAt w5 (w.heap.size + 1) 4 (fun j => [(m0 : Int), (m1 : Int), (m2 : Int), (m3 : Int)].getD j 0)) := ⟨row_below hme.out hb5'⟩
             have hrow5 : Keep (RowAt w5 w.heap.size 4 (fun j => [(0 : Int), 0, 0, 0].getD j 0)) := ⟨row_below hrow.out hb5'⟩
             have hlt5 : w.heap.size + 1 < w5.heap.size := Nat.lt_of_lt_of_le hlt hb5'.size
             have hbw5 : Keep (Below w.heap.size w w5) := ⟨below_trans hbw hb5' hbw.size⟩
             have e5 := (row_cases hme5.out).1
             have f5 := (row_cases hme5.out).2.2.2.2.1
             clear hb5 hb5'))
        all_goals
          generalize hy : (if m0 < c0 then (c0 : Int) else (m0 : Int)) = y
          have hyk : Keep (y = (y0 : Int)) := ⟨by
            have a0 : y0 = max m0 c0 := hn0.out
            rw [← hy, int_max2, a0]⟩
          clear hy
          have hmeY : Keep (RowAt (w5.setCell ⟨w.heap.size + 1, 0, none⟩ (.int .i64 y)) (w.heap.size + 1) 4 (fun j => [(y0 : Int), (m1 : Int), (m2 : Int), (m3 : Int)].getD j 0)) := ⟨by rw [← hyk.out]; exact row0_set hme5.out⟩
          have hrowY : Keep (RowAt (w5.setCell ⟨w.heap.size + 1, 0, none⟩ (.int .i64 y)) w.heap.size 4 (fun j => [(0 : Int), 0, 0, 0].getD j 0)) := ⟨row_other hrow5.out hwG.out _⟩
          have hltY : w.heap.size + 1 < (w5.setCell ⟨w.heap.size + 1, 0, none⟩ (.int .i64 y)).heap.size := by simpa using hlt5
          have hbwY : Below w.heap.size w (w5.setCell ⟨w.heap.size + 1, 0, none⟩ (.int .i64 y)) := below_set hbw5.out (by omega) _
          generalize w5.setCell ⟨w.heap.size + 1, 0, none⟩ (.int .i64 y) = V at hmeY hrowY hltY hbwY ⊢
          clear hme5 hrow5 hlt5 hbw5 e5 f5
          clear q0 q1 q2 q3 g0 g1 g2 g3
          rw [hf] at hn3 hF
          have hF49 : ((s[p].toNat : Int) == 49) = false := by rw [beq_eq_false_iff_ne]; intro h; rw [u8_of (n := 49) (by omega) h] at hF; cases hF
          have hmeX : Keep (RowAt V (w.heap.size + 1) 4 (fun j => [(y0 : Int), (m1 : Int), (m2 : Int), (y3 : Int)].getD j 0)) := ⟨by
            have a3 : y3 = m3 := hn3.out
            rw [a3]; exact hmeY.out⟩
          have hrowX := hrowY
          have hltX := hltY
          have hbwX := hbwY
          clear hTv hR hF hf hme hrow hlt hbw hsum1 hmeY hrowY hltY hbwY hT49
          go_wp2
          obtain ⟨W, hW⟩ : ∃ W, W = V := ⟨_, rfl⟩
          rw [← hW] at hmeX hrowX hltX hbwX ⊢
          clear hW
      case' true.true =>
        rw [hR] at hTv hn0
        have hT49 : (T[p].toNat : Int) = 49 := by rw [hTv]; rfl
        go_wp2
        go_region_with (first
          | (go_at_call 82; (with_reducible refine (digits_any p hp32 _).mono ?_); rintro e w5 ⟨rfl, hb5⟩
             rw [hc0.out]
             have hb5' : Below wr.heap.size wr w5 := (below_drewN (Below.refl _ _) 1).trans hb5
             have hme5 : Keep (RowAt w5 (w.heap.size + 1) 4 (fun j => [(m0 : Int), (m1 : Int), (m2 : Int), (m3 : Int)].getD j 0)) := ⟨row_below hme.out hb5'⟩
             have hrow5 : Keep (RowAt w5 w.heap.size 4 (fun j => [(0 : Int), 0, 0, 0].getD j 0)) := ⟨row_below hrow.out hb5'⟩
             have hlt5 : w.heap.size + 1 < w5.heap.size := Nat.lt_of_lt_of_le hlt hb5'.size
             have hbw5 : Keep (Below w.heap.size w w5) := ⟨below_trans hbw hb5' hbw.size⟩
             have e5 := (row_cases hme5.out).1
             have f5 := (row_cases hme5.out).2.2.2.2.1
             clear hb5 hb5'))
        all_goals
          generalize hy : (if m0 < c0 then (c0 : Int) else (m0 : Int)) = y
          have hyk : Keep (y = (y0 : Int)) := ⟨by
            have a0 : y0 = max m0 c0 := hn0.out
            rw [← hy, int_max2, a0]⟩
          clear hy
          have hmeY : Keep (RowAt (w5.setCell ⟨w.heap.size + 1, 0, none⟩ (.int .i64 y)) (w.heap.size + 1) 4 (fun j => [(y0 : Int), (m1 : Int), (m2 : Int), (m3 : Int)].getD j 0)) := ⟨by rw [← hyk.out]; exact row0_set hme5.out⟩
          have hrowY : Keep (RowAt (w5.setCell ⟨w.heap.size + 1, 0, none⟩ (.int .i64 y)) w.heap.size 4 (fun j => [(0 : Int), 0, 0, 0].getD j 0)) := ⟨row_other hrow5.out hwG.out _⟩
          have hltY : w.heap.size + 1 < (w5.setCell ⟨w.heap.size + 1, 0, none⟩ (.int .i64 y)).heap.size := by simpa using hlt5
          have hbwY : Below w.heap.size w (w5.setCell ⟨w.heap.size + 1, 0, none⟩ (.int .i64 y)) := below_set hbw5.out (by omega) _
          generalize w5.setCell ⟨w.heap.size + 1, 0, none⟩ (.int .i64 y) = V at hmeY hrowY hltY hbwY ⊢
          clear hme5 hrow5 hlt5 hbw5 e5 f5
          clear q0 q1 q2 q3 g0 g1 g2 g3
          rw [hf] at hn3 hF
          have hF49 : (s[p].toNat : Int) = 49 := by have := beq_iff_eq.1 hF.symm; rw [this]; rfl
          have hmeX : Keep (RowAt (V.setCell ⟨w.heap.size + 1, 3, none⟩ (.int .i64 ((m3 : Int) + 1))) (w.heap.size + 1) 4 (fun j => [(y0 : Int), (m1 : Int), (m2 : Int), (y3 : Int)].getD j 0)) := ⟨by
            have a1 : y3 = m3 + 1 := hn3.out
            have a3 : (y3 : Int) = (m3 : Int) + 1 := by omega
            rw [a3]; exact row3_set hmeY.out⟩
          have hrowX : Keep (RowAt (V.setCell ⟨w.heap.size + 1, 3, none⟩ (.int .i64 ((m3 : Int) + 1))) w.heap.size 4 (fun j => [(0 : Int), 0, 0, 0].getD j 0)) := ⟨row_other hrowY.out hwG.out _⟩
          have hltX : w.heap.size + 1 < (V.setCell ⟨w.heap.size + 1, 3, none⟩ (.int .i64 ((m3 : Int) + 1))).heap.size := by simpa using hltY
          have hbwX : Below w.heap.size w (V.setCell ⟨w.heap.size + 1, 3, none⟩ (.int .i64 ((m3 : Int) + 1))) := below_set hbwY (by omega) _
          obtain ⟨_, _, _, q3, _, _, _, g3⟩ := row_cases hmeY.out
          clear hTv hR hF hf hme hrow hlt hbw hmeY hrowY hltY hbwY hT49
          go_wp2
          generalize V.setCell ⟨w.heap.size + 1, 3, none⟩ (.int .i64 ((m3 : Int) + 1)) = W at hmeX hrowX hltX hbwX ⊢
          clear q3 g3 hsum1
      all_goals
        go_loopw [7, 9] (fun a i w3 => ∃ k d m : Nat, k ≤ n ∧ i = .int .i64 k ∧ a = .int .i64 m ∧ Keep (m = sensK (fb s) p k) ∧ w3 = W.drewN d) (fun _ i _ => n - (intOf i).toNat)
        case atStart => exact ⟨0, 0, 0, by omega, rfl, rfl, ⟨rfl⟩, rfl⟩
        case round =>
          obtain ⟨k, d, m, hk, rfl, rfl, hm, rfl⟩ := hrel
          by_cases hkn : k < n
          · have hw := wrap_pow (k := k) (by omega)
            obtain ⟨P, hP⟩ : ∃ P, Keep (P = 2 ^ k) := ⟨_, ⟨rfl⟩⟩
            rw [← hP.out] at hw
            have hP32 : P < 32 := by
              have h1 : 2 ^ k < 2 ^ 5 := Nat.pow_lt_pow_right (by decide) (by omega)
              have := hP.out; omega
            have hxs : p ^^^ P < s.size := by
              have := flip_in n hn5 k hkn p (by rw [← hN.out]; exact hpN)
              rw [hsz.out, hN.out, hP.out]; exact this
            have hxor : bits .xor .i64 (p : Int) (P : Int) = ((p ^^^ P : Nat) : Int) := xor_i64 p P (by omega) (by omega)
            have hm5 : m ≤ 5 := by rw [hm.out]; exact Nat.le_trans (sensK_le _ _ _) (by omega)
            obtain ⟨x, hx⟩ : ∃ x, Keep (((s[p].toNat : Int) != (s[p ^^^ P].toNat : Int)) = x) := ⟨_, ⟨rfl⟩⟩
            have hnext : Keep (sensK (fb s) p (k + 1) = m + x.toNat) := ⟨by
              rw [sensK_push, ← hm.out, ← hP.out, fb_at hps, fb_at hxs, ← hx.out]
              rcases tot_char htot.out p hps with h | h <;> rcases tot_char htot.out _ hxs with h' | h' <;> rw [h, h'] <;> rfl⟩
            have hxo := hx.out
            cases x
            · go_wp2
              go_quiet (fail)
              go_wp2
              exact ⟨⟨k + 1, _, m, by omega, by go_num, rfl, ⟨hnext.out.symm⟩, rfl⟩, by simp [intOf]; omega⟩
            · go_wp2
              go_quiet (fail)
              go_wp2
              exact ⟨⟨k + 1, _, m + 1, by omega, by go_num, by go_num, ⟨hnext.out.symm⟩, rfl⟩, by simp [intOf]; omega⟩
          · have : k = n := by omega
            subst this
            have hmk : Keep (sensK (fb s) p k = m) := ⟨hm.out.symm⟩
            rw [hmk.out] at hn1
            have hm5 : m ≤ 5 := by rw [hm.out]; exact Nat.le_trans (sensK_le _ _ _) (by omega)
            clear hm
            have hmeD : Keep (RowAt (W.drewN d) (w.heap.size + 1) 4 (fun j => [(y0 : Int), (m1 : Int), (m2 : Int), (y3 : Int)].getD j 0)) := hmeX
            have hrowD : Keep (RowAt (W.drewN d) w.heap.size 4 (fun j => [(0 : Int), 0, 0, 0].getD j 0)) := hrowX
            have hltD : w.heap.size + 1 < (W.drewN d).heap.size := hltX
            have hbwD : Below w.heap.size w (W.drewN d) := below_drewN hbwX d
            generalize W.drewN d = V at hmeD hrowD hltD hbwD ⊢
            clear hmeX hrowX hltX hbwX
            go_wp2
            go_loopw [8, 10] (fun a i w3 => ∃ v x : Nat, v ≤ N ∧ i = .int .i64 v ∧ a = .int .i64 x ∧ Keep (x = certK (fb s) N k p v) ∧ Keep (RowAt w3 (w.heap.size + 1) 4 (fun j => [(y0 : Int), (m1 : Int), (m2 : Int), (y3 : Int)].getD j 0)) ∧ Keep (RowAt w3 w.heap.size 4 (fun j => [(0 : Int), 0, 0, 0].getD j 0)) ∧ w.heap.size + 1 < w3.heap.size ∧ Below w.heap.size w w3) (fun _ i _ => N - (intOf i).toNat)
            case atStart => exact ⟨0, k, by omega, rfl, rfl, ⟨rfl⟩, hmeD, hrowD, hltD, hbwD⟩
            case round =>
              clear hmeD hrowD hltD hbwD
              obtain ⟨v, x, hv, rfl, rfl, hxk, hmeV, hrowV, hltV, hbwV⟩ := hrel
              by_cases hvN : v < N
              · have hv32 : v < 32 := by omega
                have hpush : Keep (certK (fb s) N k p (v + 1) = if decN (fb s) N p v then min x (digN v) else x) := ⟨by rw [certK_push, hxk.out]⟩
                have hx5 : x ≤ 5 := by rw [hxk.out]; exact Nat.le_trans (certK_le _ _ _ _ _) hn5
                obtain ⟨cv, hcv⟩ : ∃ c, Keep (digN v = c) := ⟨_, ⟨rfl⟩⟩
                have hc5 := dig_le v
                rw [hcv.out] at hc5 hpush
                have hfin : ∀ wE : World, Below wr.heap.size wr wE → Keep (RowAt wE (w.heap.size + 1) 4 (fun j => [(y0 : Int), (m1 : Int), (m2 : Int), (y3 : Int)].getD j 0)) ∧ Keep (RowAt wE w.heap.size 4 (fun j => [(0 : Int), 0, 0, 0].getD j 0)) ∧ w.heap.size + 1 < wE.heap.size ∧ Below w.heap.size w wE := fun wE hb =>
                  ⟨⟨row_below hmeV.out hb⟩, ⟨row_below hrowV.out hb⟩, Nat.lt_of_lt_of_le hltV hb.size, below_trans hbwV hb hbwV.size⟩
                have hfk : Keep (∀ wE : World, Below wr.heap.size wr wE → Keep (RowAt wE (w.heap.size + 1) 4 (fun j => [(y0 : Int), (m1 : Int), (m2 : Int), (y3 : Int)].getD j 0)) ∧ Keep (RowAt wE w.heap.size 4 (fun j => [(0 : Int), 0, 0, 0].getD j 0)) ∧ w.heap.size + 1 < wE.heap.size ∧ Below w.heap.size w wE) := ⟨hfin⟩
                clear hfin hmeV hrowV hbwV
                by_cases hcx : cv < x
                · cases hdv : decN (fb s) N p v
                  · rw [hdv] at hpush
                    have hdk : Keep (decN (fb s) N p v = false) := ⟨hdv⟩
                    clear hdv
                    go_wp2_with (first
                      | (go_at_call 82; refine (digits_any v hv32 _).mono ?_; rintro e w6 ⟨rfl, hb6⟩; rw [hcv.out])
                      | (go_at_call 83; refine (decides_any htot hsz hN32 hpN hv32).mono ?_; rintro e w7 ⟨rfl, hb7⟩; rw [hdk.out]
                         have hb67 := below_trans hb6 hb7 hb6.size
                         clear hb6 hb7))
                    exact ⟨⟨v + 1, x, by omega, by go_num, rfl, ⟨hpush.out.symm⟩, hfk.out _ hb67⟩, by simp [intOf]; omega⟩
                  · rw [hdv] at hpush
                    have hdk : Keep (decN (fb s) N p v = true) := ⟨hdv⟩
                    clear hdv
                    go_wp2_with (first
                      | (go_at_call 82; refine (digits_any v hv32 _).mono ?_; rintro e w8 ⟨rfl, hb8⟩; rw [hcv.out]
                         have hb678 := below_trans hb67 hb8 hb67.size
                         clear hb67 hb8)
                      | (go_at_call 82; refine (digits_any v hv32 _).mono ?_; rintro e w6 ⟨rfl, hb6⟩; rw [hcv.out])
                      | (go_at_call 83; refine (decides_any htot hsz hN32 hpN hv32).mono ?_; rintro e w7 ⟨rfl, hb7⟩; rw [hdk.out]
                         have hb67 := below_trans hb6 hb7 hb6.size
                         clear hb6 hb7))
                    exact ⟨⟨v + 1, cv, by omega, by go_num, rfl, ⟨by rw [hpush.out]; show cv = min x cv; omega⟩, hfk.out _ hb678⟩, by simp [intOf]; omega⟩
                · have hnx : Keep (certK (fb s) N k p (v + 1) = x) := ⟨by rw [hpush.out]; split <;> omega⟩
                  go_wp2_with (first
                    | (go_at_call 82; refine (digits_any v hv32 _).mono ?_; rintro e w6 ⟨rfl, hb6⟩; rw [hcv.out]))
                  exact ⟨⟨v + 1, x, by omega, by go_num, rfl, ⟨hnx.out.symm⟩, hfk.out _ hb6⟩, by simp [intOf]; omega⟩
              · have : v = N := by omega
                subst this
                have hx5 : x ≤ 5 := by rw [hxk.out]; exact Nat.le_trans (certK_le _ _ _ _ _) hn5
                rw [← hxk.out] at hn2
                obtain ⟨_, q1, q2, _, _, g1, g2, _⟩ := row_cases hmeV.out
                have hN' : Keep (degN (rnd (fb s) k) (p + 1) = y0) := hy0
                have hrel2 : ∀ u1 u2 : Int, u1 = ((max m1 m : Nat) : Int) → u2 = ((max m2 x : Nat) : Int) →
                    Keep (RowAt ((wr.setCell ⟨w.heap.size + 1, 1, none⟩ (.int .i64 u1)).setCell ⟨w.heap.size + 1, 2, none⟩ (.int .i64 u2)) (w.heap.size + 1) 4 (fun j => [((degN (rnd (fb s) k) (p + 1) : Nat) : Int), ((sensM (fb s) k (p + 1) : Nat) : Int), ((certM (fb s) v k (p + 1) : Nat) : Int), ((onesK (fb s) (p + 1) : Nat) : Int)].getD j 0)) ∧
                    Keep (RowAt ((wr.setCell ⟨w.heap.size + 1, 1, none⟩ (.int .i64 u1)).setCell ⟨w.heap.size + 1, 2, none⟩ (.int .i64 u2)) w.heap.size 4 (fun j => [(0 : Int), 0, 0, 0].getD j 0)) ∧
                    w.heap.size + 1 < ((wr.setCell ⟨w.heap.size + 1, 1, none⟩ (.int .i64 u1)).setCell ⟨w.heap.size + 1, 2, none⟩ (.int .i64 u2)).heap.size ∧
                    Below w.heap.size w ((wr.setCell ⟨w.heap.size + 1, 1, none⟩ (.int .i64 u1)).setCell ⟨w.heap.size + 1, 2, none⟩ (.int .i64 u2)) := fun u1 u2 h1 h2 => by
                  refine ⟨⟨?_⟩, ⟨row_other (row_other hrowV.out hwG.out _) hwG.out _⟩, by simpa using hltV, below_set (below_set hbwV (by omega) _) (by omega) _⟩
                  rw [hy0.out, hn1.out, hn2.out, hy3.out, ← h1, ← h2]
                  exact row2_set (row1_set hmeV.out)
                have hrk := Keep.mk hrel2
                clear hrel2 hmeV hrowV hxk
                by_cases h1 : m1 < m <;> by_cases h2 : m2 < x
                all_goals
                  go_wp2
                  exact ⟨⟨p + 1, by omega, by go_num, hrk.out _ _ (by omega) (by omega)⟩, by simp [intOf]; omega⟩
    · have : p = N := by omega
      subst this
      have hps : ¬ p < s.size := by rw [hsz.out]; omega
      rw [hD.out, hM.out, hC.out, hK.out] at hme
      obtain ⟨d0, d1, d2, d3, _, _, _, _⟩ := row_cases hme.out
      obtain ⟨r0, r1, r2, r3, y0, y1, y2, y3⟩ := row_cases hrow.out
      go_wp2
      refine bodyPost_ret (v := .agg #[.int .i64 D, .int .i64 M, .int .i64 C, .int .i64 K]) (by simp [results, Tryd.results40, go_sem]; go_simp) rfl ?_
      exact ⟨rfl, below_set (below_set (below_set (below_set hbw (by omega) _) (by omega) _) (by omega) _) (by omega) _⟩
end Go.Proofs.YtioaaigbpfdjmaaDoor
