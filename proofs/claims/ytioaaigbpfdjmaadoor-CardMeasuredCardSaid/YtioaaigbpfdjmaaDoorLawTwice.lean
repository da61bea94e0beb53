import Derived.Test.YtioaaigbpfdjmaaDoorFnMake
import Derived.Test.YtioaaigbpfdjmaaDoorMeas
import Derived.Test.YtioaaigbpfdjmaaDoorLawPoints
set_option linter.unusedSimpArgs false
set_option linter.unusedVariables false
namespace Go.Proofs.YtioaaigbpfdjmaaDoor
open Go Go.Proofs Go.RowKit Go.CRun
theorem splice_list (f : ByteArray) (p : Nat) (b : UInt8) (hp : p < f.size) : (f.extract 0 p ++ ⟨#[b]⟩ ++ f.extract (p + 1) f.size).data.toList = f.data.toList.set p b := by
  have hl : f.data.toList.length = f.size := by simp
  rw [List.set_eq_take_append_cons_drop, if_pos (by omega)]
  simp only [ByteArray.data_append, ByteArray.data_extract, Array.toList_append, Array.toList_extract]
  rw [List.append_assoc]
  congr 1
  simp only [List.singleton_append]
  congr 1
  exact List.take_of_length_le (by rw [List.length_drop]; omega)
theorem splice_fn {f g : ByteArray} {n N p : Nat} {b : UInt8} (hf : FnOK f n) (hN : N = 2 ^ n) (hp : p < f.size) (hb : b = 48 ∨ b = 49) (hg : f.extract 0 p ++ ⟨#[b]⟩ ++ f.extract (p + 1) f.size = g) (hne : (b == 49) = !(f[p] == 49)) :
    FnOK g n ∧ ∀ r, r < N → fb g r = Bool.xor (fb f r) (r == p) := by
  have hl := splice_list f p b hp
  rw [hg] at hl
  have hs : g.size = f.size := by
    have h1 : g.data.toList.length = g.size := by simp
    have h2 : f.data.toList.length = f.size := by simp
    rw [hl, List.length_set] at h1
    omega
  have hget : ∀ q, q < f.size → g.data.toList.getD q 0 = if q = p then b else f.data.toList.getD q 0 := fun q hq => by
    have h2 : f.data.toList.length = f.size := by simp
    rw [hl, List.getD_eq_getElem?_getD, List.getElem?_set]
    by_cases e : p = q
    · subst e; rw [if_pos rfl, if_pos (by omega), if_pos rfl]; rfl
    · rw [if_neg e, if_neg (fun h => e h.symm), List.getD_eq_getElem?_getD]
  refine ⟨⟨by rw [hs, hf.1], fun q h => ?_⟩, fun r hr => ?_⟩
  · have hq : q < f.size := by omega
    rw [← getD_at h, hget q hq]
    split
    · exact hb
    · rw [getD_at hq]; exact hf.2 q hq
  · have hr1 : r < f.size := by rw [hf.1, ← hN]; exact hr
    have hr2 : r < g.size := by omega
    unfold fb
    rw [decide_eq_true hr1, decide_eq_true hr2, Bool.true_and, Bool.true_and, hget r hr1]
    by_cases e : r = p
    · subst e
      rw [if_pos rfl, getD_at hr1, hne]; simp
    · have e2 : (r == p) = false := by rw [beq_eq_false_iff_ne]; exact e
      rw [if_neg e, e2]; simp
/-- What the law finds, of a function and of one that differs from it at a point. -/
theorem twice_facts {f G : ByteArray} {n N p : Nat} (hf : FnOK f n) (h1 : 1 ≤ n) (h5 : n ≤ 5) (hN : N = 2 ^ n) (hp : p < N) (hG : FnOK G n ∧ ∀ r, r < N → fb G r = Bool.xor (fb f r) (r == p)) :
    ∃ T1 T2 : ByteArray, ∃ K : Nat, (⟨(sumL f n N).toArray⟩ : ByteArray) = T1 ∧ (⟨(sumL G n N).toArray⟩ : ByteArray) = T2 ∧ (⟨(sumL T1 n N).toArray⟩ : ByteArray) = f ∧ onesK (fb f) N = K ∧ FnOK T1 n ∧ FnOK T2 n ∧
      (∀ q, q < N → ∀ (g1 : q < T1.size) (g2 : q < T2.size), ((T1[q].toNat : Int) != (T2[q].toNat : Int)) = sub p q) ∧
      (∀ (g1 : N - 1 < T1.size), ((T1[N - 1].toNat : Int) == 49) = ((K : Int).tmod 2 == 1)) := by
  obtain ⟨t1, t2⟩ := sum_fn (f := f) hN rfl
  obtain ⟨u1, u2⟩ := sum_fn (f := G) hN rfl
  have h32 : 2 ^ n ≤ 2 ^ 5 := Nat.pow_le_pow_right (by decide) h5
  have hpos : 0 < 2 ^ n := Nat.two_pow_pos n
  have e49 : ∀ b : UInt8, ((b.toNat : Int) == 49) = (b == 49) := fun b => by
    rw [Bool.eq_iff_iff, beq_iff_eq, beq_iff_eq]
    exact ⟨fun h => u8_of (n := 49) (by omega) h, fun h => by rw [h]; rfl⟩
  refine ⟨_, _, _, rfl, rfl, sum_twice hf h5 hN rfl rfl, rfl, t1, u1, fun q hq g1 g2 => ?_, fun g1 => ?_⟩
  · have a := t2 q hq
    have b := u2 q hq
    rw [fb_at g1] at a
    rw [fb_at g2, sum_differ h5 (by omega) (by omega) (fun r hr => hG.2 r (by omega)), ← a] at b
    rcases t1.2 q g1 with c | c <;> rcases u1.2 q g2 with d | d <;> rw [c, d] at b ⊢ <;> cases hs : sub p q <;> rw [hs] at b <;> first | rfl | exact absurd b (by decide)
  · have a := t2 (N - 1) (by omega)
    have hlast : rnd (fb f) n (N - 1) = decide (onesK (fb f) N % 2 = 1) := by rw [hN]; exact sum_last h5
    have hk : ∀ k : Nat, ((k : Int).tmod 2 == 1) = decide (k % 2 = 1) := fun k => by
      rw [Int.tmod_eq_emod_of_nonneg (by omega), Bool.eq_iff_iff, beq_iff_eq, decide_eq_true_iff]; omega
    rw [fb_at g1, hlast] at a
    rw [e49, hk]
    exact a
theorem mod5_any {x : Int} {w : World} : Calls Tryd.prog 55 #[.int .i64 x, .int .i64 5] w fun e w' => ModEnd 5 e ∧ w' = w := mod_any (n := 5) (by omega) (by omega)
set_option maxHeartbeats 1000000 in
set_option maxRecDepth 100000 in
theorem twice_any {s : ByteArray} (hsz : s.size ≤ 9223372036854775807) {x y : Int} {w : World} (hT : TabW w) :
    Calls Tryd.prog 13 #[.int .i64 x, .string s, .int .i64 y] w fun e w' => e = .returned (.bool true) ∧ Below w.heap.size w w' := by
  have hTk := Keep.mk hT
  clear hT
  go_enter Tryd.func13, Tryd.ntmps13
  go_wp2_with (first
    | (go_at_call 55; (with_reducible refine mod5_any.mono ?_); rintro e w ⟨⟨m, hm, rfl⟩, rfl⟩
       obtain ⟨n, he, hn1, hn5⟩ : ∃ n : Nat, (1 : Int) + (m : Int) = (n : Int) ∧ 1 ≤ n ∧ n ≤ 5 := ⟨m + 1, by omega, by omega, by omega⟩
       obtain ⟨N, hN⟩ : ∃ N, Keep (N = 2 ^ n) := ⟨_, ⟨rfl⟩⟩
       have hN1 : 2 ≤ N := by
         have h1 : 2 ^ 1 ≤ 2 ^ n := Nat.pow_le_pow_right (by decide) hn1
         have := hN.out; omega
       have hN32 : N ≤ 32 := by
         have h1 : 2 ^ n ≤ 2 ^ 5 := Nat.pow_le_pow_right (by decide) hn5
         have := hN.out; omega
       have hwN : IntKind.i64.wrap (2 ^ n) = (N : Int) := by rw [hN.out]; exact wrap_pow (by omega))
    | (go_at_call 54; refine (function_any hsz hn5 hN (by omega) hN32).mono ?_; rintro e w1 ⟨⟨f, rfl, hf⟩, hb1⟩
       have hfk := Keep.mk hf
       have hfs : Keep (f.size = N) := ⟨by rw [hf.1, hN.out]⟩
       clear hf)
    | (go_at_call 55; (with_reducible refine (mod_any (n := N) (by omega) (by omega)).mono ?_); rintro e w1 ⟨⟨p, hp, rfl⟩, rfl⟩
       have hps : p < f.size := by rw [hfs.out]; exact hp))
  have hs1 : IntKind.i64.wrap ((p : Int) + 1) = (p : Int) + 1 := by rw [IntKind.wrap_i64]; omega
  have hf32 : f.size ≤ 32 := by rw [hfs.out]; exact hN32
  have hp0 : (0 : Int) ≤ (p : Int) + 1 := by omega
  have hp1 : ((p : Int) + 1).toNat = p + 1 := by omega
  have hp2 : (p : Int) + 1 ≤ (f.size : Int) := by omega
  have hp3 : (p : Int) ≤ (f.size : Int) := by omega
  have hN0 : Keep (n ≠ 0) := ⟨by omega⟩
  obtain ⟨hft, hfv⟩ := fn_tot hfk.out hn1 hn5
  have hftk := Keep.mk hft
  have hf40 : f.size ≤ 40 := by omega
  clear hft hfv
  rcases hfk.out.2 p hps with hch | hch
  case' inl =>
    have hc49 : ((f[p].toNat : Int) == 49) = false := by rw [hch]; rfl
    have hGk := Keep.mk (splice_fn hfk.out hN.out hps (.inr rfl) rfl (by rw [hch]; rfl))
    clear hch
    go_quiet (fail)
  case' inr =>
    have hc49 : (f[p].toNat : Int) = 49 := by rw [hch]; rfl
    have hGk := Keep.mk (splice_fn hfk.out hN.out hps (.inl rfl) rfl (by rw [hch]; rfl))
    clear hch
    go_quiet (fail)
    go_wp2
    go_quiet (fail)
  all_goals
    obtain ⟨T1, T2, K, hT1, hT2, hT3, hK, ft1, ft2, hloop, hlast⟩ := twice_facts hfk.out hn1 hn5 hN.out hp hGk.out
    obtain ⟨hGt, _⟩ := fn_tot hGk.out.1 hn1 hn5
    have hGs := Keep.mk (hGk.out.1.1.trans hN.out.symm)
    have hG40 := Nat.le_trans (Nat.le_of_eq hGs.out) (Nat.le_trans hN32 (by decide : 32 ≤ 40))
    have hGtk := Keep.mk hGt
    obtain ⟨hTt, _⟩ := fn_tot ft1 hn1 hn5
    have hT1s := Keep.mk (ft1.1.trans hN.out.symm)
    have hT2s := Keep.mk (ft2.1.trans hN.out.symm)
    have hT140 := Nat.le_trans (Nat.le_of_eq hT1s.out) (Nat.le_trans hN32 (by decide : 32 ≤ 40))
    have hTtk := Keep.mk hTt
    have hT1k := Keep.mk hT1
    have hT2k := Keep.mk hT2
    have hT3k := Keep.mk hT3
    have hKk := Keep.mk hK
    have hloopk := Keep.mk hloop
    have hlastk := Keep.mk hlast
    have hff : (f.toList == f.toList) = true := by simp
    have hl1 : ((T1.size : Int) != (f.size : Int)) = false := by rw [hT1s.out, hfs.out]; simp
    have hl2 : ((T2.size : Int) != (f.size : Int)) = false := by rw [hT2s.out, hfs.out]; simp
    clear hT1 hT2 hT3 hK hloop hlast ft1 ft2 hGt hTt hGk
    obtain ⟨D, hD⟩ : ∃ D, Keep (degN (rnd (fb f) n) N = D) := ⟨_, ⟨rfl⟩⟩
    obtain ⟨M, hM⟩ : ∃ D, Keep (sensM (fb f) n N = D) := ⟨_, ⟨rfl⟩⟩
    obtain ⟨C, hC⟩ : ∃ D, Keep (certM (fb f) N n N = D) := ⟨_, ⟨rfl⟩⟩
    go_wp2_with (first
      | (go_at_call 34; (with_reducible refine (sumFn_yes hf40 hftk hN0.out hn5 hN hN32 hfs).mono ?_); rintro e w2 ⟨rfl, hb2⟩; rw [hT1k.out]
         have hB2 : Below w.heap.size w w2 := below_trans (below_drewN hb1 _) hb2 (below_drewN hb1 _).size
         clear hb2)
      | (go_at_call 34; (with_reducible refine (sumFn_yes hG40 hGtk hN0.out hn5 hN hN32 hGs).mono ?_); rintro e w3 ⟨rfl, hb3⟩; rw [hT2k.out]
         have hB3 : Below w.heap.size w w3 := below_trans hB2 hb3 hB2.size
         clear hb3)
      | (go_at_call 34; (with_reducible refine (sumFn_yes hT140 hTtk hN0.out hn5 hN hN32 hT1s).mono ?_); rintro e w4 ⟨rfl, hb4⟩; rw [hT3k.out]
         have hB4 : Below w.heap.size w w4 := below_trans hB3 hb4 hB3.size
         clear hb4)
      | (go_at_call 35; (with_reducible refine (meas_yes (tab_below hTk.out hB4) hf40 hftk hN0.out hn5 hN hN32 hfs hD hM hC hKk).mono ?_); rintro e w5 ⟨rfl, hb5⟩
         have hB5 : Below w.heap.size w w5 := below_trans hB4 hb5 hB4.size
         clear hb5))
    obtain ⟨hrow0, _, hb56⟩ := carry4 (Below.refl (w5.alloc (.cells #[.int .i64 D, .int .i64 M, .int .i64 C, .int .i64 K] 47)).heap.size (w5.alloc (.cells #[.int .i64 D, .int .i64 M, .int .i64 C, .int .i64 K] 47)))
    have hB6 : Keep (Below w.heap.size w (w5.alloc (.cells #[.int .i64 D, .int .i64 M, .int .i64 C, .int .i64 K] 47))) := ⟨below_trans hB5 hb56 hB5.size⟩
    have hrow := Keep.mk hrow0
    generalize w5.alloc (.cells #[.int .i64 D, .int .i64 M, .int .i64 C, .int .i64 K] 47) = W at hrow hB6 ⊢
    clear hrow0 hb56 hB5 hB4 hB3 hB2 hb1
    generalize w5.heap.size = B at hrow ⊢
    go_loopw [18] (fun i wr => ∃ q d : Nat, q ≤ N ∧ i = .int .i64 q ∧ wr = W.drewN d) (fun i _ => N - (intOf i).toNat)
    case atStart => exact ⟨0, 0, by omega, rfl, rfl⟩
    case round =>
      obtain ⟨q, d, hq, rfl, rfl⟩ := hrel
      by_cases hqN : q < N
      · have hqf : q < f.size := by rw [hfs.out]; exact hqN
        have g1 : q < T1.size := by rw [hT1s.out]; exact hqN
        have g2 : q < T2.size := by rw [hT2s.out]; exact hqN
        have hv := hloopk.out q hqN g1 g2
        have hsub := andNot_sub p (by omega) q (by omega)
        cases hs : sub p q
        all_goals
          rw [hs] at hv hsub
          clear hs
          go_wp2
          go_quiet (fail)
          go_wp2
          exact ⟨⟨q + 1, _, by omega, by go_num, rfl⟩, by simp [intOf]; omega⟩
      · have : q = N := by omega
        subst this
        have hqf : ¬ q < f.size := by rw [hfs.out]; omega
        have hL : q - 1 < T1.size := by rw [hT1s.out]; omega
        have hlst := hlastk.out hL
        obtain ⟨L, hLe⟩ : ∃ L, Keep (q - 1 = L) := ⟨_, ⟨rfl⟩⟩
        have hv : ((T1[L]'(by rw [← hLe.out]; exact hL)).toNat : Int) = (T1[q - 1].toNat : Int) := by
          have := hLe.out; subst this; rfl
        rw [← hv] at hlst
        have hL' : L < T1.size := by rw [← hLe.out]; exact hL
        have hlen : (T1.size : Int) - 1 = (L : Int) := by rw [hT1s.out, ← hLe.out]; omega
        have hlen2 : IntKind.i64.wrap (L : Int) = (L : Int) := by rw [IntKind.wrap_i64]; have := hLe.out; omega
        obtain ⟨c, hc⟩ : ∃ c, Keep (((K : Int).tmod 2 == 1) = c) := ⟨_, ⟨rfl⟩⟩
        have hco := hc.out
        rw [hco] at hlst
        clear hv
        have hBd : Keep (Below w.heap.size w (W.drewN d)) := ⟨below_drewN hB6.out d⟩
        have hrowd : Keep (RowAt (W.drewN d) B 4 (fun j => [(D : Int), (M : Int), (C : Int), (K : Int)].getD j 0)) := hrow
        generalize W.drewN d = V at hBd hrowd ⊢
        have e3 := (row_cases hrowd.out).2.2.2.1
        have hBv : Keep (Below w.heap.size w V.drew) := ⟨below_drewN hBd.out 1⟩
        cases c
        all_goals
          go_wp2
          go_region_held3 (fun w' => w'.cell? ⟨B, 3, none⟩ = some (.int .i64 K))
            (first | exact e3 | exact (row_cases hrow7.out).2.2.2.1 | go_keep)
            (first
              | (go_at_call 20; (with_reducible refine (awake_w (tab_below hTk.out hBv.out)).mono ?_); rintro e w7 ⟨rfl, hb7⟩; have hrow7 : Keep (RowAt w7 B 4 (fun j => [(D : Int), (M : Int), (C : Int), (K : Int)].getD j 0)) := ⟨row_below hrowd.out ((below_drewN (Below.refl _ _) 1).trans hb7)⟩; have hB7 : Keep (Below w.heap.size w w7) := ⟨below_trans hBd.out ((below_drewN (Below.refl _ _) 1).trans hb7) hBd.out.size⟩; clear hb7))
          all_goals go_wp2
          all_goals go_ret
          all_goals exact ⟨rfl, hB7.out⟩
end Go.Proofs.YtioaaigbpfdjmaaDoor
