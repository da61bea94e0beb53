import Derived.Test.YtioaaigbpfdjmaaDoorMeasuredMath
import Derived.Test.YtioaaigbpfdjmaaDoorFnMake
import Derived.Test.YtioaaigbpfdjmaaDoorMeas
import Derived.Test.YtioaaigbpfdjmaaDoorLawTwice
set_option linter.unusedSimpArgs false
set_option linter.unusedVariables false
namespace Go.Proofs.YtioaaigbpfdjmaaDoor
open Go Go.Proofs Go.RowKit Go.CRun
def notL (f : ByteArray) (k : Nat) : List UInt8 := (List.range k).map fun j => if fb f j then 48 else 49
theorem notL_len (f : ByteArray) (k : Nat) : (notL f k).length = k := by simp [notL]
theorem notL_push (f : ByteArray) (k : Nat) : notL f (k + 1) = notL f k ++ [if fb f k then 48 else 49] := by simp [notL, List.range_succ]
theorem not_fn {f : ByteArray} {n N : Nat} (hN : N = 2 ^ n) : FnOK ⟨(notL f N).toArray⟩ n ∧ ∀ q, q < N → fb ⟨(notL f N).toArray⟩ q = !fb f q := by
  have h1 : FnOK ⟨(notL f N).toArray⟩ n := fn_of_list (by rw [notL_len, hN]) (fun b hb => by
    unfold notL at hb
    rw [List.mem_map] at hb
    obtain ⟨j, _, rfl⟩ := hb
    cases fb f j
    · exact .inr rfl
    · exact .inl rfl)
  refine ⟨h1, fun q hq => ?_⟩
  have hq' : q < (⟨(notL f N).toArray⟩ : ByteArray).size := by rw [h1.1, ← hN]; exact hq
  have hl : q < (notL f N).length := by rw [notL_len]; exact hq
  rw [fb_at hq', ← getD_at hq']
  show ((notL f N).getD q 0 == 49) = _
  rw [List.getD_eq_getElem?_getD, List.getElem?_eq_getElem hl]
  simp only [notL, List.getElem_map, List.getElem_range, Option.getD_some]
  cases fb f q <;> rfl
set_option maxHeartbeats 4000000 in
set_option maxRecDepth 100000 in
theorem measured_any {s : ByteArray} (hsz : s.size ≤ 9223372036854775807) {x : Int} {w : World} (hT : TabW w) :
    Calls Tryd.prog 14 #[.int .i64 x, .string s] w fun e w' => e = .returned (.bool true) ∧ Below w.heap.size w w' := by
  obtain ⟨i0, hi, hz0, hz1, hz2⟩ := info_parts info5
  have hTk := Keep.mk hT
  clear hT
  go_enter Tryd.func14, Tryd.ntmps14
  go_wp2_with (first
    | (go_at_call 55; (with_reducible refine mod5_any.mono ?_); rintro e w ⟨⟨m, hm, rfl⟩, rfl⟩
       obtain ⟨n, he, hn1, hn5⟩ : ∃ n : Nat, (1 : Int) + (m : Int) = (n : Int) ∧ 1 ≤ n ∧ n ≤ 5 := ⟨m + 1, by omega, by omega, by omega⟩
       obtain ⟨N, hN⟩ : ∃ N, Keep (N = 2 ^ n) := ⟨_, ⟨rfl⟩⟩
       have hN1 : 2 ≤ N := by
         have h1 : 2 ^ 1 ≤ 2 ^ n := Nat.pow_le_pow_right (by decide) hn1
         have := hN.out; omega
       have hN32 : N ≤ 32 := by
         have h1 : 2 ^ n ≤ 2 ^ 5 := Nat.pow_le_pow_right (by decide) hn5
         have := hN.out; omega
       have hwN : IntKind.i64.wrap (2 ^ n) = (N : Int) := by rw [hN.out]; exact wrap_pow (by omega))
    | (go_at_call 54; refine (function_any hsz hn5 hN (by omega) hN32).mono ?_; rintro e w1 ⟨⟨f, rfl, hf⟩, hb1⟩
       have hfk := Keep.mk hf
       have hfs : Keep (f.size = N) := ⟨by rw [hf.1, hN.out]⟩
       clear hf))
  go_loopw [6, 7] (fun v0 i wr => ∃ (p : Nat) (v : Value), v = v0 ∧ p ≤ N ∧ i = .int .i64 p ∧ wr.ownsRow w.heap.size 5 1 v (notL f p).length ((notL f p).map vb) ∧ Below w.heap.size w wr) (fun _ i _ => N - (intOf i).toNat)
  case atStart => exact ⟨0, _, rfl, by omega, rfl, World.ownsRow_nil _ _ _ _, hb1⟩
  case round =>
    clear hb1
    obtain ⟨p, v, rfl, hp, rfl, hown, hbw⟩ := hrel
    have hbz : w.heap.size ≤ wr.heap.size := hbw.size
    by_cases hpN : p < N
    · have hpf : p < f.size := by rw [hfs.out]; exact hpN
      have hfb := fb_at hpf
      rcases hfk.out.2 p hpf with hch | hch
      · have hv : (f[p].toNat : Int) = 48 := by rw [hch]; rfl
        have hpush : Keep (notL f (p + 1) = notL f p ++ [49]) := ⟨by rw [notL_push, hfb, hch]; rfl⟩
        clear hch hfb
        go_wp2_with (at_builtin; go_loud (
             refine wpList_append_own _ rfl _ _ 72 rfl w.heap.size 5 i0 (.int .u8 0) 1 1 ty72 hi hz0 hz1 hz2 rfl (by decide) _ _ _ rfl (hown.alloc _) ⟨wr.heap.size, 0, none⟩ 1 1 [.int .u8 49] rfl rfl (cell_one_new _ _ _) (fun x hx => by simp at hx; subst hx; rfl) (by rw [notL_len]; unfold maxLen; omega) (by rw [notL_len]; omega) (by simp; omega) ?_
             intro v' w3 hown' hgrow3 hnil3
             have hbw3 : Below w.heap.size w w3 := Below.grown (hbw.alloc (by omega) _) hgrow3 (by simp; omega) (fun j hj => by have := (hown.lt _ hj).1; omega)
             have X : Keep (w3.ownsRow w.heap.size 5 1 v' ((notL f p).length + 1) ((notL f p).map vb ++ [.int .u8 49]) ∧ Below w.heap.size w w3) := ⟨⟨hown', hbw3⟩⟩
             clear hown' hgrow3 hnil3 hbw3))
        obtain ⟨q1, q2⟩ := X.out
        refine ⟨⟨p + 1, _, rfl, by omega, by go_num, ?_, q2⟩, by simp [intOf]; omega⟩
        rw [hpush.out, List.length_append, List.map_append]
        exact q1
      · have hv : (f[p].toNat : Int) = 49 := by rw [hch]; rfl
        have hpush : Keep (notL f (p + 1) = notL f p ++ [48]) := ⟨by rw [notL_push, hfb, hch]; rfl⟩
        clear hch hfb
        go_wp2_with (at_builtin; go_loud (
             refine wpList_append_own _ rfl _ _ 72 rfl w.heap.size 5 i0 (.int .u8 0) 1 1 ty72 hi hz0 hz1 hz2 rfl (by decide) _ _ _ rfl (hown.alloc _) ⟨wr.heap.size, 0, none⟩ 1 1 [.int .u8 48] rfl rfl (cell_one_new _ _ _) (fun x hx => by simp at hx; subst hx; rfl) (by rw [notL_len]; unfold maxLen; omega) (by rw [notL_len]; omega) (by simp; omega) ?_
             intro v' w3 hown' hgrow3 hnil3
             have hbw3 : Below w.heap.size w w3 := Below.grown (hbw.alloc (by omega) _) hgrow3 (by simp; omega) (fun j hj => by have := (hown.lt _ hj).1; omega)
             have X : Keep (w3.ownsRow w.heap.size 5 1 v' ((notL f p).length + 1) ((notL f p).map vb ++ [.int .u8 48]) ∧ Below w.heap.size w w3) := ⟨⟨hown', hbw3⟩⟩
             clear hown' hgrow3 hnil3 hbw3))
        obtain ⟨q1, q2⟩ := X.out
        refine ⟨⟨p + 1, _, rfl, by omega, by go_num, ?_, q2⟩, by simp [intOf]; omega⟩
        rw [hpush.out, List.length_append, List.map_append]
        exact q1
    · have : p = N := by omega
      subst this
      have hpf : ¬ p < f.size := by rw [hfs.out]; omega
      obtain ⟨g, cap, rfl, hcell⟩ := own_bytes hown (by rw [notL_len]; omega)
      have hcellk : Keep (∀ W : World, Below wr.heap.size wr W → ∀ j (hj : j < (notL f p).length), W.cell? ((⟨g, 0, none⟩ : Addr).add j) = some (.int .u8 ((notL f p)[j].toNat : Int))) := ⟨fun W hb' j hj => by
        have h := hcell j hj
        have hplain : (⟨g, 0, none⟩ : Addr).add j = ⟨g, j, none⟩ := by unfold Addr.add; split <;> simp_all
        rw [hplain] at h ⊢
        exact cell_below h hb'⟩
      clear hcell hown
      obtain ⟨gf, gq⟩ := not_fn (f := f) hN.out
      obtain ⟨hft, _⟩ := fn_tot hfk.out hn1 hn5
      obtain ⟨hgt, _⟩ := fn_tot gf hn1 hn5
      have hftk := Keep.mk hft
      have hgtk := Keep.mk hgt
      have hgs := Keep.mk (gf.1.trans hN.out.symm)
      have hN0 : Keep (n ≠ 0) := ⟨by omega⟩
      have hf40 : f.size ≤ 40 := by rw [hfs.out]; omega
      have hg40 := Nat.le_trans (Nat.le_of_eq hgs.out) (Nat.le_trans hN32 (by decide : 32 ≤ 40))
      obtain ⟨D, hD⟩ : ∃ D, Keep (degN (rnd (fb f) n) p = D) := ⟨_, ⟨rfl⟩⟩
      obtain ⟨M, hM⟩ : ∃ D, Keep (sensM (fb f) n p = D) := ⟨_, ⟨rfl⟩⟩
      obtain ⟨C, hC⟩ : ∃ D, Keep (certM (fb f) p n p = D) := ⟨_, ⟨rfl⟩⟩
      obtain ⟨K, hK⟩ : ∃ D, Keep (onesK (fb f) p = D) := ⟨_, ⟨rfl⟩⟩
      obtain ⟨K2, hK2⟩ : ∃ D, Keep (onesK (fb ⟨(notL f p).toArray⟩) p = D) := ⟨_, ⟨rfl⟩⟩
      have hD2 : Keep (degN (rnd (fb ⟨(notL f p).toArray⟩) n) p = D) := ⟨by
        rw [← hD.out]
        have := degN_not (b := fb f) (c := fb ⟨(notL f p).toArray⟩) hn5 (fun q hq => gq q (by rw [hN.out]; exact hq)) (2 ^ n) (Nat.le_refl _)
        rw [← hN.out] at this; exact this⟩
      have hM2 : Keep (sensM (fb ⟨(notL f p).toArray⟩) n p = M) := ⟨by rw [← hM.out]; exact sensM_not hn5 hN.out gq p (Nat.le_refl _)⟩
      have hC2 : Keep (certM (fb ⟨(notL f p).toArray⟩) p n p = C) := ⟨by rw [← hC.out]; exact certM_not gq p (Nat.le_refl _)⟩
      have hKs := ones_not gq p (Nat.le_refl _)
      rw [hK.out, hK2.out] at hKs
      have hcon : Keep ((K = 0 ∨ K = p → M = 0 ∧ C = 0 ∧ D = 0) ∧ (¬ (K = 0 ∨ K = p) → M ≠ 0 ∧ C ≠ 0 ∧ D ≠ 0)) := ⟨by
        have k1 := const_ones (b := fb f) (N := p) (by omega)
        have k2 := const_sens (b := fb f) hn5 hN.out
        have k3 := const_cert (b := fb f) (n := n) (N := p) hn1 (by omega) hN32
        have k4 := const_deg (b := fb f) hn5
        rw [← hN.out] at k4
        rw [hK.out] at k1
        rw [hM.out] at k2
        rw [hC.out] at k3
        rw [hD.out] at k4
        constructor
        · intro h
          have := k1.1 h
          exact ⟨k2.2 this, k3.2 this, k4.2 this⟩
        · intro h
          exact ⟨fun e => h (k1.2 (k2.1 e)), fun e => h (k1.2 (k3.1 e)), fun e => h (k1.2 (k4.1 e))⟩⟩
      have o1 : M ≤ C := by rw [← hM.out, ← hC.out]; exact sensM_le_certM hn5 hN.out p (Nat.le_refl _)
      have o2 : C ≤ n := by rw [← hC.out]; exact certM_le _ _ _ _
      have o3 : D ≤ n := by rw [← hD.out]; exact degN_len hn5 p (by rw [← hN.out]; exact Nat.le_refl _)
      clear gf gq hft hgt
      have f1 : decide (C < M) = false := by rw [decide_eq_false_iff_not]; omega
      have f2 : decide (n < C) = false := by rw [decide_eq_false_iff_not]; omega
      have f3 : decide (n < D) = false := by rw [decide_eq_false_iff_not]; omega
      have f4 : IntKind.i64.wrap ((K : Int) + (K2 : Int)) = (p : Int) := by rw [IntKind.wrap_i64]; omega
      have hKp := Keep.mk hKs
      clear hKs
      go_wp2_with (first
        | (go_at_call 35; (with_reducible refine (meas_yes (tab_below hTk.out hbw) hf40 hftk hN0.out hn5 hN hN32 hfs hD hM hC hK).mono ?_); rintro e w5 ⟨rfl, hb5⟩
           have hB5 : Below w.heap.size w w5 := below_trans hbw hb5 hbz
           have hconv := run_convert_bytes_back (P := Tryd.prog) (w5.alloc (.cells #[.int .i64 D, .int .i64 M, .int .i64 C, .int .i64 K] 47)) 72 9 5 ⟨g, 0, none⟩ cap _ ty72 ty5 ty9 (hcellk.out _ (hb5.alloc hb5.size _))
           clear hb5)
        | (go_at_call 35; (with_reducible refine (meas_yes (tab_below hTk.out (hB5.alloc hB5.size _)) hg40 hgtk hN0.out hn5 hN hN32 hgs hD2 hM2 hC2 hK2).mono ?_); rintro e w6 ⟨rfl, hb6⟩
           obtain ⟨hr8, _, hb56⟩ := carry4 hb6
           have hrow8 := Keep.mk hr8
           have hB6 : Below w.heap.size w w6 := below_trans hB5 hb56 hB5.size
           clear hb6 hr8 hb56 hconv))
      obtain ⟨hr10, _, hb67⟩ := carry4 (Below.refl (w6.alloc (.cells #[.int .i64 D, .int .i64 M, .int .i64 C, .int .i64 K2] 47)).heap.size (w6.alloc (.cells #[.int .i64 D, .int .i64 M, .int .i64 C, .int .i64 K2] 47)))
      have hB7 : Below w.heap.size w (w6.alloc (.cells #[.int .i64 D, .int .i64 M, .int .i64 C, .int .i64 K2] 47)) := below_trans hB6 hb67 hB6.size
      have hr8 := row_below hrow8.out hb67
      generalize w6.alloc (.cells #[.int .i64 D, .int .i64 M, .int .i64 C, .int .i64 K2] 47) = W at hr10 hr8 hB7 ⊢
      obtain ⟨a0, a1, a2, a3, _, _, _, _⟩ := row_cases hr8
      obtain ⟨b0, b1, b2, b3, _, _, _, _⟩ := row_cases hr10
      generalize w5.heap.size = B8 at a0 a1 a2 a3 ⊢
      generalize w6.heap.size = B10 at b0 b1 b2 b3 ⊢
      clear hr8 hr10 hrow8 hb67 hB6 hB5 hcellk
      have hcases : (K = 0 ∧ M = 0 ∧ C = 0 ∧ D = 0) ∨ (K ≠ 0 ∧ K = p ∧ M = 0 ∧ C = 0 ∧ D = 0) ∨ (K ≠ 0 ∧ K ≠ p ∧ M ≠ 0 ∧ C ≠ 0 ∧ D ≠ 0) := by
        by_cases h0 : K = 0
        · exact .inl ⟨h0, hcon.out.1 (.inl h0)⟩
        · by_cases h1 : K = p
          · exact .inr (.inl ⟨h0, h1, hcon.out.1 (.inr h1)⟩)
          · exact .inr (.inr ⟨h0, h1, hcon.out.2 (by omega)⟩)
      clear hcon
      rcases hcases with ⟨h0, z1, z2, z3⟩ | ⟨h0, h1, z1, z2, z3⟩ | ⟨h0, h1, z1, z2, z3⟩
      case' inl =>
        have k0 : ((K : Int) == 0) = true := by rw [beq_iff_eq]; omega
        have m1 : ((M : Int) == 0) = true := by rw [beq_iff_eq]; omega
        have m2 : ((C : Int) == 0) = true := by rw [beq_iff_eq]; omega
        have m3 : ((D : Int) == 0) = true := by rw [beq_iff_eq]; omega
        clear h0 z1 z2 z3
      case' inr.inl =>
        have k0 : ((K : Int) == 0) = false := by rw [beq_eq_false_iff_ne]; omega
        have k1 : ((K : Int) == (p : Int)) = true := by rw [beq_iff_eq]; omega
        have m1 : ((M : Int) == 0) = true := by rw [beq_iff_eq]; omega
        have m2 : ((C : Int) == 0) = true := by rw [beq_iff_eq]; omega
        have m3 : ((D : Int) == 0) = true := by rw [beq_iff_eq]; omega
        clear h0 h1 z1 z2 z3
      case' inr.inr =>
        have k0 : ((K : Int) == 0) = false := by rw [beq_eq_false_iff_ne]; omega
        have k1 : ((K : Int) == (p : Int)) = false := by rw [beq_eq_false_iff_ne]; omega
        have m1 : ((M : Int) == 0) = false := by rw [beq_eq_false_iff_ne]; omega
        have m2 : ((C : Int) == 0) = false := by rw [beq_eq_false_iff_ne]; omega
        have m3 : ((D : Int) == 0) = false := by rw [beq_eq_false_iff_ne]; omega
        clear h0 h1 z1 z2 z3
      all_goals
        go_quiet (fail)
        go_wp2
        go_quiet (fail)
        go_wp2_with (go_at_call 20; go_loud (refine (awake_w (tab_below hTk.out (below_drewN hB7 _))).mono ?_; rintro e w8 ⟨rfl, hb8⟩))
        go_ret
        exact ⟨rfl, below_trans (below_drewN hB7 _) hb8 (below_drewN hB7 _).size⟩
end Go.Proofs.YtioaaigbpfdjmaaDoor
