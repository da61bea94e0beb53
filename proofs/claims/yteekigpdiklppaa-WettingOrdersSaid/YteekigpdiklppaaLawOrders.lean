import Derived.Test.YteekigpdiklppaaWOrdA
set_option linter.unusedSimpArgs false
set_option linter.unusedVariables false
namespace Go.Proofs.Yteekigpdiklppaa
open Go Go.Proofs Go.RowKit Go.Seq
attribute [local go_sem] Oper.semAt_some
set_option maxHeartbeats 16000000 in
set_option maxRecDepth 100000 in
theorem orders_any (n0 : Int) {v1 : Value} {A2 : Option Addr} {l2 c2 : Nat} {ps : Pts} {bs : List Int} {w : World} (hv : PairsO w v1 ps) (hlen : ps.length ≤ maxLen) (hb : ArgZ w (.slice A2 l2 c2) bs) :
    Calls Try.prog 12 #[.int .i64 n0, v1, .slice A2 l2 c2] w fun e w' => e = .returned (.bool true) ∧ Below w.heap.size w w' := by
  obtain ⟨i0, hi0, hz0, hz1, hz2⟩ := info63_parts
  have q50 := tame_any n0 hv (by unfold maxLen at hlen; omega)
  have hG := tame_gok n0 ps
  obtain ⟨N, hN⟩ : ∃ N, 1 + modN n0 12 = N := ⟨_, rfl⟩
  rw [hN] at q50 hG
  obtain ⟨E, hE⟩ : ∃ E, tameE N ps = E := ⟨_, rfl⟩
  rw [hE] at q50 hG
  clear hN hE hv hlen
  have hN12 := hG.n12
  have hN1 := hG.n1
  have hbl : Keep (bs.length = l2) := ⟨argZ_len hb⟩
  have hbm : l2 ≤ 9223372036854775807 := by have := argZ_max hb; rw [hbl.out] at this; exact this
  have q24 := Keep.mk (fun (W : World) (ve : Value) (he : PairsOf W ve E) => near_any hG he)
  obtain ⟨x0, hx0⟩ : ∃ x0, (if l2 = 0 then 0 else bs.getD 0 0) = x0 := ⟨_, rfl⟩
  have q51 := fun W => oSome hN12 x0 W
  have hSin := someS_inN N x0
  obtain ⟨S, hS⟩ : ∃ S, someS N x0 = S := ⟨_, rfl⟩
  rw [hS] at q51 hSin
  have hcs : Keep (∀ j, j < 12 → setOf (zsOf S) j = S j) := ⟨fun j hj => setOf_zsOf S hj⟩
  have hS2 : InN N (setOf (zsOf S)) := fun j h1 h2 => by rw [hcs.out j h2]; exact hSin j h1 h2
  have hO0 : Keep (OrS N E (setOf (zsOf S)) 0 [] (setOf (zsOf S))) := ⟨OrS.start hS2⟩
  have q26 := Keep.mk (set_n (s := S) rfl)
  obtain ⟨nS, hnS⟩ : ∃ nS, num S = nS := ⟨_, rfl⟩
  rw [hnS] at q26
  have hnS2 : Keep (num (setOf (zsOf S)) = nS) := ⟨by rw [num_setOf]; exact hnS⟩
  have hGk := Keep.mk hG
  have hSk := Keep.mk hSin
  have hbk := Keep.mk hb
  clear hS hS2 hnS hG hSin
  by_cases hl0 : l2 = 0
  · subst hl0
    simp only [if_true] at hx0
    subst hx0
    clear hb
    go_enter Try.func12, Try.ntmps12
    go_wp2_with (first
      | (go_at_call 50; (with_reducible refine q50.mono ?_); rintro e w1 ⟨vl, rfl, hr1, hb1⟩
         have hk1 : Keep (Hd w w1 vl E []) := ⟨⟨own_pairs hr1, fun x hx => by simp at hx, hb1⟩⟩
         clear hr1 hb1 q50)
      | (go_at_call 24; have hp := hk1.out.ps; (with_reducible refine (q24.out _ _ hp).mono ?_); rintro e w2 ⟨G, rfl, hGn, hGl, hb⟩
         have hk2 := Keep.mk (hk1.out.keep hb)
         have hG2 := Keep.mk hGn
         clear hGn hGl hb hp hk1 q24)
      | (go_at_call 51; (with_reducible refine (q51 _).mono ?_); rintro e w3 ⟨vs, rfl, hi, hb⟩
         have hk3 := Keep.mk (hk2.out.put hb hi)
         have hG3 : Keep (NumsAt w3 G N 3 (nearOf E)) := ⟨hG2.out.below hb hG2.out.lt⟩
         clear hi hb hk2 hG2 q51)
      | (go_at_call 26; have hvx := hk3.out.at (z := zsOf S) (.head _)
         (with_reducible refine (q26.out _ _ hvx).mono ?_); rintro e wm ⟨rfl, hem⟩; rw [hem]; clear hem wm hvx))
    go_loopw [13, 12, 11] (fun i cv wv wr => ∃ k : Nat, k ≤ N ∧ i = .int .i64 k ∧ ∃ c t n, wv = .int .i64 (n : Nat) ∧ Keep (num t = n) ∧ Keep (OrS N E (setOf (zsOf S)) k c t) ∧ Keep (wr.ownsRow w3.heap.size 63 2 cv k (enc2 c) ∧ Below w3.heap.size w3 wr) ∧ ∃ A cc, cv = .slice A k cc) (fun i _ _ _ => N - (intOf i).toNat)
    case atStart => exact ⟨0, by omega, rfl, [], setOf (zsOf S), nS, rfl, hnS2, hO0, ⟨World.ownsRow_nil _ _ _ _, Below.refl _ _⟩, _, _, rfl⟩
    case round =>
      obtain ⟨k, hk, rfl, c, t, n, rfl, hn, hO, hI, Ac, cc, rfl⟩ := hrel
      obtain ⟨wo, rfl⟩ : ∃ x, x = wr := ⟨_, rfl⟩
      have hw1 : IntKind.i64.wrap ((k : Int) + 1) = (k : Int) + 1 := IntWalk.i64_in _ (by omega)
      by_cases hlt : k < N
      · have hlt' : (k : Int) < (N : Int) := by omega
        have hGr : Keep (NumsAt wo G N 3 (nearOf E)) := ⟨hG3.out.below hI.out.2 hG3.out.lt⟩
        go_wp2
        go_loopw [15, 14] (fun pv cv2 wx => ∃ j : Nat, j ≤ N ∧ pv = .int .i64 j ∧ Keep (wx.ownsRow wo.heap.size 63 2 cv2 (canTo (adjOf E) t j).length (enc2 (canTo (adjOf E) t j)) ∧ Below wo.heap.size wo wx) ∧ ∃ A c, cv2 = .slice A (canTo (adjOf E) t j).length c) (fun i _ _ => N - (intOf i).toNat)
        case atStart => exact ⟨0, by omega, rfl, ⟨World.ownsRow_nil _ _ _ _, Below.refl _ _⟩, _, _, rfl⟩
        case round =>
          obtain ⟨j, hj, rfl, hJ, Aj, cj, rfl⟩ := hrel
          have hw2 : IntKind.i64.wrap ((j : Int) + 1) = (j : Int) + 1 := IntWalk.i64_in _ (by omega)
          have hGi : Keep (NumsAt wr G N 3 (nearOf E)) := ⟨hGr.out.below hJ.out.2 hGr.out.lt⟩
          by_cases hlt2 : j < N
          · have hlt2' : (j : Int) < (N : Int) := by omega
            have hj0 : ¬ (j : Int) < 0 := by omega
            have hnl : n < 4096 := by rw [← hn.out]; exact num_lt t
            have hsh := shr_i64 n j hnl
            obtain ⟨q, hq⟩ : ∃ q, n / 2 ^ j = q := ⟨_, rfl⟩
            rw [hq] at hsh
            have hbb := bit_mod n j
            rw [hq, ← hn.out, num_bit, decide_eq_true (p := j < 12) (by omega), Bool.true_and] at hbb
            obtain ⟨p, hp⟩ : ∃ p, q % 2 = p := ⟨_, rfl⟩
            have hp2 : p < 2 := by omega
            have hrem : (q : Int).tmod 2 = (p : Int) := by rw [show (2 : Int) = ((2 : Nat) : Int) from rfl, IntWalk.up_tmod rfl rfl, hp]
            rw [hp] at hbb
            have hdf := num_diff (adjOf E j) t
            obtain ⟨fa, hfa⟩ : ∃ fa, nearOf E j = fa := ⟨_, rfl⟩
            have cG := (hGi.out.cell hlt2).1
            rw [hfa] at cG
            rw [show num (adjOf E j) = fa from hfa, hn.out] at hdf
            obtain ⟨D, hD⟩ : ∃ D, (fun u => adjOf E j u && !t u) = D := ⟨_, rfl⟩
            rw [hD] at hdf
            obtain ⟨dd, hdd⟩ : ∃ dd, num D = dd := ⟨_, rfl⟩
            rw [hdd] at hdf
            have hcs1 : canTo (adjOf E) t (j + 1) = if t j = true ∧ sz D = 1 then canTo (adjOf E) t j ++ [((j : Int), onlyOf D)] else canTo (adjOf E) t j := by rw [← hD]; rfl
            have hjl := canTo_len (adjOf E) t j
            obtain ⟨CJ, hCJ⟩ : ∃ CJ, canTo (adjOf E) t j = CJ := ⟨_, rfl⟩
            rw [hCJ] at hcs1 hJ hjl
            obtain ⟨mj, hmj⟩ : ∃ mj, CJ.length = mj := ⟨_, rfl⟩
            rw [hmj] at hJ hjl
            try rw [hCJ]
            try rw [hmj]
            cases htj : t j with
            | false =>
              have hp0 : p = 0 := by
                by_cases e : p = 1
                · rw [hbb.1 e] at htj; cases htj
                · omega
              subst hp0
              rw [htj] at hcs1
              simp only [Bool.false_eq_true, false_and, if_false] at hcs1
              have hck := Keep.mk hcs1
              clear hcs1 hbb hp hp2 hq htj hD hdd hfa
              go_wp2
              exact ⟨⟨j + 1, by omega, by go_num, by rw [hck.out, hmj]; exact hJ, _, _, by rw [hck.out, hmj]⟩, by simp [intOf]; omega⟩
            | true =>
              have hp1 : p = 1 := hbb.2 htj
              subst hp1
              rw [htj] at hcs1
              obtain ⟨l, hl⟩ : ∃ l, sz D = l := ⟨_, rfl⟩
              have q54 := fun w => count_any hdd hl w
              rw [hl] at hcs1
              by_cases hl1 : l = 1
              · subst hl1
                obtain ⟨u, hu1, hu2, hu3⟩ := one_only hl
                simp only [true_and, if_true, and_self] at hcs1
                rw [hu3] at hcs1
                have hck := Keep.mk hcs1
                have q28j := fun W => oList (N := N) hdd W
                have hat := Keep.mk (fun (W : World) (v : Value) (h : IntsO W v (zsOf D)) => one_at h hl hu3)
                clear hcs1 hbb hp hp2 hq htj hD hdd hfa hl hu2 hu3
                go_wp2_with (first
                  | (go_at_call 54; (with_reducible refine (q54 _).mono ?_); rintro e w5 ⟨rfl, hb5⟩
                     have hJ5 : Keep (w5.ownsRow wo.heap.size 63 2 (.slice Aj mj cj) mj (enc2 CJ) ∧ Below wo.heap.size wo w5) := ⟨row_after hJ.out.1 hb5, hJ.out.2.trans (hb5.mono hJ.out.2.size)⟩
                     clear hb5 hJ q54)
                  | (go_at_call 28; (with_reducible refine (q28j _).mono ?_); rintro e w6 ⟨vd, rfl, hi6, hb6⟩
                     have hJ6 : Keep (w6.ownsRow wo.heap.size 63 2 (.slice Aj mj cj) mj (enc2 CJ) ∧ Below wo.heap.size wo w6) := ⟨row_after hJ5.out.1 hb6, hJ5.out.2.trans (hb6.mono hJ5.out.2.size)⟩
                     obtain ⟨gd, od, cd, rfl, cd0⟩ := hat.out w6 vd hi6
                     clear hi6 hb6 hJ5 q28j)
                  | (at_builtin; refine wpList_append_own_at _ rfl _ _ 22 rfl wo.heap.size 63 i0 (.agg #[.int .i64 0, .int .i64 0]) 2 16 ty22 hi0 hz0 hz1 hz2 rfl (by decide) _ mj (enc2 CJ) rfl (hJ6.out.1.alloc _) ⟨w6.heap.size, 0, none⟩ 1 1 [.int .i64 j, .int .i64 u] rfl rfl (cell_two_new _ _ _ _) (two_one _ _) (by unfold maxLen; omega) (by omega) (by have := hJ6.out.2.size; simp; omega) ?_; intro v' w1 hown hgrow _ _
                     obtain ⟨g', cap', rfl⟩ := ownsRow_succ hown
                     have h10k := Keep.mk (And.intro hown hgrow)
                     clear hown hgrow))
                have hb10 : Below wo.heap.size wo w1 := hJ6.out.2.trans (Below.grown ((Below.refl _ w6).alloc (by have := hJ6.out.2.size; omega) _) h10k.out.2 (by have := hJ6.out.2.size; simp; omega) (fun j hj => by
                  have hj' : (Value.slice Aj mj cj).ownBlock = some j := hj
                  exact (hJ6.out.1.lt j hj').1))
                have hln : (canTo (adjOf E) t (j + 1)).length = mj + 1 := by rw [hck.out, List.length_append, hmj]; rfl
                have hen : enc2 (canTo (adjOf E) t (j + 1)) = enc2 CJ ++ [.int .i64 j, .int .i64 u] := by rw [hck.out, enc2_push]
                exact ⟨⟨j + 1, by omega, by go_num, ⟨by rw [hln, hen]; exact h10k.out.1, hb10⟩, _, _, by rw [hln]⟩, by simp [intOf]; omega⟩
              · rw [if_neg (fun h => hl1 h.2)] at hcs1
                have hck := Keep.mk hcs1
                have hl1' : ((l : Int) == 1) = false := by rw [beq_eq_false_iff_ne]; omega
                clear hcs1 hbb hp hp2 hq htj hD hdd hfa hl
                go_wp2_with (first
                  | (go_at_call 54; (with_reducible refine (q54 _).mono ?_); rintro e w5 ⟨rfl, hb5⟩
                     have hJ5 : Keep (w5.ownsRow wo.heap.size 63 2 (.slice Aj mj cj) mj (enc2 CJ) ∧ Below wo.heap.size wo w5) := ⟨row_after hJ.out.1 hb5, hJ.out.2.trans (hb5.mono hJ.out.2.size)⟩
                     clear hb5 hJ q54))
                exact ⟨⟨j + 1, by omega, by go_num, by rw [hck.out, hmj]; exact hJ5, _, _, by rw [hck.out, hmj]⟩, by simp [intOf]; omega⟩
          · obtain rfl : j = N := by omega
            have hlt2' : ¬ (j : Int) < (j : Int) := by omega
            have hHd := Keep.mk ((hk3.out.keep hI.out.2).keep hJ.out.2)
            have hRi := Keep.mk (row_after hI.out.1 hJ.out.2)
            by_cases hC : canTo (adjOf E) t j = []
            · have hEq := hO.out.stuck hGk.out hC
              have hM0 : (canTo (adjOf E) t j).length = 0 := by rw [hC]; rfl
              have hlen12 : k ≤ 12 := by omega
              rw [hM0]
              have hcr := hRi
              clear hM0 hC hRi hJ hI hGi hGr
              have hzt : zsOf (clo (fround (adjOf E)) S) = zsOf t := by
                refine zsOf_cg fun j hj => ?_
                rw [hEq j hj]
                exact (clo_cg (infl_force (adjOf E)) hcs.out j hj).symm
              have q19 : Keep (∀ (W : World) (ve v : Value), PairsOf W ve E → IntsO W v (zsOf S) → Calls Try.prog 19 #[.int .i64 j, ve, v] W fun e w' => ∃ lv, e = .returned (.tuple #[lv, .int .i64 (kfOf (fround (adjOf E)) S), .int .i64 0]) ∧ IntsO w' lv (zsOf t) ∧ Below W.heap.size W w') := ⟨fun W ve v he hv => by
                have := oClose (w := W) hGk.out he hSk.out hv
                rw [hzt] at this; exact this⟩
              have q28 := fun W => oList (N := j) hn.out W
              clear hzt hEq
              go_wp2_with (first
                | (go_at_call 19; have hp := hHd.out.ps; have hv := hHd.out.at (z := zsOf S) (.head _)
                   (with_reducible refine (q19.out _ _ _ hp hv).mono ?_); rintro e wg ⟨vc, rfl, hi, hb⟩
                   have hk1 := Keep.mk (hHd.out.put hb hi)
                   have hr1 := Keep.mk (row_after hcr.out hb)
                   clear hi hb hp hv q19 hHd hcr)
                | (go_at_call 28; (with_reducible refine (q28 _).mono ?_); rintro e wh ⟨vw, rfl, hi, hb⟩
                   have hk2 := Keep.mk (hk1.out.put hb hi)
                   have hr2 := Keep.mk (row_after hr1.out hb)
                   clear hi hb q28 hk1 hr1)
                | (go_at_call 27; have hva := hk2.out.at (v := vc) (z := zsOf t) (.tail _ (.head _)); have hvb := hk2.out.at (v := vw) (z := zsOf t) (.head _)
                   (with_reducible refine (same_any hva hvb (Nat.le_trans (zs_len _) (by omega))).mono ?_); rintro e wi2 ⟨rfl, nq, hq⟩
                   have hk3 : Keep (Hd w wi2 vl E [(vs, zsOf S)]) := ⟨by rw [hq]; exact hk2.out.tl.tl.dn nq⟩
                   have hr3 : Keep (wi2.ownsRow w3.heap.size 63 2 (.slice Ac k cc) k (enc2 c)) := ⟨by rw [hq]; exact row_after hr2.out (below_dn wh nq)⟩
                   clear hva hvb hk2 hr2 hq))
              have hcap : k ≤ cc := row_cap hr3.out
              go_loopw [21] (fun i wr => ∃ k' : Nat, k' ≤ k + 1 ∧ i = .int .i64 k' ∧ Keep (Hd w wr vl E [(vs, zsOf S)] ∧ wr.ownsRow w3.heap.size 63 2 (.slice Ac k cc) k (enc2 c))) (fun i _ => k + 2 - (intOf i).toNat)
              case atStart => exact ⟨0, by omega, rfl, ⟨hk3.out, hr3.out⟩⟩
              case round =>
                obtain ⟨k', hk', rfl, hL⟩ := hrel
                by_cases hle : k' ≤ k
                · have hw5 : IntKind.i64.wrap ((k' : Int) + 1) = (k' : Int) + 1 := IntWalk.i64_in _ (by omega)
                  have hle' : (k' : Int) ≤ (k : Int) := by omega
                  have hk'0 : ¬ (k' : Int) < 0 := by omega
                  have hk'c : (k' : Int) ≤ (cc : Int) := by omega
                  have hpc : Keep (PairsOf wr (.slice Ac k' cc) (c.take k')) := ⟨pairs_take (own_pairs (by rw [hO.out.len]; exact hL.out.2)) hO.out.len hle⟩
                  have q49 : Keep (∀ (W : World) (ve v vc : Value), PairsOf W ve E → IntsO W v (zsOf S) → PairsOf W vc (c.take k') → Calls Try.prog 49 #[.int .i64 j, ve, v, vc] W fun e w' => e = .returned (.int .i64 0) ∧ Below W.heap.size W w') := ⟨fun W ve v vc he hv hc => by
                    have := check_any (w := W) hGk.out he hSk.out hv hc (by rw [List.length_take]; omega)
                    rw [if_pos (chrT_pre (by rw [hO.out.chr]; rfl) k')] at this
                    exact this⟩
                  go_wp2_with (first
                    | (go_at_call 49; have hp := hL.out.1.ps; have hv := hL.out.1.at (z := zsOf S) (.head _); have hc := hpc.out
                       (with_reducible refine (q49.out _ _ _ _ hp hv hc).mono ?_); rintro e wj ⟨rfl, hb⟩
                       have hL2 := Keep.mk (And.intro (hL.out.1.keep hb) (row_after hL.out.2 hb))
                       clear hb hp hv hc hL hpc q49))
                  exact ⟨⟨k' + 1, by omega, by go_num, hL2⟩, by simp [intOf]; omega⟩
                · obtain rfl : k' = k + 1 := by omega
                  have hgt : ¬ ((k + 1 : Nat) : Int) ≤ (k : Int) := by omega
                  have hgt2 : ¬ (k : Int) + 1 ≤ (k : Int) := by omega
                  have q17 : Keep (∀ (W : World) (v : Value), PairsC W v c → _) := ⟨fun W v h => pairs_own (w := W) h (by rw [hO.out.len]; omega)⟩
                  have q53 := fun w => mod_any 0 (m := j) (by omega) (by omega) w
                  obtain ⟨mm, hmm⟩ : ∃ mm, modN 0 j = mm := ⟨_, rfl⟩
                  rw [hmm] at q53
                  have q49 : Keep (∀ (W : World) (ve v vc : Value), PairsOf W ve E → IntsO W v (zsOf S) → PairsOf W vc (c ++ [((mm : Int), (mm : Int))]) → Calls Try.prog 49 #[.int .i64 j, ve, v, vc] W fun e w' => e = .returned (.int .i64 10) ∧ Below W.heap.size W w') := ⟨fun W ve v vc he hv hc => by
                    have := check_any (w := W) hGk.out he hSk.out hv hc (by rw [List.length_append, hO.out.len]; simp; omega)
                    rw [if_neg (by rw [bad_none hO.out.chr]; simp)] at this
                    exact this⟩
                  have hlk : Keep (c.length = k) := ⟨hO.out.len⟩
                  clear hmm
                  go_wp2_with (first
                    | (go_at_call 17; have hp := row_pairsC (w := wr) (by rw [hlk.out]; exact hL.out.2)
                       (with_reducible refine (q17.out _ _ hp).mono ?_); rintro e wj ⟨vb, rfl, hr, hb⟩
                       rw [hlk.out] at hr
                       obtain ⟨Ab, cb, rfl⟩ : ∃ A c, vb = .slice A k c := row_slice2 hr
                       have hM := Keep.mk (And.intro hL.out.1 (And.intro hb hr))
                       clear hp hr hb hL q17)
                    | (go_at_call 53; (with_reducible refine (q53 _).mono ?_); rintro e wm ⟨rfl, hem⟩; rw [hem]; clear hem wm)
                    | (at_builtin; refine wpList_append_own_at _ rfl _ _ 22 rfl wr.heap.size 63 i0 (.agg #[.int .i64 0, .int .i64 0]) 2 16 ty22 hi0 hz0 hz1 hz2 rfl (by decide) _ k (enc2 c) rfl (hM.out.2.2.alloc _) ⟨wj.heap.size, 0, none⟩ 1 1 [.int .i64 mm, .int .i64 mm] rfl rfl (cell_two_new _ _ _ _) (two_one _ _) (by unfold maxLen; omega) (by omega) (by have := hM.out.2.1.size; simp; omega) ?_; intro v' w1 hown hgrow _ _
                       obtain ⟨g', cap', rfl⟩ := ownsRow_succ hown
                       have h10k := Keep.mk (And.intro hown hgrow)
                       clear hown hgrow
                       have hbw1 : Below wr.heap.size wr w1 := hM.out.2.1.trans (Below.grown ((Below.refl _ wj).alloc (by have := hM.out.2.1.size; omega) _) h10k.out.2 (by have := hM.out.2.1.size; simp; omega) (fun j hj => by
                         have hj' : (Value.slice Ab k cb).ownBlock = some j := hj
                         exact (hM.out.2.2.lt j hj').1))
                       have hM2 : Keep (Hd w w1 vl E [(vs, zsOf S)] ∧ PairsOf w1 (.slice (some ⟨g', 0, none⟩) (k + 1) cap') (c ++ [((mm : Int), (mm : Int))])) := ⟨hM.out.1.keep hbw1, own_pairs (by rw [List.length_append, hlk.out, enc2_push]; exact h10k.out.1)⟩
                       clear h10k hM hbw1)
                    | (go_at_call 49; have hp := hM2.out.1.ps; have hv := hM2.out.1.at (z := zsOf S) (.head _); have hc := hM2.out.2
                       (with_reducible refine (q49.out _ _ _ _ hp hv hc).mono ?_); rintro e wk ⟨rfl, hb⟩
                       have hZ := Keep.mk (hM2.out.1.2.2.trans (hb.mono hM2.out.1.2.2.size))
                       clear hb hp hv hc hM2 q49)
                    | (go_at_call 23; (with_reducible refine (awake_w _).mono ?_); rintro e wl ⟨rfl, hb⟩
                       have hZ2 := Keep.mk (hZ.out.trans (hb.mono hZ.out.size))
                       clear hb hZ))
                  refine bodyPost_ret (v := .bool true) (by simp [results, Try.results12, go_sem]) rfl ?_
                  exact ⟨rfl, hZ2.out⟩
            · obtain ⟨M, hM⟩ : ∃ M, (canTo (adjOf E) t j).length = M := ⟨_, rfl⟩
              have hM1 : 1 ≤ M := by
                rcases Nat.eq_zero_or_pos M with h | h
                · exact absurd (List.length_eq_zero_iff.1 (hM.trans h)) hC
                · exact h
              have hM12 : M ≤ 12 := by have := canTo_len (adjOf E) t j; omega
              have hMz : ((M : Int) == 0) = false := by rw [beq_eq_false_iff_ne]; omega
              rw [hM] at hJ ⊢
              have hPc : ∀ i, i < M → ∃ g, Aj = some ⟨g, 0, none⟩ ∧ wr.cell? ⟨g, i * 2, none⟩ = some (.int .i64 ((canTo (adjOf E) t j).getD i (0, 0)).1) ∧ wr.cell? ⟨g, i * 2 + 1, none⟩ = some (.int .i64 ((canTo (adjOf E) t j).getD i (0, 0)).2) := by
                obtain ⟨A', cap', h1, h2⟩ := own_pairs (ps := canTo (adjOf E) t j) (by rw [hM]; exact hJ.out.1)
                injection h1 with h3 _ _
                intro i hi
                rw [h3]
                exact h2 i (by rw [hM]; exact hi)
              have hbz := Keep.mk (hI.out.2.trans (hJ.out.2.mono hI.out.2.size))
              have hw7 : IntKind.i64.wrap ((k : Int) + 1) = (k : Int) + 1 := IntWalk.i64_in _ (by omega)
              have hby' : ¬ (k : Int) + 1 < (0 : Int) := by omega
              have hqM : 0 < M := hM1
              obtain ⟨gc, hgc, e0, e1⟩ := hPc 0 hqM
              obtain ⟨a, u, hau, ha1, hu1, ha2, hu2, hu12, hau2⟩ := stepC_dry (canTo_step hGk.out j (Nat.le_refl _) _ (getp (ps := canTo (adjOf E) t j) (k := 0) (by rw [hM]; exact hqM)))
              have hstep := canTo_step hGk.out j (Nat.le_refl _) _ (getp (ps := canTo (adjOf E) t j) (k := 0) (by rw [hM]; exact hqM))
              have hnext := hO.out.next hGk.out hstep
              rw [hau] at e0 e1 hnext
              simp only [Int.toNat_natCast] at e0 e1 hnext
              have hgcl : wo.heap.size ≤ gc := by
                have : (Value.slice Aj M cj).ownBlock = some gc := by rw [hgc]; rfl
                exact (hJ.out.1.lt gc this).1
              subst hgc
              obtain ⟨P, hP⟩ : ∃ P : Nat, 2 ^ u = P := ⟨_, rfl⟩
              have wP : IntKind.i64.wrap (2 ^ u) = (P : Int) := by rw [← hP]; exact wrap_pow (by omega)
              have lP : P ≤ 4096 := by rw [← hP]; exact pow_lt (by omega)
              have hnl : n < 4096 := by rw [← hn.out]; exact num_lt t
              have hor : bits .or .i64 (n : Int) (P : Int) = ((num (adds t u) : Nat) : Int) := by
                rw [or_i64 _ _ (by omega) (by omega), ← hn.out, ← hP, num_or _ _ hu12]
              obtain ⟨n2, hn2⟩ : ∃ n2, num (adds t u) = n2 := ⟨_, rfl⟩
              rw [hn2] at hor
              have hu0 : ¬ (u : Int) < 0 := by omega
              have hn2k := Keep.mk hn2
              have hnx := Keep.mk hnext
              have hne : some gc ≠ (Value.slice Ac k cc).ownBlock := fun e => by
                have := (hI.out.1.lt gc e.symm).2
                omega
              have hnek := Keep.mk hne
              have hq0 : ¬ ((0 : Nat) : Int) < 0 := by omega
              have hqM' : ((0 : Nat) : Int) < (M : Int) := by omega
              clear hn2 hnext hstep hau hP hPc hne
              go_wp2_with (first
                | (at_builtin; refine wpList_append_own_at _ rfl _ _ 22 rfl w3.heap.size 63 i0 (.agg #[.int .i64 0, .int .i64 0]) 2 16 ty22 hi0 hz0 hz1 hz2 rfl (by decide) _ k (enc2 c) rfl (hRi.out.alloc _) ⟨wr.heap.size, 0, none⟩ 1 1 [.int .i64 a, .int .i64 u] rfl rfl (cell_two_new _ _ _ _) (two_one _ _) (by unfold maxLen; omega) (by omega) (by have := hbz.out.size; simp; omega) ?_; intro v' w1 hown hgrow _ _
                   obtain ⟨g', cap', rfl⟩ := ownsRow_succ hown
                   have h10k := Keep.mk (And.intro hown hgrow)
                   clear hown hgrow
                   have cu1 : w1.cell? ⟨gc, 0 * 2 + 1, none⟩ = some (.int .i64 u) := h10k.out.2.cell (cell_below e1 ((Below.refl _ wr).alloc (Nat.le_refl _) _)) hnek.out))
              have hbw1 : Below w3.heap.size w3 w1 := hbz.out.trans (Below.grown ((Below.refl _ wr).alloc (by have := hbz.out.size; omega) _) h10k.out.2 (by have := hbz.out.size; simp; omega) (fun j hj => by
                have hj' : (Value.slice Ac k cc).ownBlock = some j := hj
                exact (hRi.out.lt j hj').1))
              exact ⟨⟨k + 1, by omega, by go_num, c ++ [((a : Int), (u : Int))], adds t u, n2, rfl, hn2k, hnx, ⟨by rw [enc2_push]; exact h10k.out.1, hbw1⟩, _, _, rfl⟩, by simp [intOf]; omega⟩
      · obtain rfl : k = N := by omega
        have hlt' : ¬ (k : Int) < (k : Int) := by omega
        have hEq := hO.out.full hGk.out
        have hHd := Keep.mk (hk3.out.keep hI.out.2)
        have hcr := Keep.mk hI.out.1
        have hlen12 : k ≤ 12 := by omega
        clear hI
        have hzt : zsOf (clo (fround (adjOf E)) S) = zsOf t := by
          refine zsOf_cg fun j hj => ?_
          rw [hEq j hj]
          exact (clo_cg (infl_force (adjOf E)) hcs.out j hj).symm
        have q19 : Keep (∀ (W : World) (ve v : Value), PairsOf W ve E → IntsO W v (zsOf S) → Calls Try.prog 19 #[.int .i64 k, ve, v] W fun e w' => ∃ lv, e = .returned (.tuple #[lv, .int .i64 (kfOf (fround (adjOf E)) S), .int .i64 0]) ∧ IntsO w' lv (zsOf t) ∧ Below W.heap.size W w') := ⟨fun W ve v he hv => by
          have := oClose (w := W) hGk.out he hSk.out hv
          rw [hzt] at this; exact this⟩
        have q28 := fun W => oList (N := k) hn.out W
        clear hzt hEq
        go_wp2_with (first
          | (go_at_call 19; have hp := hHd.out.ps; have hv := hHd.out.at (z := zsOf S) (.head _)
             (with_reducible refine (q19.out _ _ _ hp hv).mono ?_); rintro e wg ⟨vc, rfl, hi, hb⟩
             have hk1 := Keep.mk (hHd.out.put hb hi)
             have hr1 := Keep.mk (row_after hcr.out hb)
             clear hi hb hp hv q19 hHd hcr)
          | (go_at_call 28; (with_reducible refine (q28 _).mono ?_); rintro e wh ⟨vw, rfl, hi, hb⟩
             have hk2 := Keep.mk (hk1.out.put hb hi)
             have hr2 := Keep.mk (row_after hr1.out hb)
             clear hi hb q28 hk1 hr1)
          | (go_at_call 27; have hva := hk2.out.at (v := vc) (z := zsOf t) (.tail _ (.head _)); have hvb := hk2.out.at (v := vw) (z := zsOf t) (.head _)
             (with_reducible refine (same_any hva hvb (Nat.le_trans (zs_len _) (by omega))).mono ?_); rintro e wi2 ⟨rfl, nq, hq⟩
             have hk3 : Keep (Hd w wi2 vl E [(vs, zsOf S)]) := ⟨by rw [hq]; exact hk2.out.tl.tl.dn nq⟩
             have hr3 : Keep (wi2.ownsRow w3.heap.size 63 2 (.slice Ac k cc) k (enc2 c)) := ⟨by rw [hq]; exact row_after hr2.out (below_dn wh nq)⟩
             clear hva hvb hk2 hr2 hq))
        have hcap : k ≤ cc := row_cap hr3.out
        go_loopw [21] (fun i wr => ∃ k' : Nat, k' ≤ k + 1 ∧ i = .int .i64 k' ∧ Keep (Hd w wr vl E [(vs, zsOf S)] ∧ wr.ownsRow w3.heap.size 63 2 (.slice Ac k cc) k (enc2 c))) (fun i _ => k + 2 - (intOf i).toNat)
        case atStart => exact ⟨0, by omega, rfl, ⟨hk3.out, hr3.out⟩⟩
        case round =>
          obtain ⟨k', hk', rfl, hL⟩ := hrel
          by_cases hle : k' ≤ k
          · have hw5 : IntKind.i64.wrap ((k' : Int) + 1) = (k' : Int) + 1 := IntWalk.i64_in _ (by omega)
            have hle' : (k' : Int) ≤ (k : Int) := by omega
            have hk'0 : ¬ (k' : Int) < 0 := by omega
            have hk'c : (k' : Int) ≤ (cc : Int) := by omega
            have hpc : Keep (PairsOf wr (.slice Ac k' cc) (c.take k')) := ⟨pairs_take (own_pairs (by rw [hO.out.len]; exact hL.out.2)) hO.out.len hle⟩
            have q49 : Keep (∀ (W : World) (ve v vc : Value), PairsOf W ve E → IntsO W v (zsOf S) → PairsOf W vc (c.take k') → Calls Try.prog 49 #[.int .i64 k, ve, v, vc] W fun e w' => e = .returned (.int .i64 0) ∧ Below W.heap.size W w') := ⟨fun W ve v vc he hv hc => by
              have := check_any (w := W) hGk.out he hSk.out hv hc (by rw [List.length_take]; omega)
              rw [if_pos (chrT_pre (by rw [hO.out.chr]; rfl) k')] at this
              exact this⟩
            go_wp2_with (first
              | (go_at_call 49; have hp := hL.out.1.ps; have hv := hL.out.1.at (z := zsOf S) (.head _); have hc := hpc.out
                 (with_reducible refine (q49.out _ _ _ _ hp hv hc).mono ?_); rintro e wj ⟨rfl, hb⟩
                 have hL2 := Keep.mk (And.intro (hL.out.1.keep hb) (row_after hL.out.2 hb))
                 clear hb hp hv hc hL hpc q49))
            exact ⟨⟨k' + 1, by omega, by go_num, hL2⟩, by simp [intOf]; omega⟩
          · obtain rfl : k' = k + 1 := by omega
            have hgt : ¬ ((k + 1 : Nat) : Int) ≤ (k : Int) := by omega
            have hgt2 : ¬ (k : Int) + 1 ≤ (k : Int) := by omega
            have q17 : Keep (∀ (W : World) (v : Value), PairsC W v c → _) := ⟨fun W v h => pairs_own (w := W) h (by rw [hO.out.len]; omega)⟩
            have q53 := fun w => mod_any 0 (m := k) (by omega) (by omega) w
            obtain ⟨mm, hmm⟩ : ∃ mm, modN 0 k = mm := ⟨_, rfl⟩
            rw [hmm] at q53
            have q49 : Keep (∀ (W : World) (ve v vc : Value), PairsOf W ve E → IntsO W v (zsOf S) → PairsOf W vc (c ++ [((mm : Int), (mm : Int))]) → Calls Try.prog 49 #[.int .i64 k, ve, v, vc] W fun e w' => e = .returned (.int .i64 10) ∧ Below W.heap.size W w') := ⟨fun W ve v vc he hv hc => by
              have := check_any (w := W) hGk.out he hSk.out hv hc (by rw [List.length_append, hO.out.len]; simp; omega)
              rw [if_neg (by rw [bad_none hO.out.chr]; simp)] at this
              exact this⟩
            have hlk : Keep (c.length = k) := ⟨hO.out.len⟩
            clear hmm
            go_wp2_with (first
              | (go_at_call 17; have hp := row_pairsC (w := wr) (by rw [hlk.out]; exact hL.out.2)
                 (with_reducible refine (q17.out _ _ hp).mono ?_); rintro e wj ⟨vb, rfl, hr, hb⟩
                 rw [hlk.out] at hr
                 obtain ⟨Ab, cb, rfl⟩ : ∃ A c, vb = .slice A k c := row_slice2 hr
                 have hM := Keep.mk (And.intro hL.out.1 (And.intro hb hr))
                 clear hp hr hb hL q17)
              | (go_at_call 53; (with_reducible refine (q53 _).mono ?_); rintro e wm ⟨rfl, hem⟩; rw [hem]; clear hem wm)
              | (at_builtin; refine wpList_append_own_at _ rfl _ _ 22 rfl wr.heap.size 63 i0 (.agg #[.int .i64 0, .int .i64 0]) 2 16 ty22 hi0 hz0 hz1 hz2 rfl (by decide) _ k (enc2 c) rfl (hM.out.2.2.alloc _) ⟨wj.heap.size, 0, none⟩ 1 1 [.int .i64 mm, .int .i64 mm] rfl rfl (cell_two_new _ _ _ _) (two_one _ _) (by unfold maxLen; omega) (by omega) (by have := hM.out.2.1.size; simp; omega) ?_; intro v' w1 hown hgrow _ _
                 obtain ⟨g', cap', rfl⟩ := ownsRow_succ hown
                 have h10k := Keep.mk (And.intro hown hgrow)
                 clear hown hgrow
                 have hbw1 : Below wr.heap.size wr w1 := hM.out.2.1.trans (Below.grown ((Below.refl _ wj).alloc (by have := hM.out.2.1.size; omega) _) h10k.out.2 (by have := hM.out.2.1.size; simp; omega) (fun j hj => by
                   have hj' : (Value.slice Ab k cb).ownBlock = some j := hj
                   exact (hM.out.2.2.lt j hj').1))
                 have hM2 : Keep (Hd w w1 vl E [(vs, zsOf S)] ∧ PairsOf w1 (.slice (some ⟨g', 0, none⟩) (k + 1) cap') (c ++ [((mm : Int), (mm : Int))])) := ⟨hM.out.1.keep hbw1, own_pairs (by rw [List.length_append, hlk.out, enc2_push]; exact h10k.out.1)⟩
                 clear h10k hM hbw1)
              | (go_at_call 49; have hp := hM2.out.1.ps; have hv := hM2.out.1.at (z := zsOf S) (.head _); have hc := hM2.out.2
                 (with_reducible refine (q49.out _ _ _ _ hp hv hc).mono ?_); rintro e wk ⟨rfl, hb⟩
                 have hZ := Keep.mk (hM2.out.1.2.2.trans (hb.mono hM2.out.1.2.2.size))
                 clear hb hp hv hc hM2 q49)
              | (go_at_call 23; (with_reducible refine (awake_w _).mono ?_); rintro e wl ⟨rfl, hb⟩
                 have hZ2 := Keep.mk (hZ.out.trans (hb.mono hZ.out.size))
                 clear hb hZ))
            refine bodyPost_ret (v := .bool true) (by simp [results, Try.results12, go_sem]) rfl ?_
            exact ⟨rfl, hZ2.out⟩
  · obtain ⟨b2, o2, hA2, d0⟩ := argZ_at hb (k := 0) (by rw [hbl.out]; omega)
    subst hA2
    rw [if_neg hl0] at hx0
    rw [hx0, Nat.add_zero] at d0
    have hl2p : (l2 : Int) > 0 := by omega
    clear hb hx0
    go_enter Try.func12, Try.ntmps12
    go_wp2_with (first
      | (go_at_call 50; (with_reducible refine q50.mono ?_); rintro e w1 ⟨vl, rfl, hr1, hb1⟩
         have hk1 : Keep (Hd w w1 vl E []) := ⟨⟨own_pairs hr1, fun x hx => by simp at hx, hb1⟩⟩
         clear hr1 hb1 q50)
      | (go_at_call 24; have hp := hk1.out.ps; (with_reducible refine (q24.out _ _ hp).mono ?_); rintro e w2 ⟨G, rfl, hGn, hGl, hb⟩
         have hk2 := Keep.mk (hk1.out.keep hb)
         have hG2 := Keep.mk hGn
         have d0 := cell_below d0 hk2.out.2.2
         clear hGn hGl hb hp hk1 q24)
      | (go_at_call 51; (with_reducible refine (q51 _).mono ?_); rintro e w3 ⟨vs, rfl, hi, hb⟩
         have hk3 := Keep.mk (hk2.out.put hb hi)
         have hG3 : Keep (NumsAt w3 G N 3 (nearOf E)) := ⟨hG2.out.below hb hG2.out.lt⟩
         clear hi hb hk2 hG2 q51)
      | (go_at_call 26; have hvx := hk3.out.at (z := zsOf S) (.head _)
         (with_reducible refine (q26.out _ _ hvx).mono ?_); rintro e wm ⟨rfl, hem⟩; rw [hem]; clear hem wm hvx))
    go_loopw [13, 12, 11] (fun i cv wv wr => ∃ k : Nat, k ≤ N ∧ i = .int .i64 k ∧ ∃ c t n, wv = .int .i64 (n : Nat) ∧ Keep (num t = n) ∧ Keep (OrS N E (setOf (zsOf S)) k c t) ∧ Keep (wr.ownsRow w3.heap.size 63 2 cv k (enc2 c) ∧ Below w3.heap.size w3 wr) ∧ ∃ A cc, cv = .slice A k cc) (fun i _ _ _ => N - (intOf i).toNat)
    case atStart => exact ⟨0, by omega, rfl, [], setOf (zsOf S), nS, rfl, hnS2, hO0, ⟨World.ownsRow_nil _ _ _ _, Below.refl _ _⟩, _, _, rfl⟩
    case round =>
      obtain ⟨k, hk, rfl, c, t, n, rfl, hn, hO, hI, Ac, cc, rfl⟩ := hrel
      obtain ⟨wo, rfl⟩ : ∃ x, x = wr := ⟨_, rfl⟩
      have hw1 : IntKind.i64.wrap ((k : Int) + 1) = (k : Int) + 1 := IntWalk.i64_in _ (by omega)
      by_cases hlt : k < N
      · have hlt' : (k : Int) < (N : Int) := by omega
        have hGr : Keep (NumsAt wo G N 3 (nearOf E)) := ⟨hG3.out.below hI.out.2 hG3.out.lt⟩
        go_wp2
        go_loopw [15, 14] (fun pv cv2 wx => ∃ j : Nat, j ≤ N ∧ pv = .int .i64 j ∧ Keep (wx.ownsRow wo.heap.size 63 2 cv2 (canTo (adjOf E) t j).length (enc2 (canTo (adjOf E) t j)) ∧ Below wo.heap.size wo wx) ∧ ∃ A c, cv2 = .slice A (canTo (adjOf E) t j).length c) (fun i _ _ => N - (intOf i).toNat)
        case atStart => exact ⟨0, by omega, rfl, ⟨World.ownsRow_nil _ _ _ _, Below.refl _ _⟩, _, _, rfl⟩
        case round =>
          obtain ⟨j, hj, rfl, hJ, Aj, cj, rfl⟩ := hrel
          have hw2 : IntKind.i64.wrap ((j : Int) + 1) = (j : Int) + 1 := IntWalk.i64_in _ (by omega)
          have hGi : Keep (NumsAt wr G N 3 (nearOf E)) := ⟨hGr.out.below hJ.out.2 hGr.out.lt⟩
          by_cases hlt2 : j < N
          · have hlt2' : (j : Int) < (N : Int) := by omega
            have hj0 : ¬ (j : Int) < 0 := by omega
            have hnl : n < 4096 := by rw [← hn.out]; exact num_lt t
            have hsh := shr_i64 n j hnl
            obtain ⟨q, hq⟩ : ∃ q, n / 2 ^ j = q := ⟨_, rfl⟩
            rw [hq] at hsh
            have hbb := bit_mod n j
            rw [hq, ← hn.out, num_bit, decide_eq_true (p := j < 12) (by omega), Bool.true_and] at hbb
            obtain ⟨p, hp⟩ : ∃ p, q % 2 = p := ⟨_, rfl⟩
            have hp2 : p < 2 := by omega
            have hrem : (q : Int).tmod 2 = (p : Int) := by rw [show (2 : Int) = ((2 : Nat) : Int) from rfl, IntWalk.up_tmod rfl rfl, hp]
            rw [hp] at hbb
            have hdf := num_diff (adjOf E j) t
            obtain ⟨fa, hfa⟩ : ∃ fa, nearOf E j = fa := ⟨_, rfl⟩
            have cG := (hGi.out.cell hlt2).1
            rw [hfa] at cG
            rw [show num (adjOf E j) = fa from hfa, hn.out] at hdf
            obtain ⟨D, hD⟩ : ∃ D, (fun u => adjOf E j u && !t u) = D := ⟨_, rfl⟩
            rw [hD] at hdf
            obtain ⟨dd, hdd⟩ : ∃ dd, num D = dd := ⟨_, rfl⟩
            rw [hdd] at hdf
            have hcs1 : canTo (adjOf E) t (j + 1) = if t j = true ∧ sz D = 1 then canTo (adjOf E) t j ++ [((j : Int), onlyOf D)] else canTo (adjOf E) t j := by rw [← hD]; rfl
            have hjl := canTo_len (adjOf E) t j
            obtain ⟨CJ, hCJ⟩ : ∃ CJ, canTo (adjOf E) t j = CJ := ⟨_, rfl⟩
            rw [hCJ] at hcs1 hJ hjl
            obtain ⟨mj, hmj⟩ : ∃ mj, CJ.length = mj := ⟨_, rfl⟩
            rw [hmj] at hJ hjl
            try rw [hCJ]
            try rw [hmj]
            cases htj : t j with
            | false =>
              have hp0 : p = 0 := by
                by_cases e : p = 1
                · rw [hbb.1 e] at htj; cases htj
                · omega
              subst hp0
              rw [htj] at hcs1
              simp only [Bool.false_eq_true, false_and, if_false] at hcs1
              have hck := Keep.mk hcs1
              clear hcs1 hbb hp hp2 hq htj hD hdd hfa
              go_wp2
              exact ⟨⟨j + 1, by omega, by go_num, by rw [hck.out, hmj]; exact hJ, _, _, by rw [hck.out, hmj]⟩, by simp [intOf]; omega⟩
            | true =>
              have hp1 : p = 1 := hbb.2 htj
              subst hp1
              rw [htj] at hcs1
              obtain ⟨l, hl⟩ : ∃ l, sz D = l := ⟨_, rfl⟩
              have q54 := fun w => count_any hdd hl w
              rw [hl] at hcs1
              by_cases hl1 : l = 1
              · subst hl1
                obtain ⟨u, hu1, hu2, hu3⟩ := one_only hl
                simp only [true_and, if_true, and_self] at hcs1
                rw [hu3] at hcs1
                have hck := Keep.mk hcs1
                have q28j := fun W => oList (N := N) hdd W
                have hat := Keep.mk (fun (W : World) (v : Value) (h : IntsO W v (zsOf D)) => one_at h hl hu3)
                clear hcs1 hbb hp hp2 hq htj hD hdd hfa hl hu2 hu3
                go_wp2_with (first
                  | (go_at_call 54; (with_reducible refine (q54 _).mono ?_); rintro e w5 ⟨rfl, hb5⟩
                     have hJ5 : Keep (w5.ownsRow wo.heap.size 63 2 (.slice Aj mj cj) mj (enc2 CJ) ∧ Below wo.heap.size wo w5) := ⟨row_after hJ.out.1 hb5, hJ.out.2.trans (hb5.mono hJ.out.2.size)⟩
                     clear hb5 hJ q54)
                  | (go_at_call 28; (with_reducible refine (q28j _).mono ?_); rintro e w6 ⟨vd, rfl, hi6, hb6⟩
                     have hJ6 : Keep (w6.ownsRow wo.heap.size 63 2 (.slice Aj mj cj) mj (enc2 CJ) ∧ Below wo.heap.size wo w6) := ⟨row_after hJ5.out.1 hb6, hJ5.out.2.trans (hb6.mono hJ5.out.2.size)⟩
                     obtain ⟨gd, od, cd, rfl, cd0⟩ := hat.out w6 vd hi6
                     clear hi6 hb6 hJ5 q28j)
                  | (at_builtin; refine wpList_append_own_at _ rfl _ _ 22 rfl wo.heap.size 63 i0 (.agg #[.int .i64 0, .int .i64 0]) 2 16 ty22 hi0 hz0 hz1 hz2 rfl (by decide) _ mj (enc2 CJ) rfl (hJ6.out.1.alloc _) ⟨w6.heap.size, 0, none⟩ 1 1 [.int .i64 j, .int .i64 u] rfl rfl (cell_two_new _ _ _ _) (two_one _ _) (by unfold maxLen; omega) (by omega) (by have := hJ6.out.2.size; simp; omega) ?_; intro v' w1 hown hgrow _ _
                     obtain ⟨g', cap', rfl⟩ := ownsRow_succ hown
                     have h10k := Keep.mk (And.intro hown hgrow)
                     clear hown hgrow))
                have hb10 : Below wo.heap.size wo w1 := hJ6.out.2.trans (Below.grown ((Below.refl _ w6).alloc (by have := hJ6.out.2.size; omega) _) h10k.out.2 (by have := hJ6.out.2.size; simp; omega) (fun j hj => by
                  have hj' : (Value.slice Aj mj cj).ownBlock = some j := hj
                  exact (hJ6.out.1.lt j hj').1))
                have hln : (canTo (adjOf E) t (j + 1)).length = mj + 1 := by rw [hck.out, List.length_append, hmj]; rfl
                have hen : enc2 (canTo (adjOf E) t (j + 1)) = enc2 CJ ++ [.int .i64 j, .int .i64 u] := by rw [hck.out, enc2_push]
                exact ⟨⟨j + 1, by omega, by go_num, ⟨by rw [hln, hen]; exact h10k.out.1, hb10⟩, _, _, by rw [hln]⟩, by simp [intOf]; omega⟩
              · rw [if_neg (fun h => hl1 h.2)] at hcs1
                have hck := Keep.mk hcs1
                have hl1' : ((l : Int) == 1) = false := by rw [beq_eq_false_iff_ne]; omega
                clear hcs1 hbb hp hp2 hq htj hD hdd hfa hl
                go_wp2_with (first
                  | (go_at_call 54; (with_reducible refine (q54 _).mono ?_); rintro e w5 ⟨rfl, hb5⟩
                     have hJ5 : Keep (w5.ownsRow wo.heap.size 63 2 (.slice Aj mj cj) mj (enc2 CJ) ∧ Below wo.heap.size wo w5) := ⟨row_after hJ.out.1 hb5, hJ.out.2.trans (hb5.mono hJ.out.2.size)⟩
                     clear hb5 hJ q54))
                exact ⟨⟨j + 1, by omega, by go_num, by rw [hck.out, hmj]; exact hJ5, _, _, by rw [hck.out, hmj]⟩, by simp [intOf]; omega⟩
          · obtain rfl : j = N := by omega
            have hlt2' : ¬ (j : Int) < (j : Int) := by omega
            have hHd := Keep.mk ((hk3.out.keep hI.out.2).keep hJ.out.2)
            have hRi := Keep.mk (row_after hI.out.1 hJ.out.2)
            by_cases hC : canTo (adjOf E) t j = []
            · have hEq := hO.out.stuck hGk.out hC
              have hM0 : (canTo (adjOf E) t j).length = 0 := by rw [hC]; rfl
              have hlen12 : k ≤ 12 := by omega
              rw [hM0]
              have hcr := hRi
              clear hM0 hC hRi hJ hI hGi hGr
              have hzt : zsOf (clo (fround (adjOf E)) S) = zsOf t := by
                refine zsOf_cg fun j hj => ?_
                rw [hEq j hj]
                exact (clo_cg (infl_force (adjOf E)) hcs.out j hj).symm
              have q19 : Keep (∀ (W : World) (ve v : Value), PairsOf W ve E → IntsO W v (zsOf S) → Calls Try.prog 19 #[.int .i64 j, ve, v] W fun e w' => ∃ lv, e = .returned (.tuple #[lv, .int .i64 (kfOf (fround (adjOf E)) S), .int .i64 0]) ∧ IntsO w' lv (zsOf t) ∧ Below W.heap.size W w') := ⟨fun W ve v he hv => by
                have := oClose (w := W) hGk.out he hSk.out hv
                rw [hzt] at this; exact this⟩
              have q28 := fun W => oList (N := j) hn.out W
              clear hzt hEq
              go_wp2_with (first
                | (go_at_call 19; have hp := hHd.out.ps; have hv := hHd.out.at (z := zsOf S) (.head _)
                   (with_reducible refine (q19.out _ _ _ hp hv).mono ?_); rintro e wg ⟨vc, rfl, hi, hb⟩
                   have hk1 := Keep.mk (hHd.out.put hb hi)
                   have hr1 := Keep.mk (row_after hcr.out hb)
                   clear hi hb hp hv q19 hHd hcr)
                | (go_at_call 28; (with_reducible refine (q28 _).mono ?_); rintro e wh ⟨vw, rfl, hi, hb⟩
                   have hk2 := Keep.mk (hk1.out.put hb hi)
                   have hr2 := Keep.mk (row_after hr1.out hb)
                   clear hi hb q28 hk1 hr1)
                | (go_at_call 27; have hva := hk2.out.at (v := vc) (z := zsOf t) (.tail _ (.head _)); have hvb := hk2.out.at (v := vw) (z := zsOf t) (.head _)
                   (with_reducible refine (same_any hva hvb (Nat.le_trans (zs_len _) (by omega))).mono ?_); rintro e wi2 ⟨rfl, nq, hq⟩
                   have hk3 : Keep (Hd w wi2 vl E [(vs, zsOf S)]) := ⟨by rw [hq]; exact hk2.out.tl.tl.dn nq⟩
                   have hr3 : Keep (wi2.ownsRow w3.heap.size 63 2 (.slice Ac k cc) k (enc2 c)) := ⟨by rw [hq]; exact row_after hr2.out (below_dn wh nq)⟩
                   clear hva hvb hk2 hr2 hq))
              have hcap : k ≤ cc := row_cap hr3.out
              go_loopw [21] (fun i wr => ∃ k' : Nat, k' ≤ k + 1 ∧ i = .int .i64 k' ∧ Keep (Hd w wr vl E [(vs, zsOf S)] ∧ wr.ownsRow w3.heap.size 63 2 (.slice Ac k cc) k (enc2 c))) (fun i _ => k + 2 - (intOf i).toNat)
              case atStart => exact ⟨0, by omega, rfl, ⟨hk3.out, hr3.out⟩⟩
              case round =>
                obtain ⟨k', hk', rfl, hL⟩ := hrel
                by_cases hle : k' ≤ k
                · have hw5 : IntKind.i64.wrap ((k' : Int) + 1) = (k' : Int) + 1 := IntWalk.i64_in _ (by omega)
                  have hle' : (k' : Int) ≤ (k : Int) := by omega
                  have hk'0 : ¬ (k' : Int) < 0 := by omega
                  have hk'c : (k' : Int) ≤ (cc : Int) := by omega
                  have hpc : Keep (PairsOf wr (.slice Ac k' cc) (c.take k')) := ⟨pairs_take (own_pairs (by rw [hO.out.len]; exact hL.out.2)) hO.out.len hle⟩
                  have q49 : Keep (∀ (W : World) (ve v vc : Value), PairsOf W ve E → IntsO W v (zsOf S) → PairsOf W vc (c.take k') → Calls Try.prog 49 #[.int .i64 j, ve, v, vc] W fun e w' => e = .returned (.int .i64 0) ∧ Below W.heap.size W w') := ⟨fun W ve v vc he hv hc => by
                    have := check_any (w := W) hGk.out he hSk.out hv hc (by rw [List.length_take]; omega)
                    rw [if_pos (chrT_pre (by rw [hO.out.chr]; rfl) k')] at this
                    exact this⟩
                  go_wp2_with (first
                    | (go_at_call 49; have hp := hL.out.1.ps; have hv := hL.out.1.at (z := zsOf S) (.head _); have hc := hpc.out
                       (with_reducible refine (q49.out _ _ _ _ hp hv hc).mono ?_); rintro e wj ⟨rfl, hb⟩
                       have hL2 := Keep.mk (And.intro (hL.out.1.keep hb) (row_after hL.out.2 hb))
                       clear hb hp hv hc hL hpc q49))
                  exact ⟨⟨k' + 1, by omega, by go_num, hL2⟩, by simp [intOf]; omega⟩
                · obtain rfl : k' = k + 1 := by omega
                  have hgt : ¬ ((k + 1 : Nat) : Int) ≤ (k : Int) := by omega
                  have hgt2 : ¬ (k : Int) + 1 ≤ (k : Int) := by omega
                  have q17 : Keep (∀ (W : World) (v : Value), PairsC W v c → _) := ⟨fun W v h => pairs_own (w := W) h (by rw [hO.out.len]; omega)⟩
                  have q53 := fun w => mod_any x0 (m := j) (by omega) (by omega) w
                  obtain ⟨mm, hmm⟩ : ∃ mm, modN x0 j = mm := ⟨_, rfl⟩
                  rw [hmm] at q53
                  have q49 : Keep (∀ (W : World) (ve v vc : Value), PairsOf W ve E → IntsO W v (zsOf S) → PairsOf W vc (c ++ [((mm : Int), (mm : Int))]) → Calls Try.prog 49 #[.int .i64 j, ve, v, vc] W fun e w' => e = .returned (.int .i64 10) ∧ Below W.heap.size W w') := ⟨fun W ve v vc he hv hc => by
                    have := check_any (w := W) hGk.out he hSk.out hv hc (by rw [List.length_append, hO.out.len]; simp; omega)
                    rw [if_neg (by rw [bad_none hO.out.chr]; simp)] at this
                    exact this⟩
                  have hlk : Keep (c.length = k) := ⟨hO.out.len⟩
                  clear hmm
                  go_wp2_with (first
                    | (go_at_call 17; have hp := row_pairsC (w := wr) (by rw [hlk.out]; exact hL.out.2)
                       (with_reducible refine (q17.out _ _ hp).mono ?_); rintro e wj ⟨vb, rfl, hr, hb⟩
                       rw [hlk.out] at hr
                       obtain ⟨Ab, cb, rfl⟩ : ∃ A c, vb = .slice A k c := row_slice2 hr
                       have hM := Keep.mk (And.intro hL.out.1 (And.intro hb hr))
                       clear hp hr hb hL q17)
                    | (go_at_call 53; (with_reducible refine (q53 _).mono ?_); rintro e wm ⟨rfl, hem⟩; rw [hem]; clear hem wm)
                    | (at_builtin; refine wpList_append_own_at _ rfl _ _ 22 rfl wr.heap.size 63 i0 (.agg #[.int .i64 0, .int .i64 0]) 2 16 ty22 hi0 hz0 hz1 hz2 rfl (by decide) _ k (enc2 c) rfl (hM.out.2.2.alloc _) ⟨wj.heap.size, 0, none⟩ 1 1 [.int .i64 mm, .int .i64 mm] rfl rfl (cell_two_new _ _ _ _) (two_one _ _) (by unfold maxLen; omega) (by omega) (by have := hM.out.2.1.size; simp; omega) ?_; intro v' w1 hown hgrow _ _
                       obtain ⟨g', cap', rfl⟩ := ownsRow_succ hown
                       have h10k := Keep.mk (And.intro hown hgrow)
                       clear hown hgrow
                       have hbw1 : Below wr.heap.size wr w1 := hM.out.2.1.trans (Below.grown ((Below.refl _ wj).alloc (by have := hM.out.2.1.size; omega) _) h10k.out.2 (by have := hM.out.2.1.size; simp; omega) (fun j hj => by
                         have hj' : (Value.slice Ab k cb).ownBlock = some j := hj
                         exact (hM.out.2.2.lt j hj').1))
                       have hM2 : Keep (Hd w w1 vl E [(vs, zsOf S)] ∧ PairsOf w1 (.slice (some ⟨g', 0, none⟩) (k + 1) cap') (c ++ [((mm : Int), (mm : Int))])) := ⟨hM.out.1.keep hbw1, own_pairs (by rw [List.length_append, hlk.out, enc2_push]; exact h10k.out.1)⟩
                       clear h10k hM hbw1)
                    | (go_at_call 49; have hp := hM2.out.1.ps; have hv := hM2.out.1.at (z := zsOf S) (.head _); have hc := hM2.out.2
                       (with_reducible refine (q49.out _ _ _ _ hp hv hc).mono ?_); rintro e wk ⟨rfl, hb⟩
                       have hZ := Keep.mk (hM2.out.1.2.2.trans (hb.mono hM2.out.1.2.2.size))
                       clear hb hp hv hc hM2 q49)
                    | (go_at_call 23; (with_reducible refine (awake_w _).mono ?_); rintro e wl ⟨rfl, hb⟩
                       have hZ2 := Keep.mk (hZ.out.trans (hb.mono hZ.out.size))
                       clear hb hZ))
                  refine bodyPost_ret (v := .bool true) (by simp [results, Try.results12, go_sem]) rfl ?_
                  exact ⟨rfl, hZ2.out⟩
            · obtain ⟨M, hM⟩ : ∃ M, (canTo (adjOf E) t j).length = M := ⟨_, rfl⟩
              have hM1 : 1 ≤ M := by
                rcases Nat.eq_zero_or_pos M with h | h
                · exact absurd (List.length_eq_zero_iff.1 (hM.trans h)) hC
                · exact h
              have hM12 : M ≤ 12 := by have := canTo_len (adjOf E) t j; omega
              have hMz : ((M : Int) == 0) = false := by rw [beq_eq_false_iff_ne]; omega
              rw [hM] at hJ ⊢
              have hPc : ∀ i, i < M → ∃ g, Aj = some ⟨g, 0, none⟩ ∧ wr.cell? ⟨g, i * 2, none⟩ = some (.int .i64 ((canTo (adjOf E) t j).getD i (0, 0)).1) ∧ wr.cell? ⟨g, i * 2 + 1, none⟩ = some (.int .i64 ((canTo (adjOf E) t j).getD i (0, 0)).2) := by
                obtain ⟨A', cap', h1, h2⟩ := own_pairs (ps := canTo (adjOf E) t j) (by rw [hM]; exact hJ.out.1)
                injection h1 with h3 _ _
                intro i hi
                rw [h3]
                exact h2 i (by rw [hM]; exact hi)
              have hbz := Keep.mk (hI.out.2.trans (hJ.out.2.mono hI.out.2.size))
              have hw7 : IntKind.i64.wrap ((k : Int) + 1) = (k : Int) + 1 := IntWalk.i64_in _ (by omega)
              by_cases hby : k + 1 < l2
              · have hby' : (k : Int) + 1 < (l2 : Int) := by omega
                have hk10 : ¬ (k : Int) + 1 < 0 := by omega
                obtain ⟨b3, o3, hA3, d3⟩ := argZ_at hbk.out (k := k + 1) (by rw [hbl.out]; exact hby)
                injection hA3 with h; injection h with h1 h2
                subst h1 h2
                generalize bs.getD (k + 1) 0 = z at d3
                have d3 := cell_below d3 hHd.out.2.2
                have q53 := fun w => mod_any z (m := M) hM1 (by omega) w
                have hqM := modN_lt z hM1
                obtain ⟨qz, hqz⟩ : ∃ qz, modN z M = qz := ⟨_, rfl⟩
                rw [hqz] at q53 hqM
                clear hqz
                obtain ⟨gc, hgc, e0, e1⟩ := hPc qz hqM
                obtain ⟨a, u, hau, ha1, hu1, ha2, hu2, hu12, hau2⟩ := stepC_dry (canTo_step hGk.out j (Nat.le_refl _) _ (getp (ps := canTo (adjOf E) t j) (k := qz) (by rw [hM]; exact hqM)))
                have hstep := canTo_step hGk.out j (Nat.le_refl _) _ (getp (ps := canTo (adjOf E) t j) (k := qz) (by rw [hM]; exact hqM))
                have hnext := hO.out.next hGk.out hstep
                rw [hau] at e0 e1 hnext
                simp only [Int.toNat_natCast] at e0 e1 hnext
                have hgcl : wo.heap.size ≤ gc := by
                  have : (Value.slice Aj M cj).ownBlock = some gc := by rw [hgc]; rfl
                  exact (hJ.out.1.lt gc this).1
                subst hgc
                obtain ⟨P, hP⟩ : ∃ P : Nat, 2 ^ u = P := ⟨_, rfl⟩
                have wP : IntKind.i64.wrap (2 ^ u) = (P : Int) := by rw [← hP]; exact wrap_pow (by omega)
                have lP : P ≤ 4096 := by rw [← hP]; exact pow_lt (by omega)
                have hnl : n < 4096 := by rw [← hn.out]; exact num_lt t
                have hor : bits .or .i64 (n : Int) (P : Int) = ((num (adds t u) : Nat) : Int) := by
                  rw [or_i64 _ _ (by omega) (by omega), ← hn.out, ← hP, num_or _ _ hu12]
                obtain ⟨n2, hn2⟩ : ∃ n2, num (adds t u) = n2 := ⟨_, rfl⟩
                rw [hn2] at hor
                have hu0 : ¬ (u : Int) < 0 := by omega
                have hn2k := Keep.mk hn2
                have hnx := Keep.mk hnext
                have hne : some gc ≠ (Value.slice Ac k cc).ownBlock := fun e => by
                  have := (hI.out.1.lt gc e.symm).2
                  omega
                have hnek := Keep.mk hne
                have hq0 : ¬ ((qz : Nat) : Int) < 0 := by omega
                have hqM' : ((qz : Nat) : Int) < (M : Int) := by omega
                clear hn2 hnext hstep hau hP hPc hne
                go_wp2_with (first
                  | (go_at_call 53; (with_reducible refine (q53 _).mono ?_); rintro e wm ⟨rfl, hem⟩; rw [hem]; clear hem wm)
                  | (at_builtin; refine wpList_append_own_at _ rfl _ _ 22 rfl w3.heap.size 63 i0 (.agg #[.int .i64 0, .int .i64 0]) 2 16 ty22 hi0 hz0 hz1 hz2 rfl (by decide) _ k (enc2 c) rfl (hRi.out.alloc _) ⟨wr.heap.size, 0, none⟩ 1 1 [.int .i64 a, .int .i64 u] rfl rfl (cell_two_new _ _ _ _) (two_one _ _) (by unfold maxLen; omega) (by omega) (by have := hbz.out.size; simp; omega) ?_; intro v' w1 hown hgrow _ _
                     obtain ⟨g', cap', rfl⟩ := ownsRow_succ hown
                     have h10k := Keep.mk (And.intro hown hgrow)
                     clear hown hgrow
                     have cu1 : w1.cell? ⟨gc, qz * 2 + 1, none⟩ = some (.int .i64 u) := h10k.out.2.cell (cell_below e1 ((Below.refl _ wr).alloc (Nat.le_refl _) _)) hnek.out))
                have hbw1 : Below w3.heap.size w3 w1 := hbz.out.trans (Below.grown ((Below.refl _ wr).alloc (by have := hbz.out.size; omega) _) h10k.out.2 (by have := hbz.out.size; simp; omega) (fun j hj => by
                  have hj' : (Value.slice Ac k cc).ownBlock = some j := hj
                  exact (hRi.out.lt j hj').1))
                exact ⟨⟨k + 1, by omega, by go_num, c ++ [((a : Int), (u : Int))], adds t u, n2, rfl, hn2k, hnx, ⟨by rw [enc2_push]; exact h10k.out.1, hbw1⟩, _, _, rfl⟩, by simp [intOf]; omega⟩
              · have hby' : ¬ (k : Int) + 1 < (l2 : Int) := by omega
                have hqM : 0 < M := hM1
                obtain ⟨gc, hgc, e0, e1⟩ := hPc 0 hqM
                obtain ⟨a, u, hau, ha1, hu1, ha2, hu2, hu12, hau2⟩ := stepC_dry (canTo_step hGk.out j (Nat.le_refl _) _ (getp (ps := canTo (adjOf E) t j) (k := 0) (by rw [hM]; exact hqM)))
                have hstep := canTo_step hGk.out j (Nat.le_refl _) _ (getp (ps := canTo (adjOf E) t j) (k := 0) (by rw [hM]; exact hqM))
                have hnext := hO.out.next hGk.out hstep
                rw [hau] at e0 e1 hnext
                simp only [Int.toNat_natCast] at e0 e1 hnext
                have hgcl : wo.heap.size ≤ gc := by
                  have : (Value.slice Aj M cj).ownBlock = some gc := by rw [hgc]; rfl
                  exact (hJ.out.1.lt gc this).1
                subst hgc
                obtain ⟨P, hP⟩ : ∃ P : Nat, 2 ^ u = P := ⟨_, rfl⟩
                have wP : IntKind.i64.wrap (2 ^ u) = (P : Int) := by rw [← hP]; exact wrap_pow (by omega)
                have lP : P ≤ 4096 := by rw [← hP]; exact pow_lt (by omega)
                have hnl : n < 4096 := by rw [← hn.out]; exact num_lt t
                have hor : bits .or .i64 (n : Int) (P : Int) = ((num (adds t u) : Nat) : Int) := by
                  rw [or_i64 _ _ (by omega) (by omega), ← hn.out, ← hP, num_or _ _ hu12]
                obtain ⟨n2, hn2⟩ : ∃ n2, num (adds t u) = n2 := ⟨_, rfl⟩
                rw [hn2] at hor
                have hu0 : ¬ (u : Int) < 0 := by omega
                have hn2k := Keep.mk hn2
                have hnx := Keep.mk hnext
                have hne : some gc ≠ (Value.slice Ac k cc).ownBlock := fun e => by
                  have := (hI.out.1.lt gc e.symm).2
                  omega
                have hnek := Keep.mk hne
                have hq0 : ¬ ((0 : Nat) : Int) < 0 := by omega
                have hqM' : ((0 : Nat) : Int) < (M : Int) := by omega
                clear hn2 hnext hstep hau hP hPc hne
                go_wp2_with (first
                  | (at_builtin; refine wpList_append_own_at _ rfl _ _ 22 rfl w3.heap.size 63 i0 (.agg #[.int .i64 0, .int .i64 0]) 2 16 ty22 hi0 hz0 hz1 hz2 rfl (by decide) _ k (enc2 c) rfl (hRi.out.alloc _) ⟨wr.heap.size, 0, none⟩ 1 1 [.int .i64 a, .int .i64 u] rfl rfl (cell_two_new _ _ _ _) (two_one _ _) (by unfold maxLen; omega) (by omega) (by have := hbz.out.size; simp; omega) ?_; intro v' w1 hown hgrow _ _
                     obtain ⟨g', cap', rfl⟩ := ownsRow_succ hown
                     have h10k := Keep.mk (And.intro hown hgrow)
                     clear hown hgrow
                     have cu1 : w1.cell? ⟨gc, 0 * 2 + 1, none⟩ = some (.int .i64 u) := h10k.out.2.cell (cell_below e1 ((Below.refl _ wr).alloc (Nat.le_refl _) _)) hnek.out))
                have hbw1 : Below w3.heap.size w3 w1 := hbz.out.trans (Below.grown ((Below.refl _ wr).alloc (by have := hbz.out.size; omega) _) h10k.out.2 (by have := hbz.out.size; simp; omega) (fun j hj => by
                  have hj' : (Value.slice Ac k cc).ownBlock = some j := hj
                  exact (hRi.out.lt j hj').1))
                exact ⟨⟨k + 1, by omega, by go_num, c ++ [((a : Int), (u : Int))], adds t u, n2, rfl, hn2k, hnx, ⟨by rw [enc2_push]; exact h10k.out.1, hbw1⟩, _, _, rfl⟩, by simp [intOf]; omega⟩
      · obtain rfl : k = N := by omega
        have hlt' : ¬ (k : Int) < (k : Int) := by omega
        have hEq := hO.out.full hGk.out
        have hHd := Keep.mk (hk3.out.keep hI.out.2)
        have hcr := Keep.mk hI.out.1
        have hlen12 : k ≤ 12 := by omega
        clear hI
        have hzt : zsOf (clo (fround (adjOf E)) S) = zsOf t := by
          refine zsOf_cg fun j hj => ?_
          rw [hEq j hj]
          exact (clo_cg (infl_force (adjOf E)) hcs.out j hj).symm
        have q19 : Keep (∀ (W : World) (ve v : Value), PairsOf W ve E → IntsO W v (zsOf S) → Calls Try.prog 19 #[.int .i64 k, ve, v] W fun e w' => ∃ lv, e = .returned (.tuple #[lv, .int .i64 (kfOf (fround (adjOf E)) S), .int .i64 0]) ∧ IntsO w' lv (zsOf t) ∧ Below W.heap.size W w') := ⟨fun W ve v he hv => by
          have := oClose (w := W) hGk.out he hSk.out hv
          rw [hzt] at this; exact this⟩
        have q28 := fun W => oList (N := k) hn.out W
        clear hzt hEq
        go_wp2_with (first
          | (go_at_call 19; have hp := hHd.out.ps; have hv := hHd.out.at (z := zsOf S) (.head _)
             (with_reducible refine (q19.out _ _ _ hp hv).mono ?_); rintro e wg ⟨vc, rfl, hi, hb⟩
             have hk1 := Keep.mk (hHd.out.put hb hi)
             have hr1 := Keep.mk (row_after hcr.out hb)
             clear hi hb hp hv q19 hHd hcr)
          | (go_at_call 28; (with_reducible refine (q28 _).mono ?_); rintro e wh ⟨vw, rfl, hi, hb⟩
             have hk2 := Keep.mk (hk1.out.put hb hi)
             have hr2 := Keep.mk (row_after hr1.out hb)
             clear hi hb q28 hk1 hr1)
          | (go_at_call 27; have hva := hk2.out.at (v := vc) (z := zsOf t) (.tail _ (.head _)); have hvb := hk2.out.at (v := vw) (z := zsOf t) (.head _)
             (with_reducible refine (same_any hva hvb (Nat.le_trans (zs_len _) (by omega))).mono ?_); rintro e wi2 ⟨rfl, nq, hq⟩
             have hk3 : Keep (Hd w wi2 vl E [(vs, zsOf S)]) := ⟨by rw [hq]; exact hk2.out.tl.tl.dn nq⟩
             have hr3 : Keep (wi2.ownsRow w3.heap.size 63 2 (.slice Ac k cc) k (enc2 c)) := ⟨by rw [hq]; exact row_after hr2.out (below_dn wh nq)⟩
             clear hva hvb hk2 hr2 hq))
        have hcap : k ≤ cc := row_cap hr3.out
        go_loopw [21] (fun i wr => ∃ k' : Nat, k' ≤ k + 1 ∧ i = .int .i64 k' ∧ Keep (Hd w wr vl E [(vs, zsOf S)] ∧ wr.ownsRow w3.heap.size 63 2 (.slice Ac k cc) k (enc2 c))) (fun i _ => k + 2 - (intOf i).toNat)
        case atStart => exact ⟨0, by omega, rfl, ⟨hk3.out, hr3.out⟩⟩
        case round =>
          obtain ⟨k', hk', rfl, hL⟩ := hrel
          by_cases hle : k' ≤ k
          · have hw5 : IntKind.i64.wrap ((k' : Int) + 1) = (k' : Int) + 1 := IntWalk.i64_in _ (by omega)
            have hle' : (k' : Int) ≤ (k : Int) := by omega
            have hk'0 : ¬ (k' : Int) < 0 := by omega
            have hk'c : (k' : Int) ≤ (cc : Int) := by omega
            have hpc : Keep (PairsOf wr (.slice Ac k' cc) (c.take k')) := ⟨pairs_take (own_pairs (by rw [hO.out.len]; exact hL.out.2)) hO.out.len hle⟩
            have q49 : Keep (∀ (W : World) (ve v vc : Value), PairsOf W ve E → IntsO W v (zsOf S) → PairsOf W vc (c.take k') → Calls Try.prog 49 #[.int .i64 k, ve, v, vc] W fun e w' => e = .returned (.int .i64 0) ∧ Below W.heap.size W w') := ⟨fun W ve v vc he hv hc => by
              have := check_any (w := W) hGk.out he hSk.out hv hc (by rw [List.length_take]; omega)
              rw [if_pos (chrT_pre (by rw [hO.out.chr]; rfl) k')] at this
              exact this⟩
            go_wp2_with (first
              | (go_at_call 49; have hp := hL.out.1.ps; have hv := hL.out.1.at (z := zsOf S) (.head _); have hc := hpc.out
                 (with_reducible refine (q49.out _ _ _ _ hp hv hc).mono ?_); rintro e wj ⟨rfl, hb⟩
                 have hL2 := Keep.mk (And.intro (hL.out.1.keep hb) (row_after hL.out.2 hb))
                 clear hb hp hv hc hL hpc q49))
            exact ⟨⟨k' + 1, by omega, by go_num, hL2⟩, by simp [intOf]; omega⟩
          · obtain rfl : k' = k + 1 := by omega
            have hgt : ¬ ((k + 1 : Nat) : Int) ≤ (k : Int) := by omega
            have hgt2 : ¬ (k : Int) + 1 ≤ (k : Int) := by omega
            have q17 : Keep (∀ (W : World) (v : Value), PairsC W v c → _) := ⟨fun W v h => pairs_own (w := W) h (by rw [hO.out.len]; omega)⟩
            have q53 := fun w => mod_any x0 (m := k) (by omega) (by omega) w
            obtain ⟨mm, hmm⟩ : ∃ mm, modN x0 k = mm := ⟨_, rfl⟩
            rw [hmm] at q53
            have q49 : Keep (∀ (W : World) (ve v vc : Value), PairsOf W ve E → IntsO W v (zsOf S) → PairsOf W vc (c ++ [((mm : Int), (mm : Int))]) → Calls Try.prog 49 #[.int .i64 k, ve, v, vc] W fun e w' => e = .returned (.int .i64 10) ∧ Below W.heap.size W w') := ⟨fun W ve v vc he hv hc => by
              have := check_any (w := W) hGk.out he hSk.out hv hc (by rw [List.length_append, hO.out.len]; simp; omega)
              rw [if_neg (by rw [bad_none hO.out.chr]; simp)] at this
              exact this⟩
            have hlk : Keep (c.length = k) := ⟨hO.out.len⟩
            clear hmm
            go_wp2_with (first
              | (go_at_call 17; have hp := row_pairsC (w := wr) (by rw [hlk.out]; exact hL.out.2)
                 (with_reducible refine (q17.out _ _ hp).mono ?_); rintro e wj ⟨vb, rfl, hr, hb⟩
                 rw [hlk.out] at hr
                 obtain ⟨Ab, cb, rfl⟩ : ∃ A c, vb = .slice A k c := row_slice2 hr
                 have hM := Keep.mk (And.intro hL.out.1 (And.intro hb hr))
                 clear hp hr hb hL q17)
              | (go_at_call 53; (with_reducible refine (q53 _).mono ?_); rintro e wm ⟨rfl, hem⟩; rw [hem]; clear hem wm)
              | (at_builtin; refine wpList_append_own_at _ rfl _ _ 22 rfl wr.heap.size 63 i0 (.agg #[.int .i64 0, .int .i64 0]) 2 16 ty22 hi0 hz0 hz1 hz2 rfl (by decide) _ k (enc2 c) rfl (hM.out.2.2.alloc _) ⟨wj.heap.size, 0, none⟩ 1 1 [.int .i64 mm, .int .i64 mm] rfl rfl (cell_two_new _ _ _ _) (two_one _ _) (by unfold maxLen; omega) (by omega) (by have := hM.out.2.1.size; simp; omega) ?_; intro v' w1 hown hgrow _ _
                 obtain ⟨g', cap', rfl⟩ := ownsRow_succ hown
                 have h10k := Keep.mk (And.intro hown hgrow)
                 clear hown hgrow
                 have hbw1 : Below wr.heap.size wr w1 := hM.out.2.1.trans (Below.grown ((Below.refl _ wj).alloc (by have := hM.out.2.1.size; omega) _) h10k.out.2 (by have := hM.out.2.1.size; simp; omega) (fun j hj => by
                   have hj' : (Value.slice Ab k cb).ownBlock = some j := hj
                   exact (hM.out.2.2.lt j hj').1))
                 have hM2 : Keep (Hd w w1 vl E [(vs, zsOf S)] ∧ PairsOf w1 (.slice (some ⟨g', 0, none⟩) (k + 1) cap') (c ++ [((mm : Int), (mm : Int))])) := ⟨hM.out.1.keep hbw1, own_pairs (by rw [List.length_append, hlk.out, enc2_push]; exact h10k.out.1)⟩
                 clear h10k hM hbw1)
              | (go_at_call 49; have hp := hM2.out.1.ps; have hv := hM2.out.1.at (z := zsOf S) (.head _); have hc := hM2.out.2
                 (with_reducible refine (q49.out _ _ _ _ hp hv hc).mono ?_); rintro e wk ⟨rfl, hb⟩
                 have hZ := Keep.mk (hM2.out.1.2.2.trans (hb.mono hM2.out.1.2.2.size))
                 clear hb hp hv hc hM2 q49)
              | (go_at_call 23; (with_reducible refine (awake_w _).mono ?_); rintro e wl ⟨rfl, hb⟩
                 have hZ2 := Keep.mk (hZ.out.trans (hb.mono hZ.out.size))
                 clear hb hZ))
            refine bodyPost_ret (v := .bool true) (by simp [results, Try.results12, go_sem]) rfl ?_
            exact ⟨rfl, hZ2.out⟩
end Go.Proofs.Yteekigpdiklppaa
