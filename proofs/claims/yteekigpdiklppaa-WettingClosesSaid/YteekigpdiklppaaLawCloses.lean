import Derived.Test.YteekigpdiklppaaWG
set_option linter.unusedSimpArgs false
set_option linter.unusedVariables false
namespace Go.Proofs.Yteekigpdiklppaa
open Go Go.Proofs Go.RowKit Go.Seq
attribute [local go_sem] Oper.semAt_some
theorem oFortNil {N : Nat} {E : Pts} {s : Nat → Bool} (h : GOk N E) (hs : InN N s) (hy : eqb (clo (fround (adjOf E)) s) (allS N) = true) : ∀ (W : World) (ve v : Value), PairsOf W ve E → IntsO W v (zsOf s) → Calls Try.prog 21 #[.int .i64 N, ve, v] W fun e w' => e = .returned (.tuple #[.slice none 0 0, .int .i64 6]) ∧ Below W.heap.size W w' := fun W ve v he hv => by
  have hr := infl_force (adjOf E)
  have hc : ∀ j, j < 12 → setOf (zsOf s) j = s j := fun j hj => setOf_zsOf s hj
  refine (fort_yes he h.gr h.len hv hs.ok (zs_len s) (stops_kf hr _)).mono ?_
  rintro e w' ⟨h1, h3⟩
  have hst := stg_cg hr hc (kfOf (fround (adjOf E)) s)
  rw [kf_cg hr hc] at h1
  rw [eqb_cg hst (fun _ _ => rfl)] at h1
  rcases h1 with ⟨e1, rfl⟩ | ⟨e1, lv, rfl, e2⟩
  · exact ⟨rfl, h3⟩
  · rw [show eqb (stg (fround (adjOf E)) s (kfOf (fround (adjOf E)) s)) (allS N) = true from hy] at e1; cases e1
theorem oFortSome {N : Nat} {E : Pts} {s : Nat → Bool} (h : GOk N E) (hs : InN N s) (hy : eqb (clo (fround (adjOf E)) s) (allS N) = false) {F : Nat → Bool} (hF : (fun j => allS N j && !clo (fround (adjOf E)) s j) = F) : ∀ (W : World) (ve v : Value), PairsOf W ve E → IntsO W v (zsOf s) → Calls Try.prog 21 #[.int .i64 N, ve, v] W fun e w' => ∃ lv, e = .returned (.tuple #[lv, .int .i64 0]) ∧ IntsO w' lv (zsOf F) ∧ Below W.heap.size W w' := fun W ve v he hv => by
  have := oFortI h he hs hv
  rw [hy, hF] at this
  exact this
set_option maxHeartbeats 8000000 in
set_option maxRecDepth 100000 in
theorem closes_any (n : Int) {v1 v2 : Value} {ps : Pts} {zs : List Int} {w : World} (hv : ArgP w v1 ps) (hz : ArgZ w v2 zs) :
    Calls Try.prog 3 #[.int .i64 n, v1, v2] w fun e w' => e = .returned (.bool true) ∧ Below w.heap.size w w' := by
  have q17 := pairs_arg hv
  have hzk := Keep.mk hz
  have hpl : (ps.take 80).length ≤ 200 := by rw [List.length_take]; omega
  have hzl : (zs.take 13).length ≤ 100 := by rw [List.length_take]; omega
  clear hv hz
  by_cases hok : GrOk n (ps.take 80) ∧ ListOk n (zs.take 13)
  · obtain ⟨N, rfl⟩ : ∃ N : Nat, n = N := ⟨n.toNat, by have := hok.1.n1; omega⟩
    have hG := gok_of hok.1
    have hN := hG.n12
    obtain ⟨hzs, hS⟩ := canon hok.2 hN
    obtain ⟨E, hE⟩ : ∃ E, ps.take 80 = E := ⟨_, rfl⟩
    obtain ⟨S, hSe⟩ : ∃ S, setOf (zs.take 13) = S := ⟨_, rfl⟩
    rw [hE] at hG q17
    rw [hSe] at hzs hS
    clear hE hSe hok hpl hzl
    have hCin := inN_force hG hS
    have q19 := Keep.mk (fun (W : World) (ve v : Value) (he : PairsOf W ve E) (hv : IntsO W v (zsOf S)) => oClose hG he hS hv)
    have q20 := Keep.mk (oRounds hG hS)
    have q22 := Keep.mk (valid_yesG hG hS)
    have q24 := Keep.mk (fun (W : World) (ve : Value) (he : PairsOf W ve E) => near_any hG he)
    have q25 := Keep.mk (fun (W : World) (G : Nat) (hg : NumsAt W G N 3 (nearOf E)) => refClose_any hG hS (n := num S) rfl hg)
    have q26 := Keep.mk (set_n (s := S) rfl)
    have hmax := Keep.mk (rounds_max hG hS)
    have hyC := fun hy => oFortNil hG hS hy
    have hyF := fun hy => oFortSome hG hS hy (F := fun j => allS N j && !clo (fround (adjOf E)) S j) rfl
    obtain ⟨rf, hrf⟩ : ∃ rf, roundsOf (adjOf E) N S = rf := ⟨_, rfl⟩
    obtain ⟨K, hK⟩ : ∃ K, kfOf (fround (adjOf E)) S = K := ⟨_, rfl⟩
    obtain ⟨C, hC⟩ : ∃ C, clo (fround (adjOf E)) S = C := ⟨_, rfl⟩
    rw [hrf] at q20 q25 hmax
    rw [hK] at q19 hmax
    rw [hC] at q19 q25 hCin hyC hyF
    have q28 := fun W => oList (N := N) (s := C) rfl W
    have q29 := fun p cap w => refAll_any hN p cap w
    obtain ⟨nC, hnC⟩ : ∃ nC, num C = nC := ⟨_, rfl⟩
    rw [hnC] at q25 q28
    obtain ⟨nS, hnS⟩ : ∃ nS, num S = nS := ⟨_, rfl⟩
    rw [hnS] at q25 q26
    cases hy : eqb C (allS N) with
    | true =>
      have q21 := Keep.mk (hyC hy)
      have hwA : num (allS N) = nC := by rw [← hnC]; exact num_ext fun j hj => (eqb_iff.1 hy j hj).symm
      rw [hwA] at q29
      clear hyC hyF hwA hy hrf hK hC hnC hnS hCin hS hG
      go_enter Try.func3, Try.ntmps3
      go_wp2_with (first
        | (go_at_call 17; (with_reducible refine q17.mono ?_); rintro e w1 ⟨vl, rfl, hr1, hb1⟩
           have hk1 : Keep (Hd w w1 vl E []) := ⟨⟨own_pairs hr1, fun x hx => by simp at hx, hb1⟩⟩
           have q18 := list_arg (argZ_below hzk.out hb1)
           rw [hzs] at q18
           clear hr1 hb1 q17)
        | (go_at_call 18; (with_reducible refine q18.mono ?_); rintro e w2 ⟨vs, rfl, hr2, hb2⟩
           have hk2 := Keep.mk (hk1.out.put hb2 (ints_own hr2))
           clear hr2 hb2 q18 hk1)
        | (go_at_call 19; have hp3 := hk2.out.ps; have hv3_1 := hk2.out.at (v := vs) (z := (zsOf S)) (.head _);
           (with_reducible refine (q19.out _ _ _  hp3 hv3_1).mono ?_); rintro e w3 ⟨vc, rfl, hi3, hb3⟩
           have hk3 := Keep.mk (hk2.out.put hb3 hi3)
           clear hi3 hb3 hp3 hv3_1 hk2)
        | (go_at_call 20; have hp4 := hk3.out.ps; have hv4_1 := hk3.out.at (v := vs) (z := (zsOf S)) (.tail _ (.head _));
           (with_reducible refine (q20.out _ _ _  hp4 hv4_1).mono ?_); rintro e w4 ⟨vx, rfl, hi4, hb4⟩
           have hk4 := Keep.mk (hk3.out.put hb4 hi4)
           clear hi4 hb4 hp4 hv4_1 hk3)
        | (go_at_call 21; have hp5 := hk4.out.ps; have hv5_1 := hk4.out.at (v := vs) (z := (zsOf S)) (.tail _ (.tail _ (.head _)));
           (with_reducible refine (q21.out _ _ _  hp5 hv5_1).mono ?_); rintro e w5 ⟨rfl, hb5⟩
           have hk5 := Keep.mk (hk4.out.keep hb5)
           clear hb5 hp5 hv5_1 hk4)
        | (go_at_call 22; have hp6 := hk5.out.ps; have hv6_1 := hk5.out.at (v := vs) (z := (zsOf S)) (.tail _ (.tail _ (.head _)));
           (with_reducible refine (q22.out _ _ _  hp6 hv6_1).mono ?_); rintro e w6 ⟨rfl, hb6⟩
           have hk6 := Keep.mk (hk5.out.keep hb6)
           clear hb6 hp6 hv6_1 hk5)
        | (go_at_call 24; have hp := hk6.out.ps; (with_reducible refine (q24.out _ _ hp).mono ?_); rintro e w7 ⟨G, rfl, hG, hGl, hb⟩
           have hk7 := Keep.mk (hk6.out.keep hb)
           have hGk := Keep.mk hG
           clear hG hGl hb hp hk6 q24)
        | (go_at_call 26; have hvx := hk7.out.at (v := vs) (z := zsOf S) (.tail _ (.tail _ (.head _)))
           (with_reducible refine (q26.out _ _ hvx).mono ?_); rintro e wm ⟨rfl, hem⟩; rw [hem]; clear hem wm hvx)
        | (go_at_call 25; have hG := hGk.out; (with_reducible refine (q25.out _ _ hG).mono ?_); rintro e w8 ⟨R, rfl, hR, hRl, hb⟩
           have hi := nums_ints hR
           have hk8 := Keep.mk (hk7.out.put hb hi)
           have hRk := Keep.mk hR
           clear hG hR hRl hb hi hk7 q25))
      go_loopw [19, 20] (fun c i wr => (∃ k : Nat, k ≤ N ∧ i = .int .i64 k ∧ c = .int .i64 (mx rf k)) ∧ wr = w8) (fun _ i _ => N - (intOf i).toNat)
      case atStart => exact ⟨⟨0, by omega, rfl, rfl⟩, rfl⟩
      case round =>
        obtain ⟨⟨k, hk, rfl, rfl⟩, rfl⟩ := hrel
        by_cases hlt : k < N
        · have hw1 : IntKind.i64.wrap ((k : Int) + 1) = (k : Int) + 1 := IntWalk.i64_in _ (by omega)
          have hlt' : (k : Int) < (N : Int) := by omega
          have hk0 : ¬ (k : Int) < 0 := by omega
          obtain ⟨cR, fR⟩ := hRk.out.cell hlt
          obtain ⟨M2, hM2⟩ : ∃ M2, mx rf (k + 1) = M2 := ⟨_, rfl⟩
          have hmx2 : (if mx rf k < rf k then rf k else mx rf k) = M2 := by rw [← hM2]; rfl
          obtain ⟨M1, hM1⟩ : ∃ M1, mx rf k = M1 := ⟨_, rfl⟩
          obtain ⟨r1, hr1⟩ : ∃ r1, rf k = r1 := ⟨_, rfl⟩
          rw [hM1, hr1] at hmx2
          rw [hr1] at cR
          rw [hM1]
          have hM2k := Keep.mk hM2
          clear hM2 hM1 hr1
          go_wp2
          exact ⟨⟨⟨k + 1, by omega, by go_num, by rw [hM2k.out]⟩, by first | trivial | rfl⟩, by simp [intOf]; omega⟩
        · obtain rfl : k = N := by omega
          have hlt' : ¬ (k : Int) < (k : Int) := by omega
          rw [hmax.out]
          go_wp2_with (first
            | (go_at_call 28; (with_reducible refine (q28 _).mono ?_); rintro e w9 ⟨vw, rfl, hi9, hb9⟩
               have hk9 := Keep.mk (hk8.out.put hb9 hi9)
               clear hi9 hb9 hk8 q28)
            | (go_at_call 27; have hva := hk9.out.at (v := vc) (z := zsOf C) (.tail _ (.tail _ (.tail _ (.head _)))); have hvb := hk9.out.at (v := vw) (z := zsOf C) (.head _)
               (with_reducible refine (same_any hva hvb (Nat.le_trans (zs_len _) (by omega))).mono ?_); rintro e w10 ⟨rfl, nq10, hq10⟩
               have hk10 := Keep.mk (hk9.out.dn nq10)
               rw [← hq10] at hk10
               clear hva hvb hk9 hq10)
            | (go_at_call 27; have hva := hk10.out.at (v := vx) (z := rowL rf k) (.tail _ (.tail _ (.head _))); have hvb := hk10.out.at (v := (.slice (some ⟨R, 0, none⟩) k k)) (z := rowL rf k) (.tail _ (.head _))
               (with_reducible refine (same_any hva hvb (by simp [rowL]; omega)).mono ?_); rintro e w11 ⟨rfl, nq11, hq11⟩
               have hk11 := Keep.mk (hk10.out.dn nq11)
               rw [← hq11] at hk11
               clear hva hvb hk10 hq11)
            | (go_at_call 29; (with_reducible refine (q29 _ _ _).mono ?_); rintro e wm ⟨rfl, hem⟩; rw [hem]; clear hem wm)
            | (go_at_call 23; (with_reducible refine (awake_w _).mono ?_); rintro e w12 ⟨rfl, hb12⟩
               have hk12 := Keep.mk (hk11.out.keep hb12)
               clear hb12 hk11))
          refine bodyPost_ret (v := .bool true) (by simp [results, Try.results3, go_sem]) rfl ?_
          exact ⟨rfl, hk12.out.2.2⟩
    | false =>
      have q21 := Keep.mk (hyF hy)
      obtain ⟨F, hF⟩ : ∃ F, (fun j => allS N j && !C j) = F := ⟨_, rfl⟩
      rw [hF] at q21
      obtain ⟨nA, hnA⟩ : ∃ nA, num (allS N) = nA := ⟨_, rfl⟩
      rw [hnA] at q29
      have hne : ((nC : Int) == (nA : Int)) = false := by
        rw [beq_eq_false_iff_ne]
        intro h
        have : num C = num (allS N) := by omega
        rw [eqb_iff.2 (num_inj this)] at hy; cases hy
      have hsum := num_rest hN hCin
      rw [hF, ← num_all hN, hnC, hnA] at hsum
      have q28f := fun W => oList (N := N) (s := F) rfl W
      obtain ⟨nF, hnF⟩ : ∃ nF, num F = nF := ⟨_, rfl⟩
      rw [hnF] at q28f hsum
      have hsub : IntKind.i64.wrap ((nA : Int) - (nC : Int)) = (nF : Int) := by
        have := num_mod (allS N) C (by rw [hnA, hnC]; omega)
        rw [hnA, hnC] at this
        rw [this]; omega
      clear hyC hyF hy hrf hK hC hnC hnS hCin hS hG hF hnA hsum hnF
      go_enter Try.func3, Try.ntmps3
      go_wp2_with (first
        | (go_at_call 17; (with_reducible refine q17.mono ?_); rintro e w1 ⟨vl, rfl, hr1, hb1⟩
           have hk1 : Keep (Hd w w1 vl E []) := ⟨⟨own_pairs hr1, fun x hx => by simp at hx, hb1⟩⟩
           have q18 := list_arg (argZ_below hzk.out hb1)
           rw [hzs] at q18
           clear hr1 hb1 q17)
        | (go_at_call 18; (with_reducible refine q18.mono ?_); rintro e w2 ⟨vs, rfl, hr2, hb2⟩
           have hk2 := Keep.mk (hk1.out.put hb2 (ints_own hr2))
           clear hr2 hb2 q18 hk1)
        | (go_at_call 19; have hp3 := hk2.out.ps; have hv3_1 := hk2.out.at (v := vs) (z := (zsOf S)) (.head _);
           (with_reducible refine (q19.out _ _ _  hp3 hv3_1).mono ?_); rintro e w3 ⟨vc, rfl, hi3, hb3⟩
           have hk3 := Keep.mk (hk2.out.put hb3 hi3)
           clear hi3 hb3 hp3 hv3_1 hk2)
        | (go_at_call 20; have hp4 := hk3.out.ps; have hv4_1 := hk3.out.at (v := vs) (z := (zsOf S)) (.tail _ (.head _));
           (with_reducible refine (q20.out _ _ _  hp4 hv4_1).mono ?_); rintro e w4 ⟨vx, rfl, hi4, hb4⟩
           have hk4 := Keep.mk (hk3.out.put hb4 hi4)
           clear hi4 hb4 hp4 hv4_1 hk3)
        | (go_at_call 21; have hp5 := hk4.out.ps; have hv5_1 := hk4.out.at (v := vs) (z := (zsOf S)) (.tail _ (.tail _ (.head _)));
           (with_reducible refine (q21.out _ _ _  hp5 hv5_1).mono ?_); rintro e w5 ⟨vd, rfl, hi5, hb5⟩
           have hk5 := Keep.mk (hk4.out.put hb5 hi5)
           clear hi5 hb5 hp5 hv5_1 hk4)
        | (go_at_call 22; have hp6 := hk5.out.ps; have hv6_1 := hk5.out.at (v := vs) (z := (zsOf S)) (.tail _ (.tail _ (.tail _ (.head _))));
           (with_reducible refine (q22.out _ _ _  hp6 hv6_1).mono ?_); rintro e w6 ⟨rfl, hb6⟩
           have hk6 := Keep.mk (hk5.out.keep hb6)
           clear hb6 hp6 hv6_1 hk5)
        | (go_at_call 24; have hp := hk6.out.ps; (with_reducible refine (q24.out _ _ hp).mono ?_); rintro e w7 ⟨G, rfl, hG, hGl, hb⟩
           have hk7 := Keep.mk (hk6.out.keep hb)
           have hGk := Keep.mk hG
           clear hG hGl hb hp hk6 q24)
        | (go_at_call 26; have hvx := hk7.out.at (v := vs) (z := zsOf S) (.tail _ (.tail _ (.tail _ (.head _))))
           (with_reducible refine (q26.out _ _ hvx).mono ?_); rintro e wm ⟨rfl, hem⟩; rw [hem]; clear hem wm hvx)
        | (go_at_call 25; have hG := hGk.out; (with_reducible refine (q25.out _ _ hG).mono ?_); rintro e w8 ⟨R, rfl, hR, hRl, hb⟩
           have hi := nums_ints hR
           have hk8 := Keep.mk (hk7.out.put hb hi)
           have hRk := Keep.mk hR
           clear hG hR hRl hb hi hk7 q25))
      go_loopw [19, 20] (fun c i wr => (∃ k : Nat, k ≤ N ∧ i = .int .i64 k ∧ c = .int .i64 (mx rf k)) ∧ wr = w8) (fun _ i _ => N - (intOf i).toNat)
      case atStart => exact ⟨⟨0, by omega, rfl, rfl⟩, rfl⟩
      case round =>
        obtain ⟨⟨k, hk, rfl, rfl⟩, rfl⟩ := hrel
        by_cases hlt : k < N
        · have hw1 : IntKind.i64.wrap ((k : Int) + 1) = (k : Int) + 1 := IntWalk.i64_in _ (by omega)
          have hlt' : (k : Int) < (N : Int) := by omega
          have hk0 : ¬ (k : Int) < 0 := by omega
          obtain ⟨cR, fR⟩ := hRk.out.cell hlt
          obtain ⟨M2, hM2⟩ : ∃ M2, mx rf (k + 1) = M2 := ⟨_, rfl⟩
          have hmx2 : (if mx rf k < rf k then rf k else mx rf k) = M2 := by rw [← hM2]; rfl
          obtain ⟨M1, hM1⟩ : ∃ M1, mx rf k = M1 := ⟨_, rfl⟩
          obtain ⟨r1, hr1⟩ : ∃ r1, rf k = r1 := ⟨_, rfl⟩
          rw [hM1, hr1] at hmx2
          rw [hr1] at cR
          rw [hM1]
          have hM2k := Keep.mk hM2
          clear hM2 hM1 hr1
          go_wp2
          exact ⟨⟨⟨k + 1, by omega, by go_num, by rw [hM2k.out]⟩, by first | trivial | rfl⟩, by simp [intOf]; omega⟩
        · obtain rfl : k = N := by omega
          have hlt' : ¬ (k : Int) < (k : Int) := by omega
          rw [hmax.out]
          go_wp2_with (first
            | (go_at_call 28; (with_reducible refine (q28 _).mono ?_); rintro e w9 ⟨vw, rfl, hi9, hb9⟩
               have hk9 := Keep.mk (hk8.out.put hb9 hi9)
               clear hi9 hb9 hk8 q28)
            | (go_at_call 27; have hva := hk9.out.at (v := vc) (z := zsOf C) (.tail _ (.tail _ (.tail _ (.tail _ (.head _))))); have hvb := hk9.out.at (v := vw) (z := zsOf C) (.head _)
               (with_reducible refine (same_any hva hvb (Nat.le_trans (zs_len _) (by omega))).mono ?_); rintro e w10 ⟨rfl, nq10, hq10⟩
               have hk10 := Keep.mk (hk9.out.dn nq10)
               rw [← hq10] at hk10
               clear hva hvb hk9 hq10)
            | (go_at_call 27; have hva := hk10.out.at (v := vx) (z := rowL rf k) (.tail _ (.tail _ (.tail _ (.head _)))); have hvb := hk10.out.at (v := (.slice (some ⟨R, 0, none⟩) k k)) (z := rowL rf k) (.tail _ (.head _))
               (with_reducible refine (same_any hva hvb (by simp [rowL]; omega)).mono ?_); rintro e w11 ⟨rfl, nq11, hq11⟩
               have hk11 := Keep.mk (hk10.out.dn nq11)
               rw [← hq11] at hk11
               clear hva hvb hk10 hq11)
            | (go_at_call 29; (with_reducible refine (q29 _ _ _).mono ?_); rintro e wm ⟨rfl, hem⟩; rw [hem]; clear hem wm)
            | (go_at_call 28; (with_reducible refine (q28f _).mono ?_); rintro e w12 ⟨vf, rfl, hi12, hb12⟩
               have hk12 := Keep.mk (hk11.out.put hb12 hi12)
               clear hi12 hb12 hk11 q28f)
            | (go_at_call 27; have hva := hk12.out.at (v := vd) (z := zsOf F) (.tail _ (.tail _ (.tail _ (.head _)))); have hvb := hk12.out.at (v := vf) (z := zsOf F) (.head _)
               (with_reducible refine (same_any hva hvb (Nat.le_trans (zs_len _) (by omega))).mono ?_); rintro e w13 ⟨rfl, nq13, hq13⟩
               have hk13 := Keep.mk (hk12.out.dn nq13)
               rw [← hq13] at hk13
               clear hva hvb hk12 hq13)
            | (go_at_call 23; (with_reducible refine (awake_w _).mono ?_); rintro e w14 ⟨rfl, hb14⟩
               have hk14 := Keep.mk (hk13.out.keep hb14)
               clear hb14 hk13))
          refine bodyPost_ret (v := .bool true) (by simp [results, Try.results3, go_sem]) rfl ?_
          exact ⟨rfl, hk14.out.2.2⟩
  · have n19 : Keep (∀ (W : World) (ve v : Value), PairsOf W ve (ps.take 80) → IntsO W v (zs.take 13) → _) := ⟨fun W ve v he hv => Close_no (n := n) he hpl hv hzl hok⟩
    have n20 : Keep (∀ (W : World) (ve v : Value), PairsOf W ve (ps.take 80) → IntsO W v (zs.take 13) → _) := ⟨fun W ve v he hv => Rounds_no (n := n) he hpl hv hzl hok⟩
    have n21 : Keep (∀ (W : World) (ve v : Value), PairsOf W ve (ps.take 80) → IntsO W v (zs.take 13) → _) := ⟨fun W ve v he hv => Fort_no (n := n) he hpl hv hzl hok⟩
    have n22 : Keep (∀ (W : World) (ve v : Value), PairsOf W ve (ps.take 80) → IntsO W v (zs.take 13) → Calls Try.prog 22 #[.int .i64 n, ve, v] W fun e w' => e = .returned (.bool false) ∧ Below W.heap.size W w') := ⟨fun W ve v he hv => (valid_no (n := n) he hpl hv hzl hok).mono fun e w' ⟨h1, q, h2⟩ => ⟨h1, by rw [h2]; exact below_dn W q⟩⟩
    clear hok hpl hzl
    go_enter Try.func3, Try.ntmps3
    go_wp2_with (first
      | (go_at_call 17; (with_reducible refine q17.mono ?_); rintro e w1 ⟨vl, rfl, hr1, hb1⟩
         have hk1 : Keep (Hd w w1 vl (ps.take 80) []) := ⟨⟨own_pairs hr1, fun x hx => by simp at hx, hb1⟩⟩
         have q18 := list_arg (argZ_below hzk.out hb1)
         clear hr1 hb1 q17)
      | (go_at_call 18; (with_reducible refine q18.mono ?_); rintro e w2 ⟨vs, rfl, hr2, hb2⟩
         have hk2 := Keep.mk (hk1.out.put hb2 (ints_own hr2))
         clear hr2 hb2 q18 hk1)
      | (go_at_call 19; have hp3 := hk2.out.ps; have hv3_1 := hk2.out.at (v := vs) (z := (zs.take 13)) (.head _);
         (with_reducible refine (n19.out _ _ _  hp3 hv3_1).mono ?_); rintro e w3 ⟨rfl, hb3⟩
         have hk3 := Keep.mk (hk2.out.keep hb3)
         clear hb3 hp3 hv3_1 hk2)
      | (go_at_call 20; have hp4 := hk3.out.ps; have hv4_1 := hk3.out.at (v := vs) (z := (zs.take 13)) (.head _);
         (with_reducible refine (n20.out _ _ _  hp4 hv4_1).mono ?_); rintro e w4 ⟨rfl, hb4⟩
         have hk4 := Keep.mk (hk3.out.keep hb4)
         clear hb4 hp4 hv4_1 hk3)
      | (go_at_call 21; have hp5 := hk4.out.ps; have hv5_1 := hk4.out.at (v := vs) (z := (zs.take 13)) (.head _);
         (with_reducible refine (n21.out _ _ _  hp5 hv5_1).mono ?_); rintro e w5 ⟨rfl, hb5⟩
         have hk5 := Keep.mk (hk4.out.keep hb5)
         clear hb5 hp5 hv5_1 hk4)
      | (go_at_call 22; have hp6 := hk5.out.ps; have hv6_1 := hk5.out.at (v := vs) (z := (zs.take 13)) (.head _);
         (with_reducible refine (n22.out _ _ _  hp6 hv6_1).mono ?_); rintro e w6 ⟨rfl, hb6⟩
         have hk6 := Keep.mk (hk5.out.keep hb6)
         clear hb6 hp6 hv6_1 hk5)
      | (go_at_call 23; (with_reducible refine (awake_w _).mono ?_); rintro e w7 ⟨rfl, hb7⟩
         have hk7 := Keep.mk (hk6.out.keep hb7)
         clear hb7 hk6))
    refine bodyPost_ret (v := .bool true) (by simp [results, Try.results3, go_sem]) rfl ?_
    exact ⟨rfl, hk7.out.2.2⟩
end Go.Proofs.Yteekigpdiklppaa
