import Derived.Test.YteekigpdiklppaaWSto
set_option linter.unusedSimpArgs false
set_option linter.unusedVariables false
namespace Go.Proofs.Yteekigpdiklppaa
open Go Go.Proofs Go.RowKit Go.Seq
attribute [local go_sem] Oper.semAt_some
theorem bneq (x : Int × Int) : (!decide (x = x)) = false := by simp
set_option maxHeartbeats 8000000 in
set_option maxRecDepth 100000 in
theorem own_any (n0 x0 : Int) {v1 : Value} {ps : Pts} {w : World} (hv : PairsO w v1 ps) (hlen : ps.length ≤ maxLen) :
    Calls Try.prog 16 #[.int .i64 n0, v1, .int .i64 x0] w fun e w' => e = .returned (.bool true) ∧ Below w.heap.size w w' := by
  have hmx : Try.prog.follows .mixedOrders = true := by kernel_rfl
  have q50 := tame_any n0 hv (by unfold maxLen at hlen; omega)
  have hG := tame_gok n0 ps
  obtain ⟨N, hN⟩ : ∃ N, 1 + modN n0 12 = N := ⟨_, rfl⟩
  rw [hN] at q50 hG
  obtain ⟨E, hE⟩ : ∃ E, tameE N ps = E := ⟨_, rfl⟩
  rw [hE] at q50 hG
  clear hN hE hv hlen
  have hN12 := hG.n12
  have hM1 := forts_ne hG.n1 hN12 (adjOf E)
  have hM2 := forts_len hN12 (adjOf E)
  have q51 := fun W => some_any hN12 x0 W
  have hSin := someS_inN N x0
  obtain ⟨S, hS⟩ : ∃ S, someS N x0 = S := ⟨_, rfl⟩
  rw [hS] at q51 hSin
  have hEl : E.length ≤ 80 := edges_le hG.ok hN12
  have q17 : Keep (∀ (W : World) (v : Value), PairsC W v E → _) := ⟨fun W v h => pairs_own (w := W) h hEl⟩
  have hSl : (zsOf S).length ≤ 13 := by rw [zsOf_len]; have := vsTo_len S 12; omega
  have q18 : Keep (∀ (W : World) (v : Value), IntsC W v (zsOf S) → _) := ⟨fun W v h => list_own (w := W) h hSl⟩
  have hr := infl_force (adjOf E)
  have hcs : ∀ j, j < 12 → setOf (zsOf S) j = S j := fun j hj => setOf_zsOf S hj
  obtain ⟨C, hC⟩ : ∃ C, clo (fround (adjOf E)) S = C := ⟨_, rfl⟩
  obtain ⟨K, hK⟩ : ∃ K, kfOf (fround (adjOf E)) S = K := ⟨_, rfl⟩
  have q19 : Keep (∀ (W : World) (ve v : Value), PairsOf W ve E → IntsO W v (zsOf S) → Calls Try.prog 19 #[.int .i64 N, ve, v] W fun e w' => ∃ lv, e = .returned (.tuple #[lv, .int .i64 K, .int .i64 0]) ∧ (w'.ownsRow W.heap.size 3 1 lv (zsOf C).length ((zsOf C).map vz)) ∧ Below W.heap.size W w') := ⟨fun W ve v he hv => (close_yes he hG.gr hG.len hv hSin.ok (zs_len S) (stops_kf hr _)).mono fun e w' ⟨lv, h1, h2, h3⟩ => by
    rw [kf_cg hr hcs, hK] at h1 h2
    refine ⟨lv, h1, ?_, h3⟩
    unfold ListV at h2
    have e2 : vsTo (stg (fround (adjOf E)) (setOf (zsOf S)) K) 12 = vsTo C 12 := vsTo_cg 12 (fun j hj => by rw [← hC]; unfold clo; rw [hK]; exact stg_cg hr hcs K j hj)
    rw [e2] at h2
    rw [zsOf_len]
    unfold zsOf
    rw [List.map_map]
    exact h2⟩
  obtain ⟨L, hL⟩ : ∃ L, fortsOf N (adjOf E) = L := ⟨_, rfl⟩
  rw [hL] at hM1 hM2
  have q35 : Keep (∀ (W : World) (ve : Value), PairsOf W ve E → Calls Try.prog 35 #[.int .i64 N, ve] W fun e w' => ∃ g cap, e = .returned (.tuple #[.slice (some ⟨g, 0, none⟩) L.length cap, .int .i64 0]) ∧ LsB w' W.heap.size g L.length ∧ Below W.heap.size W w') := ⟨fun W ve he => (Forts_yes he hG.gr hG.len).mono fun e w' ⟨lv, svs, h1, h2, h3⟩ => by
    rw [hL] at h2
    obtain ⟨g, cap, rfl, h4⟩ := LsB.of h2 (Nat.le_refl _) hM1
    exact ⟨g, cap, h1, h4, h3⟩⟩
  obtain ⟨M, hM⟩ : ∃ M, L.length = M := ⟨_, rfl⟩
  rw [hM] at hM1 hM2 q35
  have q20 : Keep (∀ (W : World) (ve v : Value), PairsOf W ve E → IntsO W v (zsOf S) → Calls Try.prog 20 #[.int .i64 N, ve, v] W fun e w' => ∃ R, e = .returned (.tuple #[.slice (some ⟨R, 0, none⟩) N N, .int .i64 0]) ∧ NumsI w' R N (roundsOf (adjOf E) N S) ∧ W.heap.size ≤ R ∧ Below W.heap.size W w') := ⟨fun W ve v he hv => rounds_yes hG he hSin hv⟩
  obtain ⟨rf, hrf⟩ : ∃ rf, roundsOf (adjOf E) N S = rf := ⟨_, rfl⟩
  have q24 := Keep.mk (fun (W : World) (ve : Value) (he : PairsOf W ve E) => near_any hG he)
  have q25 := Keep.mk (fun (W : World) (G : Nat) (hg : NumsAt W G N 3 (nearOf E)) => refClose_any hG hSin (n := num S) rfl hg)
  have q26 := Keep.mk (set_n (s := S) rfl)
  rw [hrf] at q20 q25
  rw [hC] at q25
  have q28 := fun W => oList (N := N) (s := C) rfl W
  obtain ⟨nC, hnC⟩ : ∃ nC, num C = nC := ⟨_, rfl⟩
  rw [hnC] at q25 q28
  obtain ⟨nS, hnS⟩ : ∃ nS, num S = nS := ⟨_, rfl⟩
  rw [hnS] at q25 q26
  obtain ⟨na, hna⟩ : ∃ na, (zsOf C).length = na := ⟨_, rfl⟩
  have hna12 : na ≤ 12 := by rw [← hna, zsOf_len]; exact vsTo_len C 12
  obtain ⟨el, hel⟩ : ∃ el, E.length = el := ⟨_, rfl⟩
  have helk := Keep.mk hel
  rw [hel] at hEl
  clear hS hC hK hL hM hrf hnC hnS hcs hr hSin hSl hG hel
  go_enter Try.func16, Try.ntmps16
  go_wp2_with (first
    | (go_at_call 50; (with_reducible refine q50.mono ?_); rintro e w1 ⟨vl, rfl, hr1, hb1⟩
       have hk1 : Keep (Hd w w1 vl E []) := ⟨⟨own_pairs hr1, fun x hx => by simp at hx, hb1⟩⟩
       have hpc := row_pairsC hr1
       have q1 := q17.out w1 vl hpc
       clear hr1 hb1 q50 hpc q17)
    | (go_at_call 17; (with_reducible refine q1.mono ?_); rintro e w2 ⟨vp, rfl, hr2, hb2⟩
       have hk2 := Keep.mk (hk1.out.keep hb2)
       have hp2 := Keep.mk (own_pairs hr2)
       clear hr2 hb2 q1 hk1)
    | (go_at_call 51; (with_reducible refine (q51 _).mono ?_); rintro e w3 ⟨vs, rfl, hr3, hb3⟩
       have hr3 := row_zs hr3
       have hk3 := Keep.mk (hk2.out.put hb3 (ints_own hr3))
       have hp3 := Keep.mk (pairsOf_below hp2.out hb3)
       have q2 := q18.out w3 vs (row_intsC hr3)
       clear hr3 hb3 hk2 hp2 q51 q18)
    | (go_at_call 18; (with_reducible refine q2.mono ?_); rintro e w4 ⟨vt, rfl, hr4, hb4⟩
       have hk4 := Keep.mk (hk3.out.put hb4 (ints_own hr4))
       have hp4 := Keep.mk (pairsOf_below hp3.out hb4)
       clear hr4 hb4 hk3 hp3 q2)
    | (go_at_call 19; have hp := hk4.out.ps; have hv := hk4.out.at (v := vs) (z := zsOf S) (.tail _ (.head _))
       (with_reducible refine (q19.out _ _ _ hp hv).mono ?_); rintro e w5 ⟨va, rfl, hr5, hb5⟩
       have ha5 := StB.row hr5 (Nat.le_refl w4.heap.size)
       rw [hna] at ha5
       obtain ⟨Aa, ca, rfl⟩ : ∃ A c, va = .slice A na c := by obtain ⟨A, c, h, _⟩ := ha5; exact ⟨A, c, h⟩
       have hk5 := Keep.mk (And.intro (hk4.out.keep hb5) (And.intro hb5 ha5))
       clear hr5 hb5 ha5 hp hv)
    | (go_at_call 35; have hp := hk5.out.1.ps
       (with_reducible refine (q35.out _ _ hp).mono ?_); rintro e w6 ⟨gx, cx, rfl, hr6, hb6⟩
       have hk6 := Keep.mk (And.intro (hk5.out.1.keep hb6) (And.intro (hk5.out.2.1.trans (hb6.mono hk5.out.2.1.size)) (And.intro (hk5.out.2.2.keep hb6) hr6)))
       have hz5 := Keep.mk hk5.out.2.1.size
       clear hr6 hb6 hp hk5)
    | (go_at_call 20; have hp := hk6.out.1.ps; have hv := hk6.out.1.at (v := vs) (z := zsOf S) (.tail _ (.head _))
       (with_reducible refine (q20.out _ _ _ hp hv).mono ?_); rintro e w7 ⟨R, rfl, hR, hRl, hb7⟩
       have hk7 : Keep (OwI w4 w4.heap.size (.slice Aa na ca) na gx M (.slice (some ⟨R, 0, none⟩) N N) N w7) := ⟨⟨hk6.out.2.2.1.keep hb7, (hk6.out.2.2.2.mono hz5.out).keep hb7, StB.nums hR (Nat.le_trans hk6.out.2.1.size hRl), hk6.out.2.1.trans (hb7.mono hk6.out.2.1.size)⟩⟩
       clear hR hRl hb7 hp hv hk6 hz5))
  go_loopw [18] (fun i wr => ∃ k : Nat, k ≤ na ∧ i = .int .i64 k ∧ Keep (OwI w4 w4.heap.size (.slice Aa na ca) na gx M (.slice (some ⟨R, 0, none⟩) N N) N wr)) (fun i _ => na - (intOf i).toNat)
  case atStart => exact ⟨0, by omega, rfl, hk7⟩
  case round =>
    obtain ⟨k, hk, rfl, hI⟩ := hrel
    by_cases hlt : k < na
    · have hw1 : IntKind.i64.wrap ((k : Int) + 1) = (k : Int) + 1 := IntWalk.i64_in _ (by omega)
      have hlt' : (k : Int) < (na : Int) := by omega
      have hk0 : ¬ (k : Int) < 0 := by omega
      obtain ⟨g, u, hA, hB, cg, fg, cs, hcs⟩ := hI.out.sa.at hlt
      subst hA
      have hset := Keep.mk (hI.out.set (k := k) (u := .int .i64 (-7)) hB hcs)
      clear hI hB hcs
      go_wp2
      exact ⟨⟨k + 1, by omega, by go_num, hset⟩, by simp [intOf]; omega⟩
    · obtain rfl : k = na := by omega
      have hlt' : ¬ (k : Int) < (k : Int) := by omega
      go_wp2
      go_loopw [19] (fun i wr => ∃ k2 : Nat, k2 ≤ M ∧ i = .int .i64 k2 ∧ Keep (OwI w4 w4.heap.size (.slice Aa k ca) k gx M (.slice (some ⟨R, 0, none⟩) N N) N wr)) (fun i _ => M - (intOf i).toNat)
      case atStart => exact ⟨0, by omega, rfl, hI⟩
      case round =>
        obtain ⟨k2, hk2', rfl, hI2⟩ := hrel
        by_cases hlt2 : k2 < M
        · have hw2 : IntKind.i64.wrap ((k2 : Int) + 1) = (k2 : Int) + 1 := IntWalk.i64_in _ (by omega)
          have hlt2' : (k2 : Int) < (M : Int) := by omega
          have hk20 : ¬ (k2 : Int) < 0 := by omega
          obtain ⟨X, m, c, cx0, hm12, hsx⟩ := hI2.out.lx.at hlt2
          have hJ0 := Keep.mk (And.intro hI2.out (And.intro cx0 hsx))
          clear hI2 cx0 hsx
          go_wp2
          go_loopw [20] (fun i wr => ∃ k3 : Nat, k3 ≤ m ∧ i = .int .i64 k3 ∧ Keep (OwI w4 w4.heap.size (.slice Aa k ca) k gx M (.slice (some ⟨R, 0, none⟩) N N) N wr ∧ wr.cell? ⟨gx, k2, none⟩ = some (.slice X m c) ∧ StB wr w4.heap.size (.slice X m c) m)) (fun i _ => m - (intOf i).toNat)
          case atStart => exact ⟨0, by omega, rfl, hJ0⟩
          case round =>
            obtain ⟨k3, hk3', rfl, hJ⟩ := hrel
            have cxi := hJ.out.2.1
            by_cases hlt3 : k3 < m
            · have hw3 : IntKind.i64.wrap ((k3 : Int) + 1) = (k3 : Int) + 1 := IntWalk.i64_in _ (by omega)
              have hlt3' : (k3 : Int) < (m : Int) := by omega
              have hk30 : ¬ (k3 : Int) < 0 := by omega
              obtain ⟨g, u, hA, hB, cg, fg, cs, hcs⟩ := hJ.out.2.2.at hlt3
              subst hA
              have hset := Keep.mk (And.intro (hJ.out.1.set (k := k3) (u := .int .i64 (-7)) hB hcs) (And.intro ((hJ.out.1.lx.cell_set (k := k3) (u := .int .i64 (-7)) hcs k2).trans cxi) (hJ.out.2.2.set (g' := g) (k := k3) (u := .int .i64 (-7)))))
              clear hJ hB hcs
              go_wp2
              exact ⟨⟨k3 + 1, by omega, by go_num, hset⟩, by simp [intOf]; omega⟩
            · obtain rfl : k3 = m := by omega
              have hlt3' : ¬ (k3 : Int) < (k3 : Int) := by omega
              have hJ1 := Keep.mk hJ.out.1
              clear hJ
              go_wp2
              exact ⟨⟨k2 + 1, by omega, by go_num, hJ1⟩, by simp [intOf]; omega⟩
        · obtain rfl : k2 = M := by omega
          have hlt2' : ¬ (k2 : Int) < (k2 : Int) := by omega
          go_wp2
          go_loopw [21] (fun i wr => ∃ k4 : Nat, k4 ≤ N ∧ i = .int .i64 k4 ∧ Keep (OwI w4 w4.heap.size (.slice Aa k ca) k gx k2 (.slice (some ⟨R, 0, none⟩) N N) N wr)) (fun i _ => N - (intOf i).toNat)
          case atStart => exact ⟨0, by omega, rfl, hI2⟩
          case round =>
            obtain ⟨k4, hk4', rfl, hI3⟩ := hrel
            by_cases hlt4 : k4 < N
            · have hw4 : IntKind.i64.wrap ((k4 : Int) + 1) = (k4 : Int) + 1 := IntWalk.i64_in _ (by omega)
              have hlt4' : (k4 : Int) < (N : Int) := by omega
              have hk40 : ¬ (k4 : Int) < 0 := by omega
              obtain ⟨g, u, hA, hB, cg, fg, cs, hcs⟩ := hI3.out.sb.at hlt4
              injection hA with hA; injection hA with hA; subst hA
              have hset := Keep.mk (hI3.out.set (k := k4) (u := .int .i64 (-7)) hB hcs)
              clear hI3 hB hcs
              go_wp2
              exact ⟨⟨k4 + 1, by omega, by go_num, hset⟩, by simp [intOf]; omega⟩
            · obtain rfl : k4 = N := by omega
              have hlt4' : ¬ (k4 : Int) < (k4 : Int) := by omega
              have hbw := hI3.out.bw
              have hk8 := Keep.mk (hk4.out.keep hbw)
              have hp8 := Keep.mk (pairsOf_below hp4.out hbw)
              clear hI hI2 hI3 hbw hk7 hk4 hp4
              go_wp2_with (first
                | (go_at_call 19; have hp := hk8.out.ps; have hv := hk8.out.at (v := vs) (z := zsOf S) (.tail _ (.head _))
                   (with_reducible refine (q19.out _ _ _ hp hv).mono ?_); rintro e w9 ⟨vc, rfl, hr9, hb9⟩
                   have hk9 := Keep.mk (hk8.out.put hb9 (ints_own hr9))
                   have hp9 := Keep.mk (pairsOf_below hp8.out hb9)
                   clear hr9 hb9 hp hv hk8 hp8))
              obtain ⟨Al, cl, hvl, hcl⟩ := hk9.out.ps
              obtain ⟨Ap, cp, hvp, hcp⟩ := hp9.out
              have hk9l := hk9
              rw [helk.out] at hvl hcl hvp hcp
              subst hvl hvp
              have hclk := Keep.mk hcl
              have hcpk := Keep.mk hcp
              clear hcl hcp hp9
              go_loopw [25] (fun i wr => (∃ k5 : Nat, k5 ≤ el ∧ i = .int .i64 k5) ∧ ∃ nn, wr = w9.drewN nn) (fun i _ => el - (intOf i).toNat)
              case atStart => exact ⟨⟨0, by omega, rfl⟩, 0, rfl⟩
              case round =>
                obtain ⟨⟨k5, hk5', rfl⟩, nn, rfl⟩ := hrel
                by_cases hlt5 : k5 < el
                · have hw5 : IntKind.i64.wrap ((k5 : Int) + 1) = (k5 : Int) + 1 := IntWalk.i64_in _ (by omega)
                  have hlt5' : (k5 : Int) < (el : Int) := by omega
                  have hk50 : ¬ (k5 : Int) < 0 := by omega
                  obtain ⟨g, rfl, c0, c1⟩ := hclk.out k5 hlt5
                  obtain ⟨g', rfl, d0, d1⟩ := hcpk.out k5 hlt5
                  generalize E.getD k5 (0, 0) = p at c0 c1 d0 d1
                  obtain ⟨x, y⟩ := p
                  simp only at c0 c1 d0 d1
                  have heq := eq63 x y x y
                  rw [decide_eq_true rfl] at heq
                  go_wp2
                  refine (wpIn_wide (n := 0)).1 ?_
                  refine Many.region_many (Cq (w9.drewN nn)) hmx (by kernel_rfl) (fun s s' W' h hc => hc) (fun s hs => ⟨1, rfl⟩) ?_
                  refine Many.lex_want (by rfl) (rd (v := .slice (some ⟨g, 0, none⟩) el cl) (fun q => by (go_simp; (try rfl); (try (intro hneg; omega))))) ?_
                  simp only [Act.put, List.setIfInBounds_toArray, List.set_cons_succ, List.set_cons_zero, Nat.reduceAdd]
                  refine Many.lex_want (by rfl) (rd (v := .int .i64 k5) (fun q => by (go_simp; (try rfl); (try (intro hneg; omega))))) ?_
                  simp only [Act.put, List.setIfInBounds_toArray, List.set_cons_succ, List.set_cons_zero, Nat.reduceAdd]
                  refine Many.lex_want (by rfl) (rd (v := .pointer (some ⟨g, k5 * 2, none⟩)) (fun q => by (go_simp; (try rfl); (try (intro hneg; omega))))) ?_
                  simp only [Act.put, List.setIfInBounds_toArray, List.set_cons_succ, List.set_cons_zero, Nat.reduceAdd]
                  refine Many.lex_want (by rfl) (rd (v := .agg #[.int .i64 x, .int .i64 y]) (fun q => by (go_simp; (try rfl); (try (intro hneg; omega))))) ?_
                  simp only [Act.put, List.setIfInBounds_toArray, List.set_cons_succ, List.set_cons_zero, Nat.reduceAdd]
                  refine Many.lex_want (by rfl) (rd (v := .slice (some ⟨g', 0, none⟩) el cp) (fun q => by (go_simp; (try rfl); (try (intro hneg; omega))))) ?_
                  simp only [Act.put, List.setIfInBounds_toArray, List.set_cons_succ, List.set_cons_zero, Nat.reduceAdd]
                  refine Many.lex_want (by rfl) (rd (v := .int .i64 k5) (fun q => by (go_simp; (try rfl); (try (intro hneg; omega))))) ?_
                  simp only [Act.put, List.setIfInBounds_toArray, List.set_cons_succ, List.set_cons_zero, Nat.reduceAdd]
                  refine Many.lex_want (by rfl) (rd (v := .pointer (some ⟨g', k5 * 2, none⟩)) (fun q => by (go_simp; (try rfl); (try (intro hneg; omega))))) ?_
                  simp only [Act.put, List.setIfInBounds_toArray, List.set_cons_succ, List.set_cons_zero, Nat.reduceAdd]
                  refine Many.lex_want (by rfl) (rd (v := .agg #[.int .i64 x, .int .i64 y]) (fun q => by (go_simp; (try rfl); (try (intro hneg; omega))))) ?_
                  simp only [Act.put, List.setIfInBounds_toArray, List.set_cons_succ, List.set_cons_zero, Nat.reduceAdd]
                  refine Many.lex_want (by rfl) (rd (v := .bool false) (fun q => by (go_simp; (try rfl); (try (intro hneg; omega))))) ?_
                  simp only [Act.put, List.setIfInBounds_toArray, List.set_cons_succ, List.set_cons_zero, Nat.reduceAdd]
                  refine Many.lex_nil fun s9 W2 hs9 hS9 => ?_
                  obtain ⟨q, rfl⟩ := hS9
                  go_wp2
                  exact ⟨⟨⟨k5 + 1, by omega, by go_num⟩, nn + q, by first | rfl | exact drewN_add _ _ _⟩, by simp [intOf]; omega⟩
                · obtain rfl : k5 = el := by omega
                  have hlt5' : ¬ (k5 : Int) < (k5 : Int) := by omega
                  have hk10 := Keep.mk (hk9l.out.dn nn)
                  obtain ⟨w10, hw10⟩ : ∃ w10, w9.drewN nn = w10 := ⟨_, rfl⟩
                  rw [hw10] at hk10 ⊢
                  clear hw10 hk9 hk9l hclk hcpk q19 q35 q20
                  go_wp2_with (first
                    | (go_at_call 24; have hp := hk10.out.ps; (with_reducible refine (q24.out _ _ hp).mono ?_); rintro e w11 ⟨G, rfl, hG, hGl, hb⟩
                       have hk11 := Keep.mk (hk10.out.keep hb)
                       have hGk := Keep.mk hG
                       clear hG hGl hb hp hk10 q24)
                    | (go_at_call 26; have hvx := hk11.out.at (v := vt) (z := zsOf S) (.tail _ (.head _))
                       (with_reducible refine (q26.out _ _ hvx).mono ?_); rintro e wm ⟨rfl, hem⟩; rw [hem]; clear hem wm hvx)
                    | (go_at_call 25; have hG := hGk.out; (with_reducible refine (q25.out _ _ hG).mono ?_); rintro e w12 ⟨R2, rfl, hR, hRl, hb⟩
                       have hk12 := Keep.mk (hk11.out.keep hb)
                       clear hG hR hRl hb hk11 q25)
                    | (go_at_call 27; have hva := hk12.out.at (v := vs) (z := zsOf S) (.tail _ (.tail _ (.head _))); have hvb := hk12.out.at (v := vt) (z := zsOf S) (.tail _ (.head _))
                       (with_reducible refine (same_any hva hvb (Nat.le_trans (zs_len _) (by omega))).mono ?_); rintro e w13 ⟨rfl, nq13, hq13⟩
                       have hk13 := Keep.mk (hk12.out.dn nq13)
                       rw [← hq13] at hk13
                       clear hva hvb hk12 hq13)
                    | (go_at_call 28; (with_reducible refine (q28 _).mono ?_); rintro e w14 ⟨vw, rfl, hi14, hb14⟩
                       have hk14 := Keep.mk (hk13.out.put hb14 hi14)
                       clear hi14 hb14 hk13 q28)
                    | (go_at_call 27; have hva := hk14.out.at (v := vc) (z := zsOf C) (.tail _ (.head _)); have hvb := hk14.out.at (v := vw) (z := zsOf C) (.head _)
                       (with_reducible refine (same_any hva hvb (Nat.le_trans (zs_len _) (by omega))).mono ?_); rintro e w15 ⟨rfl, nq15, hq15⟩
                       have hk15 := Keep.mk (hk14.out.dn nq15)
                       rw [← hq15] at hk15
                       clear hva hvb hk14 hq15)
                    | (go_at_call 23; (with_reducible refine (awake_w _).mono ?_); rintro e w16 ⟨rfl, hb16⟩
                       have hk16 := Keep.mk (hk15.out.keep hb16)
                       clear hb16 hk15))
                  refine bodyPost_ret (v := .bool true) (by simp [results, Try.results16, go_sem]) rfl ?_
                  exact ⟨rfl, hk16.out.2.2⟩
end Go.Proofs.Yteekigpdiklppaa
