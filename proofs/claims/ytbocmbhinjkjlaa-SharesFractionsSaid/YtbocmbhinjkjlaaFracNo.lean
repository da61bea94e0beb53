/- The law SharesFractions where some are no fractions. -/
import Derived.Test.YtbocmbhinjkjlaaRankMath
import Derived.Test.YtbocmbhinjkjlaaLawAgrees
set_option linter.unusedSimpArgs false
set_option linter.unusedVariables false
namespace Go.Proofs.Ytbocmbhinjkjlaa
open Go Go.Proofs Go.RowKit Go.Seq
set_option maxHeartbeats 32000000 in
set_option maxRecDepth 100000 in
theorem fractions_no {v : Value} {l : Pts} {w : World} (q21 : Calls Try.prog 21 #[v] w fun e w' => ∃ v', e = .returned v' ∧ FracsO w' v' l ∧ Below w.heap.size w w') (hw : Wide l) (hlen : l.length ≤ 1000) (hD : okTs l = false) :
    Calls Try.prog 9 #[v] w fun e w' => e = .returned (.bool true) ∧ Below w.heap.size w w' := by
  have q49 := fun w v h => sum_no (v := v) (w := w) h hw hlen hD
  have q50 := fun w v h => sortedFn_no (v := v) (w := w) h hw hlen hD
  have q29 := fun w => refWhole_any 0 w
  have h0l : 0 < l.length := by
    rcases Nat.eq_zero_or_pos l.length with h | h
    · exact absurd (decide_eq_true (p := l.length ≤ 10 ∧ ∀ z ∈ l, okT z = true) ⟨by omega, fun z hz => by rw [List.eq_nil_of_length_eq_zero h] at hz; cases hz⟩) (by unfold okTs at hD; rw [hD]; decide)
    · exact h
  have hDK : Keep (¬ (l.length ≤ 10 ∧ ∀ i, i < l.length → okT (l.getD i (0, 0)) = true)) := ⟨fun h => of_decide_eq_false hD ⟨h.1, all_of_getp (p := fun z => okT z = true) h.2⟩⟩
  have hwK := Keep.mk hw
  have e1 := eqS 0 0
  unfold fracV at q49 q29
  clear hw hD
  go_enter Try.func9, Try.ntmps9
  go_wp2_with (first
    | (go_at_call 21; (with_reducible refine q21.mono ?_); rintro e w1 ⟨v1, rfl, hv1, hb1⟩)
    | (go_at_call 49; (with_reducible refine (q49 _ _ hv1).mono ?_); rintro e w2 ⟨rfl, hb2⟩
       obtain ⟨w3, hw3⟩ : ∃ w3, Keep (w2.alloc (.cells #[.int .i64 0, .int .i64 0] 37) = w3) := ⟨_, ⟨rfl⟩⟩
       have hb3 : Below w2.heap.size w2 w3 := by rw [← hw3.out]; exact (Below.refl _ _).alloc (Nat.le_refl _) _
       have o4 : Own2 w3 w2.heap.size (.int .i64 0) (.int .i64 0) := by rw [← hw3.out]; exact Own2.new _ _ _ _
       have hv3 := fracsO_below (fracsO_below hv1 hb2) hb3
       have hbw3 := hb1.trans ((hb2.mono hb1.size).trans (hb3.mono (Nat.le_trans hb1.size hb2.size)))
       clear hv1 hb2 hb3 hb1)
    | (go_at_call 50; (try rw [hw3.out]); (with_reducible refine (q50 _ _ hv3).mono ?_); rintro e w4 ⟨rfl, hb4⟩
       have hv4 := fracsO_below hv3 hb4
       have o4 := o4.after hb4
       have hbw4 := hbw3.trans (hb4.mono hbw3.size)
       obtain ⟨A, cap, rfl, hcell⟩ := hv4
       clear hv3 hb4 hbw3 q21 q49 q50)
    | (go_at_call 29; (with_reducible refine (q29 _).mono ?_); rintro e w5 ⟨rfl, hb5⟩
       obtain ⟨w6, hw6K⟩ : ∃ w6, Keep (w5.alloc (.cells #[.int .i64 0, .int .i64 1] 37) = w6) := ⟨_, ⟨rfl⟩⟩
       have hb6 : Below w5.heap.size w5 w6 := by rw [← hw6K.out]; exact (Below.refl _ _).alloc (Nat.le_refl _) _
       have hb46 := hb5.trans (hb6.mono hb5.size)
       have hcK : Keep (∀ k, k < l.length → ∃ g o, A = some ⟨g, o, none⟩ ∧ w6.cell? ⟨g, o + k * 2, none⟩ = some (.int .i64 (l.getD k (0, 0)).1) ∧ w6.cell? ⟨g, o + k * 2 + 1, none⟩ = some (.int .i64 (l.getD k (0, 0)).2)) := ⟨fun k hk => by
         obtain ⟨g, o, h1, h2, h3⟩ := hcell k hk
         exact ⟨g, o, h1, cell_below h2 hb46, cell_below h3 hb46⟩⟩
       have o4 := o4.after hb46
       have hbw6 := hbw4.trans (hb46.mono hbw4.size)
       clear hcell hb5 hbw4 q29 hb6 hb46))
  try rw [hw6K.out]
  go_loopw [10, 8] (fun i b wr => ∃ k : Nat, k ≤ l.length ∧ i = .int .i64 k ∧ (∃ bb, b = .bool bb ∧ Keep (bb = true ↔ (l.length ≤ 10 ∧ ∀ i, i < k → okT (l.getD i (0, 0)) = true))) ∧ Below w6.heap.size w6 wr) (fun i _ _ => l.length - (intOf i).toNat)
  case atStart =>
    refine ⟨0, by omega, rfl, ⟨_, rfl, ⟨?_⟩⟩, Below.refl _ _⟩
    rw [decide_eq_true_eq]
    exact ⟨fun h => ⟨by omega, fun i hi => by omega⟩, fun h => by omega⟩
  case round =>
    obtain ⟨k, hk, rfl, ⟨bb, rfl, hbb⟩, hbw⟩ := hrel
    have hbz := hbw.size
    by_cases hlt : k < l.length
    · cases bb with
      | false =>
        have hbb2 : Keep (false = true ↔ (l.length ≤ 10 ∧ ∀ i, i < k + 1 → okT (l.getD i (0, 0)) = true)) := ⟨⟨(fun h => by cases h), fun h => hbb.out.2 ⟨h.1, fun i hi => h.2 i (by omega)⟩⟩⟩
        go_wp2
        exact ⟨⟨k + 1, by omega, by go_num, ⟨_, rfl, hbb2⟩, hbw⟩, by simp [intOf]; omega⟩
      | true =>
        have hall := hbb.out.1 rfl
        obtain ⟨g, oo, rfl, hz1, hz2⟩ := hcK.out k hlt
        have hz1 := cell_below hz1 hbw
        have hz2 := cell_below hz2 hbw
        obtain ⟨i1, i2⟩ := hwK.out _ (getp hlt)
        have q51 := fun w => small_any i1 i2 w
        have hbb2 : Keep (okT (l.getD k (0, 0)) = true ↔ (l.length ≤ 10 ∧ ∀ i, i < k + 1 → okT (l.getD i (0, 0)) = true)) := ⟨⟨fun h => ⟨hall.1, fun i hi => by
          rcases Nat.lt_or_ge i k with h' | h'
          · exact hall.2 i h'
          · obtain rfl : i = k := by omega
            exact h⟩, fun h => h.2 k (by omega)⟩⟩
        unfold okT at hbb2
        unfold fracV at q51
        obtain ⟨R, hR⟩ : ∃ R, Keep (withinB (l.getD k (0, 0)).1 (l.getD k (0, 0)).2 (-1000000) 1000000 20 = R) := ⟨_, ⟨rfl⟩⟩
        rw [hR.out] at q51
        have hbb3 : Keep (R = true ↔ (l.length ≤ 10 ∧ ∀ i, i < k + 1 → okT (l.getD i (0, 0)) = true)) := ⟨by rw [← hR.out]; exact hbb2.out⟩
        clear hbb2 hR hall i1 i2
        generalize l.getD k (0, 0) = z at hz1 hz2 q51
        obtain ⟨n, d⟩ := z
        simp only at hz1 hz2 q51
        go_wp2_with (go_at_call 51; (with_reducible refine (q51 _).mono ?_); rintro e w7 ⟨rfl, hb7⟩)
        exact ⟨⟨k + 1, by omega, by go_num, ⟨_, rfl, hbb3⟩, hbw.trans (hb7.mono hbz)⟩, by simp [intOf]; omega⟩
    · obtain rfl : k = l.length := by omega
      have hbf : bb = false := by
        cases bb with
        | false => rfl
        | true => exact absurd (hbb.out.1 rfl) hDK.out
      subst hbf
      obtain ⟨c40, c41, f40, f41⟩ := o4.after hbw
      have hbT := hbw6.trans (hbw.mono hbw6.size)
      have hcK2 : Keep (∀ k, k < l.length → ∃ g o, A = some ⟨g, o, none⟩ ∧ wr.cell? ⟨g, o + k * 2, none⟩ = some (.int .i64 (l.getD k (0, 0)).1) ∧ wr.cell? ⟨g, o + k * 2 + 1, none⟩ = some (.int .i64 (l.getD k (0, 0)).2)) := ⟨fun k hk => by
        obtain ⟨g, o, h1, h2, h3⟩ := hcK.out k hk
        exact ⟨g, o, h1, cell_below h2 hbw, cell_below h3 hbw⟩⟩
      have h0' : (0 : Int) < (l.length : Int) := by omega
      clear hbb hDK hbw hbz hcK o4 hbw6 hw6K hlt
      go_wp2
      refine wp_loop_rounds 1 ?_
      rw [rounds_succ]
      go_wp2
      refine wp_loop_rounds 1 ?_
      rw [rounds_succ]
      by_cases h2 : l.length < 2
      · have h2' : (l.length : Int) < 2 := by omega
        go_wp2_with (go_at_call 25; refine (awake_any _).mono ?_; rintro e V9 ⟨rfl, hb9⟩)
        go_ret
        exact ⟨rfl, hbT.trans (hb9.mono hbT.size)⟩
      have h2' : ¬ (l.length : Int) < 2 := by omega
      have h01 : 0 < l.length := by omega
      have h11 : 1 < l.length := by omega
      have h11' : ¬ (l.length : Int) ≤ 1 := by omega
      clear c40 c41 f40 f41 e1
      obtain ⟨g, oo, rfl, hf1, hf2⟩ := hcK2.out 0 h01
      obtain ⟨g', oo', eg, hg1, hg2⟩ := hcK2.out 1 h11
      obtain ⟨rfl, rfl⟩ : g = g' ∧ oo = oo' := by simpa using eg
      rw [Nat.zero_mul, Nat.add_zero] at hf1 hf2
      rw [Nat.one_mul] at hg1 hg2
      obtain ⟨i1, i2⟩ := hwK.out _ (getp h01)
      obtain ⟨j1, j2⟩ := hwK.out _ (getp h11)
      generalize l.getD 0 (0, 0) = f at *
      generalize l.getD 1 (0, 0) = gg at *
      have q54n := fun hno w => compareFn_no (f := f) (g := gg) ⟨i1, i2⟩ ⟨j1, j2⟩ hno w
      have q54y := fun hf hg w => compareFn_yes (f := f) (g := gg) hf hg w
      have q51f := fun w => small_any i1 i2 w
      have q51g := fun w => small_any j1 j2 w
      clear eg hcK2 hwK
      cases hfo : okT f with
      | false =>
        have q54 := fun w => q54n (by rw [hfo]; rfl) w
        clear q54n q54y
        obtain ⟨n, d⟩ := f
        obtain ⟨m, q⟩ := gg
        simp only at *
        rw [show withinB n d (-1000000) 1000000 20 = false from hfo] at q51f
        unfold fracV at q51f q51g q54
        clear hfo i1 i2 j1 j2
        go_wp2
        refine (wpIn_wide (n := 0)).1 ?_
        refine Many.region_many (Cb wr) mixed_ok (by kernel_rfl) (fun _ _ _ _ h => h) (fun s _ => Cb.start wr s) ?_
        refine Many.lex_want (by rfl) (rdb (fun w hb => by (go_simp; try rfl))) ?_
        simp only [Act.put, List.setIfInBounds_toArray, List.set_cons_succ, List.set_cons_zero, Nat.reduceAdd]
        refine Many.lex_want (by rfl) (rdb (v := .pointer (some ⟨g, oo, none⟩)) (fun w hb => by (skip; go_simp; try rfl))) ?_
        simp only [Act.put, List.setIfInBounds_toArray, List.set_cons_succ, List.set_cons_zero, Nat.reduceAdd]
        refine Many.lex_want (by rfl) (rdb (v := .agg #[.int .i64 n, .int .i64 d]) (fun w hb => by (have c0 := cell_below hf1 hb; have c1 := cell_below hf2 hb; go_simp; try rfl))) ?_
        simp only [Act.put, List.setIfInBounds_toArray, List.set_cons_succ, List.set_cons_zero, Nat.reduceAdd]
        refine Many.lex_want (by rfl) (rdb (fun w hb => by (go_simp; try rfl))) ?_
        simp only [Act.put, List.setIfInBounds_toArray, List.set_cons_succ, List.set_cons_zero, Nat.reduceAdd]
        refine Many.lex_want (by rfl) (rdb (v := .pointer (some ⟨g, oo + 2, none⟩)) (fun w hb => by (skip; go_simp; try rfl))) ?_
        simp only [Act.put, List.setIfInBounds_toArray, List.set_cons_succ, List.set_cons_zero, Nat.reduceAdd]
        refine Many.lex_want (by rfl) (rdb (v := .agg #[.int .i64 m, .int .i64 q]) (fun w hb => by (have c0 := cell_below hg1 hb; have c1 := cell_below hg2 hb; go_simp; try rfl))) ?_
        simp only [Act.put, List.setIfInBounds_toArray, List.set_cons_succ, List.set_cons_zero, Nat.reduceAdd]
        refine Many.lex_want (by rfl) (clb q54 (fun w hb => by (go_simp; try rfl))) ?_
        simp only [Act.put, List.setIfInBounds_toArray, List.set_cons_succ, List.set_cons_zero, Nat.reduceAdd]
        refine Many.lex_want (by rfl) (rdb (fun w hb => by (go_simp; try rfl))) ?_
        simp only [Act.put, List.setIfInBounds_toArray, List.set_cons_succ, List.set_cons_zero, Nat.reduceAdd]
        refine Many.lex_want (by rfl) (rdb (fun w hb => by (go_simp; try rfl))) ?_
        simp only [Act.put, List.setIfInBounds_toArray, List.set_cons_succ, List.set_cons_zero, Nat.reduceAdd]
        refine Many.lex_want (by rfl) (rdb (fun w hb => by (go_simp; try rfl))) ?_
        simp only [Act.put, List.setIfInBounds_toArray, List.set_cons_succ, List.set_cons_zero, Nat.reduceAdd]
        refine Many.lex_want (by rfl) (rdb (fun w hb => by (go_simp; try rfl))) ?_
        simp only [Act.put, List.setIfInBounds_toArray, List.set_cons_succ, List.set_cons_zero, Nat.reduceAdd]
        refine Many.lex_want (by rfl) (rdb (fun w hb => by (go_simp; try rfl))) ?_
        simp only [Act.put, List.setIfInBounds_toArray, List.set_cons_succ, List.set_cons_zero, Nat.reduceAdd]
        refine Many.lex_nil fun s V1 hs hC => ?_
        have hC : Below wr.heap.size wr V1 := hC
        have bV1 := (hbT).trans (hC.mono (hbT).size)
        have hf1 := cell_below hf1 hC
        have hf2 := cell_below hf2 hC
        have hg1 := cell_below hg1 hC
        have hg2 := cell_below hg2 hC
        clear hC hs
        go_wp2_with (first
          | (go_at_call 51; (with_reducible refine (q51f _).mono ?_); rintro e V2 ⟨rfl, hb2⟩
             have bV2 := bV1.trans (hb2.mono bV1.size))
          | (go_at_call 25; refine (awake_any _).mono ?_; rintro e V3 ⟨rfl, hb3⟩))
        go_ret
        exact ⟨rfl, bV2.trans (hb3.mono bV2.size)⟩
      | true =>
        cases hgo : okT gg with
        | false =>
          have q54 := fun w => q54n (by rw [hfo, hgo]; rfl) w
          clear q54n q54y
          obtain ⟨n, d⟩ := f
          obtain ⟨m, q⟩ := gg
          simp only at *
          rw [show withinB n d (-1000000) 1000000 20 = true from hfo] at q51f
          rw [show withinB m q (-1000000) 1000000 20 = false from hgo] at q51g
          unfold fracV at q51f q51g q54
          clear hfo hgo i1 i2 j1 j2
          go_wp2
          refine (wpIn_wide (n := 0)).1 ?_
          refine Many.region_many (Cb wr) mixed_ok (by kernel_rfl) (fun _ _ _ _ h => h) (fun s _ => Cb.start wr s) ?_
          refine Many.lex_want (by rfl) (rdb (fun w hb => by (go_simp; try rfl))) ?_
          simp only [Act.put, List.setIfInBounds_toArray, List.set_cons_succ, List.set_cons_zero, Nat.reduceAdd]
          refine Many.lex_want (by rfl) (rdb (v := .pointer (some ⟨g, oo, none⟩)) (fun w hb => by (skip; go_simp; try rfl))) ?_
          simp only [Act.put, List.setIfInBounds_toArray, List.set_cons_succ, List.set_cons_zero, Nat.reduceAdd]
          refine Many.lex_want (by rfl) (rdb (v := .agg #[.int .i64 n, .int .i64 d]) (fun w hb => by (have c0 := cell_below hf1 hb; have c1 := cell_below hf2 hb; go_simp; try rfl))) ?_
          simp only [Act.put, List.setIfInBounds_toArray, List.set_cons_succ, List.set_cons_zero, Nat.reduceAdd]
          refine Many.lex_want (by rfl) (rdb (fun w hb => by (go_simp; try rfl))) ?_
          simp only [Act.put, List.setIfInBounds_toArray, List.set_cons_succ, List.set_cons_zero, Nat.reduceAdd]
          refine Many.lex_want (by rfl) (rdb (v := .pointer (some ⟨g, oo + 2, none⟩)) (fun w hb => by (skip; go_simp; try rfl))) ?_
          simp only [Act.put, List.setIfInBounds_toArray, List.set_cons_succ, List.set_cons_zero, Nat.reduceAdd]
          refine Many.lex_want (by rfl) (rdb (v := .agg #[.int .i64 m, .int .i64 q]) (fun w hb => by (have c0 := cell_below hg1 hb; have c1 := cell_below hg2 hb; go_simp; try rfl))) ?_
          simp only [Act.put, List.setIfInBounds_toArray, List.set_cons_succ, List.set_cons_zero, Nat.reduceAdd]
          refine Many.lex_want (by rfl) (clb q54 (fun w hb => by (go_simp; try rfl))) ?_
          simp only [Act.put, List.setIfInBounds_toArray, List.set_cons_succ, List.set_cons_zero, Nat.reduceAdd]
          refine Many.lex_want (by rfl) (rdb (fun w hb => by (go_simp; try rfl))) ?_
          simp only [Act.put, List.setIfInBounds_toArray, List.set_cons_succ, List.set_cons_zero, Nat.reduceAdd]
          refine Many.lex_want (by rfl) (rdb (fun w hb => by (go_simp; try rfl))) ?_
          simp only [Act.put, List.setIfInBounds_toArray, List.set_cons_succ, List.set_cons_zero, Nat.reduceAdd]
          refine Many.lex_want (by rfl) (rdb (fun w hb => by (go_simp; try rfl))) ?_
          simp only [Act.put, List.setIfInBounds_toArray, List.set_cons_succ, List.set_cons_zero, Nat.reduceAdd]
          refine Many.lex_want (by rfl) (rdb (fun w hb => by (go_simp; try rfl))) ?_
          simp only [Act.put, List.setIfInBounds_toArray, List.set_cons_succ, List.set_cons_zero, Nat.reduceAdd]
          refine Many.lex_want (by rfl) (rdb (fun w hb => by (go_simp; try rfl))) ?_
          simp only [Act.put, List.setIfInBounds_toArray, List.set_cons_succ, List.set_cons_zero, Nat.reduceAdd]
          refine Many.lex_nil fun s V1 hs hC => ?_
          have hC : Below wr.heap.size wr V1 := hC
          have bV1 := (hbT).trans (hC.mono (hbT).size)
          have hf1 := cell_below hf1 hC
          have hf2 := cell_below hf2 hC
          have hg1 := cell_below hg1 hC
          have hg2 := cell_below hg2 hC
          clear hC hs
          go_wp2_with (first
            | (go_at_call 51; (with_reducible refine (q51f _).mono ?_); rintro e V2 ⟨rfl, hb2⟩
               have bV2 := bV1.trans (hb2.mono bV1.size)
               have hf1 := cell_below hf1 hb2
               have hf2 := cell_below hf2 hb2
               have hg1 := cell_below hg1 hb2
               have hg2 := cell_below hg2 hb2
               clear q51f hb2 bV1)
            | (go_at_call 51; (with_reducible refine (q51g _).mono ?_); rintro e V4 ⟨rfl, hb4⟩
               have bV4 := bV2.trans (hb4.mono bV2.size)
               have hf1 := cell_below hf1 hb4
               have hf2 := cell_below hf2 hb4
               have hg1 := cell_below hg1 hb4
               have hg2 := cell_below hg2 hb4
               clear q51g hb4 bV2)
            | (go_at_call 25; refine (awake_any _).mono ?_; rintro e V3 ⟨rfl, hb3⟩))
          go_ret
          exact ⟨rfl, bV4.trans (hb3.mono bV4.size)⟩
        | true =>
          have q54 := fun w => q54y hfo hgo w
          have hm1 := okT_mul hfo hgo
          have hm2 := okT_mul hgo hfo
          clear q54n q54y
          obtain ⟨n, d⟩ := f
          obtain ⟨m, q⟩ := gg
          simp only at *
          rw [show withinB n d (-1000000) 1000000 20 = true from hfo] at q51f
          rw [show withinB m q (-1000000) 1000000 20 = true from hgo] at q51g
          have q53a := fun w => refLess_any (a := n) (b := d) (c := m) (d := q) hm1 hm2 w
          have q53b := fun w => refLess_any (a := m) (b := q) (c := n) (d := d) hm2 hm1 w
          unfold fracV at q51f q51g q53a q53b q54
          clear hfo hgo hm1 hm2 i1 i2 j1 j2
          by_cases k1 : n * q < m * d
          · have hR : cmpI (n * q) (m * d) = -1 := by unfold cmpI; rw [if_pos k1]
            rw [hR] at q54
            rw [decide_eq_true k1] at q53a
            clear hR k1
            go_wp2
            refine (wpIn_wide (n := 0)).1 ?_
            refine Many.region_many (Cb wr) mixed_ok (by kernel_rfl) (fun _ _ _ _ h => h) (fun s _ => Cb.start wr s) ?_
            refine Many.lex_want (by rfl) (rdb (fun w hb => by (go_simp; try rfl))) ?_
            simp only [Act.put, List.setIfInBounds_toArray, List.set_cons_succ, List.set_cons_zero, Nat.reduceAdd]
            refine Many.lex_want (by rfl) (rdb (v := .pointer (some ⟨g, oo, none⟩)) (fun w hb => by (skip; go_simp; try rfl))) ?_
            simp only [Act.put, List.setIfInBounds_toArray, List.set_cons_succ, List.set_cons_zero, Nat.reduceAdd]
            refine Many.lex_want (by rfl) (rdb (v := .agg #[.int .i64 n, .int .i64 d]) (fun w hb => by (have c0 := cell_below hf1 hb; have c1 := cell_below hf2 hb; go_simp; try rfl))) ?_
            simp only [Act.put, List.setIfInBounds_toArray, List.set_cons_succ, List.set_cons_zero, Nat.reduceAdd]
            refine Many.lex_want (by rfl) (rdb (fun w hb => by (go_simp; try rfl))) ?_
            simp only [Act.put, List.setIfInBounds_toArray, List.set_cons_succ, List.set_cons_zero, Nat.reduceAdd]
            refine Many.lex_want (by rfl) (rdb (v := .pointer (some ⟨g, oo + 2, none⟩)) (fun w hb => by (skip; go_simp; try rfl))) ?_
            simp only [Act.put, List.setIfInBounds_toArray, List.set_cons_succ, List.set_cons_zero, Nat.reduceAdd]
            refine Many.lex_want (by rfl) (rdb (v := .agg #[.int .i64 m, .int .i64 q]) (fun w hb => by (have c0 := cell_below hg1 hb; have c1 := cell_below hg2 hb; go_simp; try rfl))) ?_
            simp only [Act.put, List.setIfInBounds_toArray, List.set_cons_succ, List.set_cons_zero, Nat.reduceAdd]
            refine Many.lex_want (by rfl) (clb q54 (fun w hb => by (go_simp; try rfl))) ?_
            simp only [Act.put, List.setIfInBounds_toArray, List.set_cons_succ, List.set_cons_zero, Nat.reduceAdd]
            refine Many.lex_want (by rfl) (rdb (fun w hb => by (go_simp; try rfl))) ?_
            simp only [Act.put, List.setIfInBounds_toArray, List.set_cons_succ, List.set_cons_zero, Nat.reduceAdd]
            refine Many.lex_want (by rfl) (rdb (fun w hb => by (go_simp; try rfl))) ?_
            simp only [Act.put, List.setIfInBounds_toArray, List.set_cons_succ, List.set_cons_zero, Nat.reduceAdd]
            refine Many.lex_want (by rfl) (rdb (fun w hb => by (go_simp; try rfl))) ?_
            simp only [Act.put, List.setIfInBounds_toArray, List.set_cons_succ, List.set_cons_zero, Nat.reduceAdd]
            refine Many.lex_want (by rfl) (rdb (fun w hb => by (go_simp; try rfl))) ?_
            simp only [Act.put, List.setIfInBounds_toArray, List.set_cons_succ, List.set_cons_zero, Nat.reduceAdd]
            refine Many.lex_want (by rfl) (rdb (fun w hb => by (go_simp; try rfl))) ?_
            simp only [Act.put, List.setIfInBounds_toArray, List.set_cons_succ, List.set_cons_zero, Nat.reduceAdd]
            refine Many.lex_nil fun s V1 hs hC => ?_
            have hC : Below wr.heap.size wr V1 := hC
            have bV1 := (hbT).trans (hC.mono (hbT).size)
            have hf1 := cell_below hf1 hC
            have hf2 := cell_below hf2 hC
            have hg1 := cell_below hg1 hC
            have hg2 := cell_below hg2 hC
            clear hC hs
            go_wp2_with (first
              | (go_at_call 51; (with_reducible refine (q51f _).mono ?_); rintro e V2 ⟨rfl, hb2⟩
                 have bV2 := bV1.trans (hb2.mono bV1.size)
                 have hf1 := cell_below hf1 hb2
                 have hf2 := cell_below hf2 hb2
                 have hg1 := cell_below hg1 hb2
                 have hg2 := cell_below hg2 hb2
                 clear q51f hb2 bV1)
              | (go_at_call 51; (with_reducible refine (q51g _).mono ?_); rintro e V4 ⟨rfl, hb4⟩
                 have bV4 := bV2.trans (hb4.mono bV2.size)
                 have hf1 := cell_below hf1 hb4
                 have hf2 := cell_below hf2 hb4
                 have hg1 := cell_below hg1 hb4
                 have hg2 := cell_below hg2 hb4
                 clear q51g hb4 bV2))
            refine (wpIn_wide (n := 0)).1 ?_
            refine Many.region_many (Cb V4) mixed_ok (by kernel_rfl) (fun _ _ _ _ h => h) (fun s _ => Cb.start V4 s) ?_
            refine Many.lex_want (by rfl) (rdb (fun w hb => by (go_simp; try rfl))) ?_
            simp only [Act.put, List.setIfInBounds_toArray, List.set_cons_succ, List.set_cons_zero, Nat.reduceAdd]
            refine Many.lex_want (by rfl) (rdb (v := .pointer (some ⟨g, oo, none⟩)) (fun w hb => by (skip; go_simp; try rfl))) ?_
            simp only [Act.put, List.setIfInBounds_toArray, List.set_cons_succ, List.set_cons_zero, Nat.reduceAdd]
            refine Many.lex_want (by rfl) (rdb (v := .agg #[.int .i64 n, .int .i64 d]) (fun w hb => by (have c0 := cell_below hf1 hb; have c1 := cell_below hf2 hb; go_simp; try rfl))) ?_
            simp only [Act.put, List.setIfInBounds_toArray, List.set_cons_succ, List.set_cons_zero, Nat.reduceAdd]
            refine Many.lex_want (by rfl) (rdb (fun w hb => by (go_simp; try rfl))) ?_
            simp only [Act.put, List.setIfInBounds_toArray, List.set_cons_succ, List.set_cons_zero, Nat.reduceAdd]
            refine Many.lex_want (by rfl) (rdb (v := .pointer (some ⟨g, oo + 2, none⟩)) (fun w hb => by (skip; go_simp; try rfl))) ?_
            simp only [Act.put, List.setIfInBounds_toArray, List.set_cons_succ, List.set_cons_zero, Nat.reduceAdd]
            refine Many.lex_want (by rfl) (rdb (v := .agg #[.int .i64 m, .int .i64 q]) (fun w hb => by (have c0 := cell_below hg1 hb; have c1 := cell_below hg2 hb; go_simp; try rfl))) ?_
            simp only [Act.put, List.setIfInBounds_toArray, List.set_cons_succ, List.set_cons_zero, Nat.reduceAdd]
            refine Many.lex_want (by rfl) (clb q53a (fun w hb => by (go_simp; try rfl))) ?_
            simp only [Act.put, List.setIfInBounds_toArray, List.set_cons_succ, List.set_cons_zero, Nat.reduceAdd]
            refine Many.lex_nil fun s V5 hs hC => ?_
            have hC : Below V4.heap.size V4 V5 := hC
            have bV5 := bV4.trans (hC.mono bV4.size)
            clear hC hs
            go_wp2_with (go_at_call 25; refine (awake_any _).mono ?_; rintro e V9 ⟨rfl, hb9⟩)
            go_ret
            exact ⟨rfl, bV5.trans (hb9.mono bV5.size)⟩
          · by_cases k2 : m * d < n * q
            · have hR : cmpI (n * q) (m * d) = 1 := by unfold cmpI; rw [if_neg k1, if_pos k2]
              rw [hR] at q54
              rw [decide_eq_false k1] at q53a
              rw [decide_eq_true k2] at q53b
              clear hR k1 k2
              go_wp2
              refine (wpIn_wide (n := 0)).1 ?_
              refine Many.region_many (Cb wr) mixed_ok (by kernel_rfl) (fun _ _ _ _ h => h) (fun s _ => Cb.start wr s) ?_
              refine Many.lex_want (by rfl) (rdb (fun w hb => by (go_simp; try rfl))) ?_
              simp only [Act.put, List.setIfInBounds_toArray, List.set_cons_succ, List.set_cons_zero, Nat.reduceAdd]
              refine Many.lex_want (by rfl) (rdb (v := .pointer (some ⟨g, oo, none⟩)) (fun w hb => by (skip; go_simp; try rfl))) ?_
              simp only [Act.put, List.setIfInBounds_toArray, List.set_cons_succ, List.set_cons_zero, Nat.reduceAdd]
              refine Many.lex_want (by rfl) (rdb (v := .agg #[.int .i64 n, .int .i64 d]) (fun w hb => by (have c0 := cell_below hf1 hb; have c1 := cell_below hf2 hb; go_simp; try rfl))) ?_
              simp only [Act.put, List.setIfInBounds_toArray, List.set_cons_succ, List.set_cons_zero, Nat.reduceAdd]
              refine Many.lex_want (by rfl) (rdb (fun w hb => by (go_simp; try rfl))) ?_
              simp only [Act.put, List.setIfInBounds_toArray, List.set_cons_succ, List.set_cons_zero, Nat.reduceAdd]
              refine Many.lex_want (by rfl) (rdb (v := .pointer (some ⟨g, oo + 2, none⟩)) (fun w hb => by (skip; go_simp; try rfl))) ?_
              simp only [Act.put, List.setIfInBounds_toArray, List.set_cons_succ, List.set_cons_zero, Nat.reduceAdd]
              refine Many.lex_want (by rfl) (rdb (v := .agg #[.int .i64 m, .int .i64 q]) (fun w hb => by (have c0 := cell_below hg1 hb; have c1 := cell_below hg2 hb; go_simp; try rfl))) ?_
              simp only [Act.put, List.setIfInBounds_toArray, List.set_cons_succ, List.set_cons_zero, Nat.reduceAdd]
              refine Many.lex_want (by rfl) (clb q54 (fun w hb => by (go_simp; try rfl))) ?_
              simp only [Act.put, List.setIfInBounds_toArray, List.set_cons_succ, List.set_cons_zero, Nat.reduceAdd]
              refine Many.lex_want (by rfl) (rdb (fun w hb => by (go_simp; try rfl))) ?_
              simp only [Act.put, List.setIfInBounds_toArray, List.set_cons_succ, List.set_cons_zero, Nat.reduceAdd]
              refine Many.lex_want (by rfl) (rdb (fun w hb => by (go_simp; try rfl))) ?_
              simp only [Act.put, List.setIfInBounds_toArray, List.set_cons_succ, List.set_cons_zero, Nat.reduceAdd]
              refine Many.lex_want (by rfl) (rdb (fun w hb => by (go_simp; try rfl))) ?_
              simp only [Act.put, List.setIfInBounds_toArray, List.set_cons_succ, List.set_cons_zero, Nat.reduceAdd]
              refine Many.lex_want (by rfl) (rdb (fun w hb => by (go_simp; try rfl))) ?_
              simp only [Act.put, List.setIfInBounds_toArray, List.set_cons_succ, List.set_cons_zero, Nat.reduceAdd]
              refine Many.lex_want (by rfl) (rdb (fun w hb => by (go_simp; try rfl))) ?_
              simp only [Act.put, List.setIfInBounds_toArray, List.set_cons_succ, List.set_cons_zero, Nat.reduceAdd]
              refine Many.lex_nil fun s V1 hs hC => ?_
              have hC : Below wr.heap.size wr V1 := hC
              have bV1 := (hbT).trans (hC.mono (hbT).size)
              have hf1 := cell_below hf1 hC
              have hf2 := cell_below hf2 hC
              have hg1 := cell_below hg1 hC
              have hg2 := cell_below hg2 hC
              clear hC hs
              go_wp2_with (first
                | (go_at_call 51; (with_reducible refine (q51f _).mono ?_); rintro e V2 ⟨rfl, hb2⟩
                   have bV2 := bV1.trans (hb2.mono bV1.size)
                   have hf1 := cell_below hf1 hb2
                   have hf2 := cell_below hf2 hb2
                   have hg1 := cell_below hg1 hb2
                   have hg2 := cell_below hg2 hb2
                   clear q51f hb2 bV1)
                | (go_at_call 51; (with_reducible refine (q51g _).mono ?_); rintro e V4 ⟨rfl, hb4⟩
                   have bV4 := bV2.trans (hb4.mono bV2.size)
                   have hf1 := cell_below hf1 hb4
                   have hf2 := cell_below hf2 hb4
                   have hg1 := cell_below hg1 hb4
                   have hg2 := cell_below hg2 hb4
                   clear q51g hb4 bV2))
              refine (wpIn_wide (n := 0)).1 ?_
              refine Many.region_many (Cb V4) mixed_ok (by kernel_rfl) (fun _ _ _ _ h => h) (fun s _ => Cb.start V4 s) ?_
              refine Many.lex_want (by rfl) (rdb (fun w hb => by (go_simp; try rfl))) ?_
              simp only [Act.put, List.setIfInBounds_toArray, List.set_cons_succ, List.set_cons_zero, Nat.reduceAdd]
              refine Many.lex_want (by rfl) (rdb (v := .pointer (some ⟨g, oo, none⟩)) (fun w hb => by (skip; go_simp; try rfl))) ?_
              simp only [Act.put, List.setIfInBounds_toArray, List.set_cons_succ, List.set_cons_zero, Nat.reduceAdd]
              refine Many.lex_want (by rfl) (rdb (v := .agg #[.int .i64 n, .int .i64 d]) (fun w hb => by (have c0 := cell_below hf1 hb; have c1 := cell_below hf2 hb; go_simp; try rfl))) ?_
              simp only [Act.put, List.setIfInBounds_toArray, List.set_cons_succ, List.set_cons_zero, Nat.reduceAdd]
              refine Many.lex_want (by rfl) (rdb (fun w hb => by (go_simp; try rfl))) ?_
              simp only [Act.put, List.setIfInBounds_toArray, List.set_cons_succ, List.set_cons_zero, Nat.reduceAdd]
              refine Many.lex_want (by rfl) (rdb (v := .pointer (some ⟨g, oo + 2, none⟩)) (fun w hb => by (skip; go_simp; try rfl))) ?_
              simp only [Act.put, List.setIfInBounds_toArray, List.set_cons_succ, List.set_cons_zero, Nat.reduceAdd]
              refine Many.lex_want (by rfl) (rdb (v := .agg #[.int .i64 m, .int .i64 q]) (fun w hb => by (have c0 := cell_below hg1 hb; have c1 := cell_below hg2 hb; go_simp; try rfl))) ?_
              simp only [Act.put, List.setIfInBounds_toArray, List.set_cons_succ, List.set_cons_zero, Nat.reduceAdd]
              refine Many.lex_want (by rfl) (clb q53a (fun w hb => by (go_simp; try rfl))) ?_
              simp only [Act.put, List.setIfInBounds_toArray, List.set_cons_succ, List.set_cons_zero, Nat.reduceAdd]
              refine Many.lex_nil fun s V5 hs hC => ?_
              have hC : Below V4.heap.size V4 V5 := hC
              have bV5 := bV4.trans (hC.mono bV4.size)
              have hf1 := cell_below hf1 hC
              have hf2 := cell_below hf2 hC
              have hg1 := cell_below hg1 hC
              have hg2 := cell_below hg2 hC
              clear hC hs
              go_wp2
              refine (wpIn_wide (n := 0)).1 ?_
              refine Many.region_many (Cb V5) mixed_ok (by kernel_rfl) (fun _ _ _ _ h => h) (fun s _ => Cb.start V5 s) ?_
              refine Many.lex_want (by rfl) (rdb (fun w hb => by (go_simp; try rfl))) ?_
              simp only [Act.put, List.setIfInBounds_toArray, List.set_cons_succ, List.set_cons_zero, Nat.reduceAdd]
              refine Many.lex_want (by rfl) (rdb (v := .pointer (some ⟨g, oo + 2, none⟩)) (fun w hb => by (skip; go_simp; try rfl))) ?_
              simp only [Act.put, List.setIfInBounds_toArray, List.set_cons_succ, List.set_cons_zero, Nat.reduceAdd]
              refine Many.lex_want (by rfl) (rdb (v := .agg #[.int .i64 m, .int .i64 q]) (fun w hb => by (have c0 := cell_below hg1 hb; have c1 := cell_below hg2 hb; go_simp; try rfl))) ?_
              simp only [Act.put, List.setIfInBounds_toArray, List.set_cons_succ, List.set_cons_zero, Nat.reduceAdd]
              refine Many.lex_want (by rfl) (rdb (fun w hb => by (go_simp; try rfl))) ?_
              simp only [Act.put, List.setIfInBounds_toArray, List.set_cons_succ, List.set_cons_zero, Nat.reduceAdd]
              refine Many.lex_want (by rfl) (rdb (v := .pointer (some ⟨g, oo, none⟩)) (fun w hb => by (skip; go_simp; try rfl))) ?_
              simp only [Act.put, List.setIfInBounds_toArray, List.set_cons_succ, List.set_cons_zero, Nat.reduceAdd]
              refine Many.lex_want (by rfl) (rdb (v := .agg #[.int .i64 n, .int .i64 d]) (fun w hb => by (have c0 := cell_below hf1 hb; have c1 := cell_below hf2 hb; go_simp; try rfl))) ?_
              simp only [Act.put, List.setIfInBounds_toArray, List.set_cons_succ, List.set_cons_zero, Nat.reduceAdd]
              refine Many.lex_want (by rfl) (clb q53b (fun w hb => by (go_simp; try rfl))) ?_
              simp only [Act.put, List.setIfInBounds_toArray, List.set_cons_succ, List.set_cons_zero, Nat.reduceAdd]
              refine Many.lex_nil fun s V6 hs hC => ?_
              have hC : Below V5.heap.size V5 V6 := hC
              have bV6 := bV5.trans (hC.mono bV5.size)
              clear hC hs
              go_wp2_with (go_at_call 25; refine (awake_any _).mono ?_; rintro e V9 ⟨rfl, hb9⟩)
              go_ret
              exact ⟨rfl, bV6.trans (hb9.mono bV6.size)⟩
            · have hR : cmpI (n * q) (m * d) = 0 := by unfold cmpI; rw [if_neg k1, if_neg k2]
              rw [hR] at q54
              rw [decide_eq_false k1] at q53a
              rw [decide_eq_false k2] at q53b
              clear hR k1 k2
              go_wp2
              refine (wpIn_wide (n := 0)).1 ?_
              refine Many.region_many (Cb wr) mixed_ok (by kernel_rfl) (fun _ _ _ _ h => h) (fun s _ => Cb.start wr s) ?_
              refine Many.lex_want (by rfl) (rdb (fun w hb => by (go_simp; try rfl))) ?_
              simp only [Act.put, List.setIfInBounds_toArray, List.set_cons_succ, List.set_cons_zero, Nat.reduceAdd]
              refine Many.lex_want (by rfl) (rdb (v := .pointer (some ⟨g, oo, none⟩)) (fun w hb => by (skip; go_simp; try rfl))) ?_
              simp only [Act.put, List.setIfInBounds_toArray, List.set_cons_succ, List.set_cons_zero, Nat.reduceAdd]
              refine Many.lex_want (by rfl) (rdb (v := .agg #[.int .i64 n, .int .i64 d]) (fun w hb => by (have c0 := cell_below hf1 hb; have c1 := cell_below hf2 hb; go_simp; try rfl))) ?_
              simp only [Act.put, List.setIfInBounds_toArray, List.set_cons_succ, List.set_cons_zero, Nat.reduceAdd]
              refine Many.lex_want (by rfl) (rdb (fun w hb => by (go_simp; try rfl))) ?_
              simp only [Act.put, List.setIfInBounds_toArray, List.set_cons_succ, List.set_cons_zero, Nat.reduceAdd]
              refine Many.lex_want (by rfl) (rdb (v := .pointer (some ⟨g, oo + 2, none⟩)) (fun w hb => by (skip; go_simp; try rfl))) ?_
              simp only [Act.put, List.setIfInBounds_toArray, List.set_cons_succ, List.set_cons_zero, Nat.reduceAdd]
              refine Many.lex_want (by rfl) (rdb (v := .agg #[.int .i64 m, .int .i64 q]) (fun w hb => by (have c0 := cell_below hg1 hb; have c1 := cell_below hg2 hb; go_simp; try rfl))) ?_
              simp only [Act.put, List.setIfInBounds_toArray, List.set_cons_succ, List.set_cons_zero, Nat.reduceAdd]
              refine Many.lex_want (by rfl) (clb q54 (fun w hb => by (go_simp; try rfl))) ?_
              simp only [Act.put, List.setIfInBounds_toArray, List.set_cons_succ, List.set_cons_zero, Nat.reduceAdd]
              refine Many.lex_want (by rfl) (rdb (fun w hb => by (go_simp; try rfl))) ?_
              simp only [Act.put, List.setIfInBounds_toArray, List.set_cons_succ, List.set_cons_zero, Nat.reduceAdd]
              refine Many.lex_want (by rfl) (rdb (fun w hb => by (go_simp; try rfl))) ?_
              simp only [Act.put, List.setIfInBounds_toArray, List.set_cons_succ, List.set_cons_zero, Nat.reduceAdd]
              refine Many.lex_want (by rfl) (rdb (fun w hb => by (go_simp; try rfl))) ?_
              simp only [Act.put, List.setIfInBounds_toArray, List.set_cons_succ, List.set_cons_zero, Nat.reduceAdd]
              refine Many.lex_want (by rfl) (rdb (fun w hb => by (go_simp; try rfl))) ?_
              simp only [Act.put, List.setIfInBounds_toArray, List.set_cons_succ, List.set_cons_zero, Nat.reduceAdd]
              refine Many.lex_want (by rfl) (rdb (fun w hb => by (go_simp; try rfl))) ?_
              simp only [Act.put, List.setIfInBounds_toArray, List.set_cons_succ, List.set_cons_zero, Nat.reduceAdd]
              refine Many.lex_nil fun s V1 hs hC => ?_
              have hC : Below wr.heap.size wr V1 := hC
              have bV1 := (hbT).trans (hC.mono (hbT).size)
              have hf1 := cell_below hf1 hC
              have hf2 := cell_below hf2 hC
              have hg1 := cell_below hg1 hC
              have hg2 := cell_below hg2 hC
              clear hC hs
              go_wp2_with (first
                | (go_at_call 51; (with_reducible refine (q51f _).mono ?_); rintro e V2 ⟨rfl, hb2⟩
                   have bV2 := bV1.trans (hb2.mono bV1.size)
                   have hf1 := cell_below hf1 hb2
                   have hf2 := cell_below hf2 hb2
                   have hg1 := cell_below hg1 hb2
                   have hg2 := cell_below hg2 hb2
                   clear q51f hb2 bV1)
                | (go_at_call 51; (with_reducible refine (q51g _).mono ?_); rintro e V4 ⟨rfl, hb4⟩
                   have bV4 := bV2.trans (hb4.mono bV2.size)
                   have hf1 := cell_below hf1 hb4
                   have hf2 := cell_below hf2 hb4
                   have hg1 := cell_below hg1 hb4
                   have hg2 := cell_below hg2 hb4
                   clear q51g hb4 bV2))
              refine (wpIn_wide (n := 0)).1 ?_
              refine Many.region_many (Cb V4) mixed_ok (by kernel_rfl) (fun _ _ _ _ h => h) (fun s _ => Cb.start V4 s) ?_
              refine Many.lex_want (by rfl) (rdb (fun w hb => by (go_simp; try rfl))) ?_
              simp only [Act.put, List.setIfInBounds_toArray, List.set_cons_succ, List.set_cons_zero, Nat.reduceAdd]
              refine Many.lex_want (by rfl) (rdb (v := .pointer (some ⟨g, oo, none⟩)) (fun w hb => by (skip; go_simp; try rfl))) ?_
              simp only [Act.put, List.setIfInBounds_toArray, List.set_cons_succ, List.set_cons_zero, Nat.reduceAdd]
              refine Many.lex_want (by rfl) (rdb (v := .agg #[.int .i64 n, .int .i64 d]) (fun w hb => by (have c0 := cell_below hf1 hb; have c1 := cell_below hf2 hb; go_simp; try rfl))) ?_
              simp only [Act.put, List.setIfInBounds_toArray, List.set_cons_succ, List.set_cons_zero, Nat.reduceAdd]
              refine Many.lex_want (by rfl) (rdb (fun w hb => by (go_simp; try rfl))) ?_
              simp only [Act.put, List.setIfInBounds_toArray, List.set_cons_succ, List.set_cons_zero, Nat.reduceAdd]
              refine Many.lex_want (by rfl) (rdb (v := .pointer (some ⟨g, oo + 2, none⟩)) (fun w hb => by (skip; go_simp; try rfl))) ?_
              simp only [Act.put, List.setIfInBounds_toArray, List.set_cons_succ, List.set_cons_zero, Nat.reduceAdd]
              refine Many.lex_want (by rfl) (rdb (v := .agg #[.int .i64 m, .int .i64 q]) (fun w hb => by (have c0 := cell_below hg1 hb; have c1 := cell_below hg2 hb; go_simp; try rfl))) ?_
              simp only [Act.put, List.setIfInBounds_toArray, List.set_cons_succ, List.set_cons_zero, Nat.reduceAdd]
              refine Many.lex_want (by rfl) (clb q53a (fun w hb => by (go_simp; try rfl))) ?_
              simp only [Act.put, List.setIfInBounds_toArray, List.set_cons_succ, List.set_cons_zero, Nat.reduceAdd]
              refine Many.lex_nil fun s V5 hs hC => ?_
              have hC : Below V4.heap.size V4 V5 := hC
              have bV5 := bV4.trans (hC.mono bV4.size)
              have hf1 := cell_below hf1 hC
              have hf2 := cell_below hf2 hC
              have hg1 := cell_below hg1 hC
              have hg2 := cell_below hg2 hC
              clear hC hs
              go_wp2
              refine (wpIn_wide (n := 0)).1 ?_
              refine Many.region_many (Cb V5) mixed_ok (by kernel_rfl) (fun _ _ _ _ h => h) (fun s _ => Cb.start V5 s) ?_
              refine Many.lex_want (by rfl) (rdb (fun w hb => by (go_simp; try rfl))) ?_
              simp only [Act.put, List.setIfInBounds_toArray, List.set_cons_succ, List.set_cons_zero, Nat.reduceAdd]
              refine Many.lex_want (by rfl) (rdb (v := .pointer (some ⟨g, oo + 2, none⟩)) (fun w hb => by (skip; go_simp; try rfl))) ?_
              simp only [Act.put, List.setIfInBounds_toArray, List.set_cons_succ, List.set_cons_zero, Nat.reduceAdd]
              refine Many.lex_want (by rfl) (rdb (v := .agg #[.int .i64 m, .int .i64 q]) (fun w hb => by (have c0 := cell_below hg1 hb; have c1 := cell_below hg2 hb; go_simp; try rfl))) ?_
              simp only [Act.put, List.setIfInBounds_toArray, List.set_cons_succ, List.set_cons_zero, Nat.reduceAdd]
              refine Many.lex_want (by rfl) (rdb (fun w hb => by (go_simp; try rfl))) ?_
              simp only [Act.put, List.setIfInBounds_toArray, List.set_cons_succ, List.set_cons_zero, Nat.reduceAdd]
              refine Many.lex_want (by rfl) (rdb (v := .pointer (some ⟨g, oo, none⟩)) (fun w hb => by (skip; go_simp; try rfl))) ?_
              simp only [Act.put, List.setIfInBounds_toArray, List.set_cons_succ, List.set_cons_zero, Nat.reduceAdd]
              refine Many.lex_want (by rfl) (rdb (v := .agg #[.int .i64 n, .int .i64 d]) (fun w hb => by (have c0 := cell_below hf1 hb; have c1 := cell_below hf2 hb; go_simp; try rfl))) ?_
              simp only [Act.put, List.setIfInBounds_toArray, List.set_cons_succ, List.set_cons_zero, Nat.reduceAdd]
              refine Many.lex_want (by rfl) (clb q53b (fun w hb => by (go_simp; try rfl))) ?_
              simp only [Act.put, List.setIfInBounds_toArray, List.set_cons_succ, List.set_cons_zero, Nat.reduceAdd]
              refine Many.lex_nil fun s V6 hs hC => ?_
              have hC : Below V5.heap.size V5 V6 := hC
              have bV6 := bV5.trans (hC.mono bV5.size)
              clear hC hs
              go_wp2_with (go_at_call 25; refine (awake_any _).mono ?_; rintro e V9 ⟨rfl, hb9⟩)
              go_ret
              exact ⟨rfl, bV6.trans (hb9.mono bV6.size)⟩
end Go.Proofs.Ytbocmbhinjkjlaa
