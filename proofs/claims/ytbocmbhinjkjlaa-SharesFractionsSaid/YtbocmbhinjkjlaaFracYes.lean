/- The law SharesFractions: its walk. -/
import Derived.Test.YtbocmbhinjkjlaaRankMath
import Derived.Test.YtbocmbhinjkjlaaLawAgrees
set_option linter.unusedSimpArgs false
set_option linter.unusedVariables false
namespace Go.Proofs.Ytbocmbhinjkjlaa
open Go Go.Proofs Go.RowKit Go.Seq
set_option maxHeartbeats 32000000 in
set_option maxRecDepth 100000 in
theorem fractions_yes {v : Value} {l : Pts} {w : World} (q21 : Calls Try.prog 21 #[v] w fun e w' => ∃ v', e = .returned v' ∧ FracsO w' v' l ∧ Below w.heap.size w w') (hw : Wide l) (hD : okTs l = true) :
    Calls Try.prog 9 #[v] w fun e w' => e = .returned (.bool true) ∧ Below w.heap.size w w' := by
  have q49 := fun w v h => sum_yes (v := v) (w := w) h hw hD
  have q50 := fun w v h => sortedFn_yes (v := v) (w := w) h hw hD
  have q29 := fun w => refWhole_any 0 w
  obtain ⟨hl10, hall⟩ := of_decide_eq_true hD
  have hallK := Keep.mk hall
  have hwK := Keep.mk hw
  have hbd := Keep.mk (sumT_bound hall)
  have e0 : redV (sumT (l.take 0)) MM = fracV 0 1 := redV_zero (by decide)
  obtain ⟨s0, hs0⟩ : ∃ s, Keep (redN (sumT l) MM = s) := ⟨_, ⟨rfl⟩⟩
  obtain ⟨s1, hs1⟩ : ∃ s, Keep (redD (sumT l) MM = s) := ⟨_, ⟨rfl⟩⟩
  unfold redV at q49
  rw [hs0.out, hs1.out] at q49
  unfold redV at e0
  unfold fracV at q49 q29 e0
  clear hw hD hall
  go_enter Try.func9, Try.ntmps9
  go_wp2_with (first
    | (go_at_call 21; (with_reducible refine q21.mono ?_); rintro e w1 ⟨v1, rfl, hv1, hb1⟩)
    | (go_at_call 49; (with_reducible refine (q49 _ _ hv1).mono ?_); rintro e w2 ⟨rfl, hb2⟩
       obtain ⟨w3, hw3⟩ : ∃ w3, Keep (w2.alloc (.cells #[.int .i64 s0, .int .i64 s1] 37) = w3) := ⟨_, ⟨rfl⟩⟩
       have hb3 : Below w2.heap.size w2 w3 := by rw [← hw3.out]; exact (Below.refl _ _).alloc (Nat.le_refl _) _
       have o4 : Own2 w3 w2.heap.size (.int .i64 s0) (.int .i64 s1) := by rw [← hw3.out]; exact Own2.new _ _ _ _
       have hv3 := fracsO_below (fracsO_below hv1 hb2) hb3
       have hbw3 := hb1.trans ((hb2.mono hb1.size).trans (hb3.mono (Nat.le_trans hb1.size hb2.size)))
       clear hv1 hb2 hb3 hb1)
    | (go_at_call 50; (try rw [hw3.out]); (with_reducible refine (q50 _ _ hv3).mono ?_); rintro e w4 ⟨v2, o, rfl, ho4, hasc, hb4⟩
       have hv4 := fracsO_below hv3 hb4
       have o4 := o4.after hb4
       have hbw4 := hbw3.trans (hb4.mono hbw3.size)
       obtain ⟨A, cap, rfl, hcell⟩ := hv4
       obtain ⟨C, cb, rfl, hoell⟩ := ho4
       clear hv3 hb4 hbw3 q21 q49 q50)
    | (go_at_call 29; (with_reducible refine (q29 _).mono ?_); rintro e w5 ⟨rfl, hb5⟩
       obtain ⟨w6, hw6K⟩ : ∃ w6, Keep (w5.alloc (.cells #[.int .i64 0, .int .i64 1] 37) = w6) := ⟨_, ⟨rfl⟩⟩
       have hb6 : Below w5.heap.size w5 w6 := by rw [← hw6K.out]; exact (Below.refl _ _).alloc (Nat.le_refl _) _
       have b9 : BlkAt w6 w5.heap.size #[.int .i64 0, .int .i64 1] 37 := by rw [← hw6K.out]; exact BlkAt.new _ _ _
       have hcK : Keep (∀ k, k < l.length → ∃ g o, A = some ⟨g, o, none⟩ ∧ w5.cell? ⟨g, o + k * 2, none⟩ = some (.int .i64 (l.getD k (0, 0)).1) ∧ w5.cell? ⟨g, o + k * 2 + 1, none⟩ = some (.int .i64 (l.getD k (0, 0)).2)) := ⟨fun k hk => by
         obtain ⟨g, o, h1, h2, h3⟩ := hcell k hk
         exact ⟨g, o, h1, cell_below h2 hb5, cell_below h3 hb5⟩⟩
       have hoK : Keep (∀ k, k < o.length → ∃ g p, C = some ⟨g, p, none⟩ ∧ w5.cell? ⟨g, p + k * 2, none⟩ = some (.int .i64 (o.getD k (0, 0)).1) ∧ w5.cell? ⟨g, p + k * 2 + 1, none⟩ = some (.int .i64 (o.getD k (0, 0)).2)) := ⟨fun k hk => by
         obtain ⟨g, o, h1, h2, h3⟩ := hoell k hk
         exact ⟨g, o, h1, cell_below h2 hb5, cell_below h3 hb5⟩⟩
       have o4 := o4.after hb5
       have hbw5 := hbw4.trans (hb5.mono hbw4.size)
       clear hcell hoell hb5 hbw4 q29))
  try rw [hw6K.out]
  obtain ⟨G9, hG9⟩ : ∃ G9, Keep (w5.heap.size = G9) := ⟨_, ⟨rfl⟩⟩
  rw [hG9.out] at b9 hb6 ⊢
  go_loopw [10, 8] (fun i b wr => ∃ k : Nat, k ≤ l.length ∧ i = .int .i64 k ∧ b = .bool true ∧ Below w6.heap.size w6 wr) (fun i _ _ => l.length - (intOf i).toNat)
  case atStart => exact ⟨0, by omega, rfl, by simp; omega, Below.refl _ _⟩
  case round =>
    obtain ⟨k, hk, rfl, rfl, hbw⟩ := hrel
    have hbz := hbw.size
    by_cases hlt : k < l.length
    · obtain ⟨g, oo, rfl, hz1, hz2⟩ := hcK.out k hlt
      have h56 := hb6.trans (hbw.mono (by have := hb6.size; have := hG9.out; omega))
      rw [← hG9.out] at h56
      have hz1 := cell_below hz1 h56
      have hz2 := cell_below hz2 h56
      obtain ⟨i1, i2⟩ := hwK.out _ (getp hlt)
      have q51 := fun w => small_any i1 i2 w
      have hok := hallK.out _ (getp hlt)
      unfold okT at hok
      rw [hok] at q51
      unfold fracV at q51
      generalize l.getD k (0, 0) = z at *
      obtain ⟨n, d⟩ := z
      simp only at hz1 hz2 q51
      clear hok i1 i2 h56
      go_wp2_with (go_at_call 51; (with_reducible refine (q51 _).mono ?_); rintro e w7 ⟨rfl, hb7⟩)
      exact ⟨⟨k + 1, by omega, by go_num, rfl, hbw.trans (hb7.mono hbz)⟩, by simp [intOf]; omega⟩
    · obtain rfl : k = l.length := by omega
      have b9w := b9.after hbw
      have h5w := hb6.trans (hbw.mono (by have := hb6.size; have := hG9.out; omega))
      rw [← hG9.out] at h5w
      clear b9 hbw hb6 hbz hw6K
      go_wp2
      go_loopw [11] (fun i wq => ∃ k : Nat, k ≤ l.length ∧ i = .int .i64 k ∧ Below w5.heap.size w5 wq ∧ BlkAt wq G9 #[.int .i64 (redN (sumT (l.take k)) MM), .int .i64 (redD (sumT (l.take k)) MM)] 37) (fun i _ => l.length - (intOf i).toNat)
      case atStart =>
        refine ⟨0, by omega, rfl, h5w, ?_⟩
        injection e0 with e0
        rw [e0]; exact b9w
      case round =>
        obtain ⟨k, hk, rfl, hbw, b9k⟩ := hrel
        have hbz := hbw.size
        by_cases hlt : k < l.length
        · obtain ⟨g', o', rfl, hz1, hz2⟩ := hcK.out k hlt
          have hgl := lt_of_cell hz1
          have hz1 := cell_below hz1 hbw
          have hz2 := cell_below hz2 hbw
          have hs := hbd.out k
          have hzt := hallK.out _ (getp hlt)
          have ht := Keep.mk (sumT_take hlt)
          generalize l.getD k (0, 0) = z at hz1 hz2 hzt ht
          obtain ⟨n, d⟩ := z
          have qs := fun w => refAdd_step (S := sumT (l.take k)) (n := n) (d := d) ⟨by omega, by omega⟩ hzt w
          simp only at ht hz1 hz2
          rw [← ht.out] at qs
          obtain ⟨S1, hS1⟩ : ∃ S1, Keep (sumT (l.take (k + 1)) = S1) := ⟨_, ⟨rfl⟩⟩
          rw [hS1.out] at qs
          generalize sumT (l.take k) = S0 at *
          unfold redV fracV at qs
          obtain ⟨y0, hy0⟩ : ∃ y0, Keep (redN S1 MM = y0) := ⟨_, ⟨rfl⟩⟩
          obtain ⟨y1, hy1⟩ : ∃ y1, Keep (redD S1 MM = y1) := ⟨_, ⟨rfl⟩⟩
          rw [hy0.out, hy1.out] at qs
          generalize redN S0 MM = x0 at *
          generalize redD S0 MM = x1 at *
          clear ht hzt hs e0 b9w h5w
          have hg9g : g' ≠ G9 := by have := hG9.out; omega
          go_wp2
          refine (wpIn_wide (n := 0)).1 ?_
          refine Inv.region_inv (fun t act W => act = { tmps := #[v, undef, Value.bool false, Value.slice (some ⟨g', o', none⟩) (List.length l) cap, Value.pointer (some ⟨w2.heap.size, 0, none⟩), Value.int IntKind.i64 0, Value.slice C (List.length o) cb, Value.int IntKind.i64 0, Value.bool true, Value.pointer (some ⟨G9, 0, none⟩), Value.int IntKind.i64 (List.length l), Value.int IntKind.i64 k, undef, undef, undef, undef, undef, undef, undef, v, Value.slice (some ⟨g', o', none⟩) (List.length l) cap, Value.tuple #[Value.agg #[Value.int IntKind.i64 s0, Value.int IntKind.i64 s1], Value.int IntKind.i64 0], Value.slice (some ⟨g', o', none⟩) (List.length l) cap, Value.tuple #[Value.agg #[Value.int IntKind.i64 s0, Value.int IntKind.i64 s1], Value.int IntKind.i64 0], Value.agg #[Value.int IntKind.i64 s0, Value.int IntKind.i64 s1], Value.int IntKind.i64 0, Value.tuple #[Value.slice C (List.length o) cb, Value.int IntKind.i64 0], Value.slice (some ⟨g', o', none⟩) (List.length l) cap, Value.tuple #[Value.slice C (List.length o) cb, Value.int IntKind.i64 0], Value.slice C (List.length o) cb, Value.int IntKind.i64 0, Value.slice (some ⟨g', o', none⟩) (List.length l) cap, Value.int IntKind.i64 (List.length l), Value.bool (decide ((List.length l : Int) ≤ 10)), Value.agg #[Value.int IntKind.i64 0, Value.int IntKind.i64 1], Value.int IntKind.i64 (List.length l), Value.slice (some ⟨g', o', none⟩) (List.length l) cap, Value.int IntKind.i64 (List.length l), Value.bool false, u39, u40, u41, u42, u43, u44, u45, u46, u47, u48, Value.int IntKind.i64 k, Value.slice (some ⟨g', o', none⟩) (List.length l) cap, Value.int IntKind.i64 (List.length l), Value.bool true, Value.bool true, Value.bool true, Value.bool true, u56, u57, if t 0 = true then .agg #[.int .i64 x0, .int .i64 x1] else u58, if t 1 = true then Value.slice (some ⟨g', o', none⟩) (List.length l) cap else u59, if t 2 = true then .int .i64 k else u60, if t 3 = true then .pointer (some ⟨g', o' + k * 2, none⟩) else u61, if t 4 = true then .agg #[.int .i64 n, .int .i64 d] else u62, if t 5 = true then .agg #[.int .i64 y0, .int .i64 y1] else u63, undef, undef, undef, undef, undef, undef, undef, undef, undef, undef, undef, undef, undef, undef, undef, undef, undef, undef, undef, undef, undef, undef, undef, undef, undef, undef, undef, undef, undef, undef, undef, undef, undef, undef, undef, undef, undef, undef, undef, undef, undef, undef, undef, undef, undef, undef, undef, undef, undef, undef, undef, undef, undef, undef, undef, undef, undef, undef, undef, undef, undef, undef, undef, undef, undef, undef, undef, undef, undef, undef, undef, undef, undef, undef, undef, undef, undef, undef, undef, undef, undef, undef, undef, undef, undef, undef, undef, undef, undef, undef, undef, undef, undef, undef, undef, undef, undef, undef, undef, undef, undef, undef, undef, undef, undef, undef, undef, undef, undef, undef, undef, undef, undef, undef, undef, undef, undef, undef, undef, undef, undef, undef, undef, undef, undef, undef, undef, undef, undef, undef, undef, undef, undef, undef, undef, undef, undef, undef, undef, undef, undef, undef, undef, undef, undef, undef], defers := [] } ∧ C1K wr G9 6 5 0 #[.int .i64 x0, .int .i64 x1] #[.int .i64 y0, .int .i64 y1] 37 t  W) mixed_ok (by kernel_rfl) ?_ ?_ ?_
          · intro t hs
            refine ⟨?_, C1K.start b9k (hs 6 (by decide)) (hs 5 (by decide))⟩
            simp only [hs 0 (by decide), hs 1 (by decide), hs 2 (by decide), hs 3 (by decide), hs 4 (by decide), hs 5 (by decide), hs 6 (by decide), Bool.false_eq_true, if_false]
          · refine ⟨?_, ?_, ?_, ?_, ?_, ?_, ?_, trivial⟩
            · rintro t act W hun hdep hbeh ⟨rfl, hT⟩
              (try simp only [Nat.reduceAdd] at hun)
              obtain ⟨c50, c51, f50, f51⟩ := hT.own0 hun
              refine .inl ⟨by rfl, Inv.comesV_val (.agg #[.int .i64 x0, .int .i64 x1]) W (by (go_simp; try rfl)) ⟨by (simp only [Act.put, List.setIfInBounds_toArray, List.set_cons_succ, List.set_cons_zero, Manyd.upd, Nat.reduceAdd, Nat.reduceBEq, Bool.or_false, Bool.or_true, if_true]), C1K.keep (i := 0) (by decide) (by decide) hT⟩⟩
            · rintro t act W hun hdep hbeh ⟨rfl, hT⟩
              (try simp only [Nat.reduceAdd] at hun)
              refine .inl ⟨by rfl, Inv.comesV_val (Value.slice (some ⟨g', o', none⟩) (List.length l) cap) W (by (go_simp; try rfl)) ⟨by (simp only [Act.put, List.setIfInBounds_toArray, List.set_cons_succ, List.set_cons_zero, Manyd.upd, Nat.reduceAdd, Nat.reduceBEq, Bool.or_false, Bool.or_true, if_true]), C1K.keep (i := 1) (by decide) (by decide) hT⟩⟩
            · rintro t act W hun hdep hbeh ⟨rfl, hT⟩
              (try simp only [Nat.reduceAdd] at hun)
              refine .inl ⟨by rfl, Inv.comesV_val (.int .i64 k) W (by (go_simp; try rfl)) ⟨by (simp only [Act.put, List.setIfInBounds_toArray, List.set_cons_succ, List.set_cons_zero, Manyd.upd, Nat.reduceAdd, Nat.reduceBEq, Bool.or_false, Bool.or_true, if_true]), C1K.keep (i := 2) (by decide) (by decide) hT⟩⟩
            · rintro t act W hun hdep hbeh ⟨rfl, hT⟩
              (try simp only [Nat.reduceAdd] at hun)
              have h1 : t 1 = true := Inv.depB_mem 1 hdep (by rfl)
              have h2 : t 2 = true := Inv.depB_mem 2 hdep (by rfl)
              refine .inl ⟨by rfl, Inv.comesV_val (.pointer (some ⟨g', o' + k * 2, none⟩)) W (by (simp only [h1, h2, if_true]; go_simp; try rfl)) ⟨by (simp only [Act.put, List.setIfInBounds_toArray, List.set_cons_succ, List.set_cons_zero, Manyd.upd, Nat.reduceAdd, Nat.reduceBEq, Bool.or_false, Bool.or_true, if_true]), C1K.keep (i := 3) (by decide) (by decide) hT⟩⟩
            · rintro t act W hun hdep hbeh ⟨rfl, hT⟩
              (try simp only [Nat.reduceAdd] at hun)
              have h3 : t 3 = true := Inv.depB_mem 3 hdep (by rfl)
              have c1 := hT.kv.cell hz1 hg9g
              have c2 := hT.kv.cell hz2 hg9g
              refine .inl ⟨by rfl, Inv.comesV_val (.agg #[.int .i64 n, .int .i64 d]) W (by (simp only [h3, if_true]; go_simp; try rfl)) ⟨by (simp only [Act.put, List.setIfInBounds_toArray, List.set_cons_succ, List.set_cons_zero, Manyd.upd, Nat.reduceAdd, Nat.reduceBEq, Bool.or_false, Bool.or_true, if_true]), C1K.keep (i := 4) (by decide) (by decide) hT⟩⟩
            · rintro t act W hun hdep hbeh ⟨rfl, hT⟩
              (try simp only [Nat.reduceAdd] at hun)
              have h0 : t 0 = true := Inv.depB_mem 0 hdep (by rfl)
              have h4 : t 4 = true := Inv.depB_mem 4 hdep (by rfl)
              refine .inl ⟨by rfl, Inv.comesV_call 52 #[.agg #[.int .i64 x0, .int .i64 x1], .agg #[.int .i64 n, .int .i64 d]] W (by (simp only [h0, h4, if_true]; go_simp; try rfl)) ((qs W).mono fun e w5 hw5 => ⟨_, hw5.1, by (simp only [Act.put, List.setIfInBounds_toArray, List.set_cons_succ, List.set_cons_zero, Manyd.upd, Nat.reduceAdd, Nat.reduceBEq, Bool.or_false, Bool.or_true, if_true]), C1K.mid h0 (by decide) (hT.after hw5.2)⟩)⟩
            · rintro t act W hun hdep hbeh ⟨rfl, hT⟩
              (try simp only [Nat.reduceAdd] at hun)
              have h5 : t 5 = true := Inv.depB_mem 5 hdep (by rfl)
              obtain ⟨c50, c51, f50, f51⟩ := hT.own hun
              refine .inl ⟨by rfl, Inv.comesV_skip ((W.setCell ⟨G9, 0, none⟩ (.int .i64 y0)).setCell ⟨G9, 1, none⟩ (.int .i64 y1)) (by (simp only [h5, if_true]; go_simp; try rfl)) ⟨by (simp only [Act.put, List.setIfInBounds_toArray, List.set_cons_succ, List.set_cons_zero, Manyd.upd, Nat.reduceAdd, Nat.reduceBEq, Bool.or_false, Bool.or_true, if_true]), C1K.set h5 hun hT⟩⟩
          rintro t a' W1 hs ⟨rfl, hT⟩
          simp only [hs 0 (by decide), hs 1 (by decide), hs 2 (by decide), hs 3 (by decide), hs 4 (by decide), hs 5 (by decide), hs 6 (by decide), if_true]
          have hV := hT.kv
          have hB := hT.bv
          rw [if_pos (hs 6 (by decide))] at hB
          have hbw10 := hbw.trans (hV.below (Nat.le_of_eq hG9.out) hbz)
          clear hT hs
          go_wp2
          refine ⟨⟨k + 1, by omega, by go_num, hbw10, ?_⟩, by simp [intOf]; omega⟩
          rw [hS1.out, hy0.out, hy1.out]
          exact hB
        · obtain rfl : k = l.length := by omega
          rw [List.take_length, hs0.out, hs1.out] at b9k
          have o4w := o4.after hbw
          have o9w := Own2.of b9k
          have hbW := hbw5.trans (hbw.mono hbw5.size)
          have hol : (o.length : Int) = (l.length : Int) := by rw [hasc.perm.length_eq]
          have e1 := eqS s0 s1
          have hcK2 : Keep (∀ k, k < l.length → ∃ g o, A = some ⟨g, o, none⟩ ∧ wr.cell? ⟨g, o + k * 2, none⟩ = some (.int .i64 (l.getD k (0, 0)).1) ∧ wr.cell? ⟨g, o + k * 2 + 1, none⟩ = some (.int .i64 (l.getD k (0, 0)).2)) := ⟨fun k hk => by
            obtain ⟨g, o, h1, h2, h3⟩ := hcK.out k hk
            exact ⟨g, o, h1, cell_below h2 hbw, cell_below h3 hbw⟩⟩
          have hoK2 : Keep (∀ k, k < o.length → ∃ g p, C = some ⟨g, p, none⟩ ∧ wr.cell? ⟨g, p + k * 2, none⟩ = some (.int .i64 (o.getD k (0, 0)).1) ∧ wr.cell? ⟨g, p + k * 2 + 1, none⟩ = some (.int .i64 (o.getD k (0, 0)).2)) := ⟨fun k hk => by
            obtain ⟨g, o, h1, h2, h3⟩ := hoK.out k hk
            exact ⟨g, o, h1, cell_below h2 hbw, cell_below h3 hbw⟩⟩
          obtain ⟨W0, hW0⟩ : ∃ W0, Keep (wr = W0) := ⟨_, ⟨rfl⟩⟩
          obtain ⟨c40, c41, f40, f41⟩ := o4w
          obtain ⟨c90, c91, f90, f91⟩ := o9w
          clear hcK hoK hbw b9k h5w b9w e0 hbz hs0 hs1 hbw5 o4 hbd
          go_wp2
          clear c40 c41 f40 f41 c90 c91 f90 f91 e1
          have hbWs := hbW.size
          rw [hW0.out] at hcK2 hoK2 hbW hbWs
          rw [hW0.out]
          go_loopw [12] (fun i wq => ∃ k : Nat, k ≤ o.length ∧ i = .int .i64 k ∧ Below W0.heap.size W0 wq) (fun i _ => o.length - (intOf i).toNat)
          case atStart => exact ⟨0, by omega, rfl, Below.refl _ _⟩
          case round =>
            obtain ⟨k, hk, rfl, hbw⟩ := hrel
            by_cases hlt : k < o.length
            · have hrank := Keep.mk (rank hasc hallK.out hlt)
              have hyok : Keep (okT (o.getD k (0, 0)) = true) := ⟨hallK.out _ (hasc.perm.mem_iff.1 (getp hlt))⟩
              have hyc := Keep.mk (hoK2.out k hlt)
              generalize o.getD k (0, 0) = y at hrank hyok hyc
              obtain ⟨N, hN⟩ : ∃ N, Keep (o.length = N) := ⟨_, ⟨rfl⟩⟩
              go_wp2
              go_loopw [13, 14, 15] (fun a b i wq => ∃ j : Nat, j ≤ l.length ∧ i = .int .i64 j ∧ a = .int .i64 ((l.take j).countP (lessP y) : Nat) ∧ b = .int .i64 ((l.take j).countP (sameP y) : Nat) ∧ Below W0.heap.size W0 wq) (fun _ _ i _ => l.length - (intOf i).toNat)
              case atStart => exact ⟨0, by omega, rfl, rfl, rfl, hbw⟩
              case round =>
                obtain ⟨j, hj, rfl, rfl, rfl, hbj⟩ := hrel
                have hjz := hbj.size
                by_cases hltj : j < l.length
                · obtain ⟨gx, ox, rfl, hx1, hx2⟩ := hcK2.out j hltj
                  obtain ⟨gy, oy, rfl, hy1, hy2⟩ := hyc.out
                  have hx1 := cell_below hx1 hbj
                  have hx2 := cell_below hx2 hbj
                  have hy1 := cell_below hy1 hbj
                  have hy2 := cell_below hy2 hbj
                  have hL := Keep.mk (countP_take (p := lessP y) hltj)
                  have hM := Keep.mk (countP_take (p := sameP y) hltj)
                  have cL := countP_le_length (lessP y) (l.take j)
                  have cM := countP_le_length (sameP y) (l.take j)
                  rw [List.length_take] at cL cM
                  have hxok := hallK.out _ (getp hltj)
                  have hmul := okT_mul hxok hyok.out
                  have hmul2 := okT_mul hyok.out hxok
                  obtain ⟨b1, b2, b3, b4, _⟩ := okT_bounds hyok.out
                  have hyo := hyok.out
                  generalize l.getD j (0, 0) = x at *
                  obtain ⟨cl, hcl⟩ : ∃ c, Keep ((l.take j).countP (lessP y) = c) := ⟨_, ⟨rfl⟩⟩
                  obtain ⟨cs, hcs⟩ : ∃ c, Keep ((l.take j).countP (sameP y) = c) := ⟨_, ⟨rfl⟩⟩
                  rw [hcl.out] at cL hL ⊢
                  rw [hcs.out] at cM hM ⊢
                  obtain ⟨n, d⟩ := x
                  obtain ⟨m, q⟩ := y
                  simp only at *
                  have w1' : IntKind.i64.wrap ((cl : Int) + 1) = (cl : Int) + 1 := IntWalk.i64_in _ (by omega)
                  have w2' : IntKind.i64.wrap ((cs : Int) + 1) = (cs : Int) + 1 := IntWalk.i64_in _ (by omega)
                  have q51 := fun w => small_any (n := m) (d := q) ⟨by omega, by omega⟩ ⟨by omega, by omega⟩ w
                  have q53 := fun w => refLess_any (a := n) (b := d) (c := m) (d := q) hmul hmul2 w
                  rw [show withinB m q (-1000000) 1000000 20 = true from hyo] at q51
                  have e1 := eq37 n d m q
                  unfold fracV at q51 q53
                  cases hsame : sameP (m, q) (n, d) with
                  | true =>
                    have hs' : (n == m && d == q) = true := hsame
                    rw [hs'] at e1
                    have hless : lessP (m, q) (n, d) = false := by unfold lessP; rw [hsame]; rfl
                    rw [hsame, if_pos rfl] at hM
                    rw [hless, if_neg (by decide)] at hL
                    clear hmul hmul2 hs' hless hsame hyo b1 b2 b3 b4 hxok
                    go_wp2
                    refine (wpIn_wide (n := 0)).1 ?_
                    refine Many.region_many (Cb wr) mixed_ok (by kernel_rfl) (fun _ _ _ _ h => h) (fun s _ => Cb.start wr s) ?_
                    refine Many.lex_want (by rfl) (rdb (fun w hb => by (go_simp; try rfl))) ?_
                    simp only [Act.put, List.setIfInBounds_toArray, List.set_cons_succ, List.set_cons_zero, Nat.reduceAdd]
                    refine Many.lex_want (by rfl) (rdb (fun w hb => by (go_simp; try rfl))) ?_
                    simp only [Act.put, List.setIfInBounds_toArray, List.set_cons_succ, List.set_cons_zero, Nat.reduceAdd]
                    refine Many.lex_want (by rfl) (rdb (v := .pointer (some ⟨gx, ox + j * 2, none⟩)) (fun w hb => by (skip; go_simp; try rfl))) ?_
                    simp only [Act.put, List.setIfInBounds_toArray, List.set_cons_succ, List.set_cons_zero, Nat.reduceAdd]
                    refine Many.lex_want (by rfl) (rdb (v := .agg #[.int .i64 n, .int .i64 d]) (fun w hb => by (have c0 := cell_below hx1 hb; have c1 := cell_below hx2 hb; go_simp; try rfl))) ?_
                    simp only [Act.put, List.setIfInBounds_toArray, List.set_cons_succ, List.set_cons_zero, Nat.reduceAdd]
                    refine Many.lex_want (by rfl) (rdb (fun w hb => by (go_simp; try rfl))) ?_
                    simp only [Act.put, List.setIfInBounds_toArray, List.set_cons_succ, List.set_cons_zero, Nat.reduceAdd]
                    refine Many.lex_want (by rfl) (rdb (fun w hb => by (go_simp; try rfl))) ?_
                    simp only [Act.put, List.setIfInBounds_toArray, List.set_cons_succ, List.set_cons_zero, Nat.reduceAdd]
                    refine Many.lex_want (by rfl) (rdb (v := .pointer (some ⟨gy, oy + k * 2, none⟩)) (fun w hb => by (skip; go_simp; try rfl))) ?_
                    simp only [Act.put, List.setIfInBounds_toArray, List.set_cons_succ, List.set_cons_zero, Nat.reduceAdd]
                    refine Many.lex_want (by rfl) (rdb (v := .agg #[.int .i64 m, .int .i64 q]) (fun w hb => by (have c0 := cell_below hy1 hb; have c1 := cell_below hy2 hb; go_simp; try rfl))) ?_
                    simp only [Act.put, List.setIfInBounds_toArray, List.set_cons_succ, List.set_cons_zero, Nat.reduceAdd]
                    refine Many.lex_want (by rfl) (rdb (v := .bool true) (fun w hb => by (have e := e1; go_simp; try rfl))) ?_
                    simp only [Act.put, List.setIfInBounds_toArray, List.set_cons_succ, List.set_cons_zero, Nat.reduceAdd]
                    refine Many.lex_nil fun s V1 hs hC => ?_
                    have hC : Below wr.heap.size wr V1 := hC
                    have hbn := hbj.trans (hC.mono hjz)
                    clear hC hs
                    go_wp2
                    exact ⟨⟨j + 1, by omega, by go_num, by rw [hL.out]; simp, by rw [hM.out]; go_num, hbn⟩, by simp [intOf]; omega⟩
                  | false =>
                    have hs' : (n == m && d == q) = false := hsame
                    rw [hs'] at e1
                    rw [hsame, if_neg (by decide)] at hM
                    have hless : lessP (m, q) (n, d) = decide (n * q < m * d) := by unfold lessP; rw [hsame]; rfl
                    rw [hless] at hL
                    cases hlss : decide (n * q < m * d) with
                    | true =>
                      rw [hlss] at q53
                      rw [hlss, if_pos rfl] at hL
                      clear hmul hmul2 hs' hless hsame hyo b1 b2 b3 b4 hxok hlss
                      go_wp2
                      refine (wpIn_wide (n := 0)).1 ?_
                      refine Many.region_many (Cb wr) mixed_ok (by kernel_rfl) (fun _ _ _ _ h => h) (fun s _ => Cb.start wr s) ?_
                      refine Many.lex_want (by rfl) (rdb (fun w hb => by (go_simp; try rfl))) ?_
                      simp only [Act.put, List.setIfInBounds_toArray, List.set_cons_succ, List.set_cons_zero, Nat.reduceAdd]
                      refine Many.lex_want (by rfl) (rdb (fun w hb => by (go_simp; try rfl))) ?_
                      simp only [Act.put, List.setIfInBounds_toArray, List.set_cons_succ, List.set_cons_zero, Nat.reduceAdd]
                      refine Many.lex_want (by rfl) (rdb (v := .pointer (some ⟨gx, ox + j * 2, none⟩)) (fun w hb => by (skip; go_simp; try rfl))) ?_
                      simp only [Act.put, List.setIfInBounds_toArray, List.set_cons_succ, List.set_cons_zero, Nat.reduceAdd]
                      refine Many.lex_want (by rfl) (rdb (v := .agg #[.int .i64 n, .int .i64 d]) (fun w hb => by (have c0 := cell_below hx1 hb; have c1 := cell_below hx2 hb; go_simp; try rfl))) ?_
                      simp only [Act.put, List.setIfInBounds_toArray, List.set_cons_succ, List.set_cons_zero, Nat.reduceAdd]
                      refine Many.lex_want (by rfl) (rdb (fun w hb => by (go_simp; try rfl))) ?_
                      simp only [Act.put, List.setIfInBounds_toArray, List.set_cons_succ, List.set_cons_zero, Nat.reduceAdd]
                      refine Many.lex_want (by rfl) (rdb (fun w hb => by (go_simp; try rfl))) ?_
                      simp only [Act.put, List.setIfInBounds_toArray, List.set_cons_succ, List.set_cons_zero, Nat.reduceAdd]
                      refine Many.lex_want (by rfl) (rdb (v := .pointer (some ⟨gy, oy + k * 2, none⟩)) (fun w hb => by (skip; go_simp; try rfl))) ?_
                      simp only [Act.put, List.setIfInBounds_toArray, List.set_cons_succ, List.set_cons_zero, Nat.reduceAdd]
                      refine Many.lex_want (by rfl) (rdb (v := .agg #[.int .i64 m, .int .i64 q]) (fun w hb => by (have c0 := cell_below hy1 hb; have c1 := cell_below hy2 hb; go_simp; try rfl))) ?_
                      simp only [Act.put, List.setIfInBounds_toArray, List.set_cons_succ, List.set_cons_zero, Nat.reduceAdd]
                      refine Many.lex_want (by rfl) (rdb (v := .bool false) (fun w hb => by (have e := e1; go_simp; try rfl))) ?_
                      simp only [Act.put, List.setIfInBounds_toArray, List.set_cons_succ, List.set_cons_zero, Nat.reduceAdd]
                      refine Many.lex_nil fun s V1 hs hC => ?_
                      have hC : Below wr.heap.size wr V1 := hC
                      have hbn := hbj.trans (hC.mono hjz)
                      have hx1 := cell_below hx1 hC
                      have hx2 := cell_below hx2 hC
                      have hy1 := cell_below hy1 hC
                      have hy2 := cell_below hy2 hC
                      clear hC hs
                      go_wp2
                      refine (wpIn_wide (n := 0)).1 ?_
                      refine Many.region_many (Cb V1) mixed_ok (by kernel_rfl) (fun _ _ _ _ h => h) (fun s _ => Cb.start V1 s) ?_
                      refine Many.lex_want (by rfl) (rdb (fun w hb => by (go_simp; try rfl))) ?_
                      simp only [Act.put, List.setIfInBounds_toArray, List.set_cons_succ, List.set_cons_zero, Nat.reduceAdd]
                      refine Many.lex_want (by rfl) (rdb (fun w hb => by (go_simp; try rfl))) ?_
                      simp only [Act.put, List.setIfInBounds_toArray, List.set_cons_succ, List.set_cons_zero, Nat.reduceAdd]
                      refine Many.lex_want (by rfl) (rdb (v := .pointer (some ⟨gy, oy + k * 2, none⟩)) (fun w hb => by (skip; go_simp; try rfl))) ?_
                      simp only [Act.put, List.setIfInBounds_toArray, List.set_cons_succ, List.set_cons_zero, Nat.reduceAdd]
                      refine Many.lex_want (by rfl) (rdb (v := .agg #[.int .i64 m, .int .i64 q]) (fun w hb => by (have c0 := cell_below hy1 hb; have c1 := cell_below hy2 hb; go_simp; try rfl))) ?_
                      simp only [Act.put, List.setIfInBounds_toArray, List.set_cons_succ, List.set_cons_zero, Nat.reduceAdd]
                      refine Many.lex_want (by rfl) (clb q51 (fun w hb => by (go_simp; try rfl))) ?_
                      simp only [Act.put, List.setIfInBounds_toArray, List.set_cons_succ, List.set_cons_zero, Nat.reduceAdd]
                      refine Many.lex_want (by rfl) (rdb (v := .bool true) (fun w hb => by (skip; go_simp; try rfl))) ?_
                      simp only [Act.put, List.setIfInBounds_toArray, List.set_cons_succ, List.set_cons_zero, Nat.reduceAdd]
                      refine Many.lex_want (by rfl) (rdb (fun w hb => by (go_simp; try rfl))) ?_
                      simp only [Act.put, List.setIfInBounds_toArray, List.set_cons_succ, List.set_cons_zero, Nat.reduceAdd]
                      refine Many.lex_want (by rfl) (rdb (fun w hb => by (go_simp; try rfl))) ?_
                      simp only [Act.put, List.setIfInBounds_toArray, List.set_cons_succ, List.set_cons_zero, Nat.reduceAdd]
                      refine Many.lex_want (by rfl) (rdb (v := .pointer (some ⟨gx, ox + j * 2, none⟩)) (fun w hb => by (skip; go_simp; try rfl))) ?_
                      simp only [Act.put, List.setIfInBounds_toArray, List.set_cons_succ, List.set_cons_zero, Nat.reduceAdd]
                      refine Many.lex_want (by rfl) (rdb (v := .agg #[.int .i64 n, .int .i64 d]) (fun w hb => by (have c0 := cell_below hx1 hb; have c1 := cell_below hx2 hb; go_simp; try rfl))) ?_
                      simp only [Act.put, List.setIfInBounds_toArray, List.set_cons_succ, List.set_cons_zero, Nat.reduceAdd]
                      refine Many.lex_want (by rfl) (rdb (fun w hb => by (go_simp; try rfl))) ?_
                      simp only [Act.put, List.setIfInBounds_toArray, List.set_cons_succ, List.set_cons_zero, Nat.reduceAdd]
                      refine Many.lex_want (by rfl) (rdb (fun w hb => by (go_simp; try rfl))) ?_
                      simp only [Act.put, List.setIfInBounds_toArray, List.set_cons_succ, List.set_cons_zero, Nat.reduceAdd]
                      refine Many.lex_want (by rfl) (rdb (v := .pointer (some ⟨gy, oy + k * 2, none⟩)) (fun w hb => by (skip; go_simp; try rfl))) ?_
                      simp only [Act.put, List.setIfInBounds_toArray, List.set_cons_succ, List.set_cons_zero, Nat.reduceAdd]
                      refine Many.lex_want (by rfl) (rdb (v := .agg #[.int .i64 m, .int .i64 q]) (fun w hb => by (have c0 := cell_below hy1 hb; have c1 := cell_below hy2 hb; go_simp; try rfl))) ?_
                      simp only [Act.put, List.setIfInBounds_toArray, List.set_cons_succ, List.set_cons_zero, Nat.reduceAdd]
                      refine Many.lex_want (by rfl) (clb q53 (fun w hb => by (go_simp; try rfl))) ?_
                      simp only [Act.put, List.setIfInBounds_toArray, List.set_cons_succ, List.set_cons_zero, Nat.reduceAdd]
                      refine Many.lex_want (by rfl) (rdb (v := .bool true) (fun w hb => by (skip; go_simp; try rfl))) ?_
                      simp only [Act.put, List.setIfInBounds_toArray, List.set_cons_succ, List.set_cons_zero, Nat.reduceAdd]
                      refine Many.lex_nil fun s V2 hs hC => ?_
                      have hC : Below V1.heap.size V1 V2 := hC
                      have hbn := hbn.trans (hC.mono hbn.size)
                      clear hC hs
                      go_wp2
                      exact ⟨⟨j + 1, by omega, by go_num, by rw [hL.out]; go_num, by rw [hM.out]; simp, hbn⟩, by simp [intOf]; omega⟩
                    | false =>
                      rw [hlss] at q53
                      rw [hlss, if_neg (by decide)] at hL
                      clear hmul hmul2 hs' hless hsame hyo b1 b2 b3 b4 hxok hlss
                      go_wp2
                      refine (wpIn_wide (n := 0)).1 ?_
                      refine Many.region_many (Cb wr) mixed_ok (by kernel_rfl) (fun _ _ _ _ h => h) (fun s _ => Cb.start wr s) ?_
                      refine Many.lex_want (by rfl) (rdb (fun w hb => by (go_simp; try rfl))) ?_
                      simp only [Act.put, List.setIfInBounds_toArray, List.set_cons_succ, List.set_cons_zero, Nat.reduceAdd]
                      refine Many.lex_want (by rfl) (rdb (fun w hb => by (go_simp; try rfl))) ?_
                      simp only [Act.put, List.setIfInBounds_toArray, List.set_cons_succ, List.set_cons_zero, Nat.reduceAdd]
                      refine Many.lex_want (by rfl) (rdb (v := .pointer (some ⟨gx, ox + j * 2, none⟩)) (fun w hb => by (skip; go_simp; try rfl))) ?_
                      simp only [Act.put, List.setIfInBounds_toArray, List.set_cons_succ, List.set_cons_zero, Nat.reduceAdd]
                      refine Many.lex_want (by rfl) (rdb (v := .agg #[.int .i64 n, .int .i64 d]) (fun w hb => by (have c0 := cell_below hx1 hb; have c1 := cell_below hx2 hb; go_simp; try rfl))) ?_
                      simp only [Act.put, List.setIfInBounds_toArray, List.set_cons_succ, List.set_cons_zero, Nat.reduceAdd]
                      refine Many.lex_want (by rfl) (rdb (fun w hb => by (go_simp; try rfl))) ?_
                      simp only [Act.put, List.setIfInBounds_toArray, List.set_cons_succ, List.set_cons_zero, Nat.reduceAdd]
                      refine Many.lex_want (by rfl) (rdb (fun w hb => by (go_simp; try rfl))) ?_
                      simp only [Act.put, List.setIfInBounds_toArray, List.set_cons_succ, List.set_cons_zero, Nat.reduceAdd]
                      refine Many.lex_want (by rfl) (rdb (v := .pointer (some ⟨gy, oy + k * 2, none⟩)) (fun w hb => by (skip; go_simp; try rfl))) ?_
                      simp only [Act.put, List.setIfInBounds_toArray, List.set_cons_succ, List.set_cons_zero, Nat.reduceAdd]
                      refine Many.lex_want (by rfl) (rdb (v := .agg #[.int .i64 m, .int .i64 q]) (fun w hb => by (have c0 := cell_below hy1 hb; have c1 := cell_below hy2 hb; go_simp; try rfl))) ?_
                      simp only [Act.put, List.setIfInBounds_toArray, List.set_cons_succ, List.set_cons_zero, Nat.reduceAdd]
                      refine Many.lex_want (by rfl) (rdb (v := .bool false) (fun w hb => by (have e := e1; go_simp; try rfl))) ?_
                      simp only [Act.put, List.setIfInBounds_toArray, List.set_cons_succ, List.set_cons_zero, Nat.reduceAdd]
                      refine Many.lex_nil fun s V1 hs hC => ?_
                      have hC : Below wr.heap.size wr V1 := hC
                      have hbn := hbj.trans (hC.mono hjz)
                      have hx1 := cell_below hx1 hC
                      have hx2 := cell_below hx2 hC
                      have hy1 := cell_below hy1 hC
                      have hy2 := cell_below hy2 hC
                      clear hC hs
                      go_wp2
                      refine (wpIn_wide (n := 0)).1 ?_
                      refine Many.region_many (Cb V1) mixed_ok (by kernel_rfl) (fun _ _ _ _ h => h) (fun s _ => Cb.start V1 s) ?_
                      refine Many.lex_want (by rfl) (rdb (fun w hb => by (go_simp; try rfl))) ?_
                      simp only [Act.put, List.setIfInBounds_toArray, List.set_cons_succ, List.set_cons_zero, Nat.reduceAdd]
                      refine Many.lex_want (by rfl) (rdb (fun w hb => by (go_simp; try rfl))) ?_
                      simp only [Act.put, List.setIfInBounds_toArray, List.set_cons_succ, List.set_cons_zero, Nat.reduceAdd]
                      refine Many.lex_want (by rfl) (rdb (v := .pointer (some ⟨gy, oy + k * 2, none⟩)) (fun w hb => by (skip; go_simp; try rfl))) ?_
                      simp only [Act.put, List.setIfInBounds_toArray, List.set_cons_succ, List.set_cons_zero, Nat.reduceAdd]
                      refine Many.lex_want (by rfl) (rdb (v := .agg #[.int .i64 m, .int .i64 q]) (fun w hb => by (have c0 := cell_below hy1 hb; have c1 := cell_below hy2 hb; go_simp; try rfl))) ?_
                      simp only [Act.put, List.setIfInBounds_toArray, List.set_cons_succ, List.set_cons_zero, Nat.reduceAdd]
                      refine Many.lex_want (by rfl) (clb q51 (fun w hb => by (go_simp; try rfl))) ?_
                      simp only [Act.put, List.setIfInBounds_toArray, List.set_cons_succ, List.set_cons_zero, Nat.reduceAdd]
                      refine Many.lex_want (by rfl) (rdb (v := .bool true) (fun w hb => by (skip; go_simp; try rfl))) ?_
                      simp only [Act.put, List.setIfInBounds_toArray, List.set_cons_succ, List.set_cons_zero, Nat.reduceAdd]
                      refine Many.lex_want (by rfl) (rdb (fun w hb => by (go_simp; try rfl))) ?_
                      simp only [Act.put, List.setIfInBounds_toArray, List.set_cons_succ, List.set_cons_zero, Nat.reduceAdd]
                      refine Many.lex_want (by rfl) (rdb (fun w hb => by (go_simp; try rfl))) ?_
                      simp only [Act.put, List.setIfInBounds_toArray, List.set_cons_succ, List.set_cons_zero, Nat.reduceAdd]
                      refine Many.lex_want (by rfl) (rdb (v := .pointer (some ⟨gx, ox + j * 2, none⟩)) (fun w hb => by (skip; go_simp; try rfl))) ?_
                      simp only [Act.put, List.setIfInBounds_toArray, List.set_cons_succ, List.set_cons_zero, Nat.reduceAdd]
                      refine Many.lex_want (by rfl) (rdb (v := .agg #[.int .i64 n, .int .i64 d]) (fun w hb => by (have c0 := cell_below hx1 hb; have c1 := cell_below hx2 hb; go_simp; try rfl))) ?_
                      simp only [Act.put, List.setIfInBounds_toArray, List.set_cons_succ, List.set_cons_zero, Nat.reduceAdd]
                      refine Many.lex_want (by rfl) (rdb (fun w hb => by (go_simp; try rfl))) ?_
                      simp only [Act.put, List.setIfInBounds_toArray, List.set_cons_succ, List.set_cons_zero, Nat.reduceAdd]
                      refine Many.lex_want (by rfl) (rdb (fun w hb => by (go_simp; try rfl))) ?_
                      simp only [Act.put, List.setIfInBounds_toArray, List.set_cons_succ, List.set_cons_zero, Nat.reduceAdd]
                      refine Many.lex_want (by rfl) (rdb (v := .pointer (some ⟨gy, oy + k * 2, none⟩)) (fun w hb => by (skip; go_simp; try rfl))) ?_
                      simp only [Act.put, List.setIfInBounds_toArray, List.set_cons_succ, List.set_cons_zero, Nat.reduceAdd]
                      refine Many.lex_want (by rfl) (rdb (v := .agg #[.int .i64 m, .int .i64 q]) (fun w hb => by (have c0 := cell_below hy1 hb; have c1 := cell_below hy2 hb; go_simp; try rfl))) ?_
                      simp only [Act.put, List.setIfInBounds_toArray, List.set_cons_succ, List.set_cons_zero, Nat.reduceAdd]
                      refine Many.lex_want (by rfl) (clb q53 (fun w hb => by (go_simp; try rfl))) ?_
                      simp only [Act.put, List.setIfInBounds_toArray, List.set_cons_succ, List.set_cons_zero, Nat.reduceAdd]
                      refine Many.lex_want (by rfl) (rdb (v := .bool false) (fun w hb => by (skip; go_simp; try rfl))) ?_
                      simp only [Act.put, List.setIfInBounds_toArray, List.set_cons_succ, List.set_cons_zero, Nat.reduceAdd]
                      refine Many.lex_nil fun s V2 hs hC => ?_
                      have hC : Below V1.heap.size V1 V2 := hC
                      have hbn := hbn.trans (hC.mono hbn.size)
                      clear hC hs
                      go_wp2
                      exact ⟨⟨j + 1, by omega, by go_num, by rw [hL.out]; simp, by rw [hM.out]; simp, hbn⟩, by simp [intOf]; omega⟩
                · obtain rfl : j = l.length := by omega
                  rw [List.take_length]
                  obtain ⟨rk1, rk2⟩ := hrank.out
                  have cL := countP_le_length (lessP y) l
                  have cM := countP_le_length (sameP y) l
                  generalize l.countP (lessP y) = cl at *
                  generalize l.countP (sameP y) = cs at *
                  have r1 : ¬ (k : Int) < (cl : Int) := by omega
                  have r2 : ¬ ((cl : Int) + (cs : Int)) ≤ (k : Int) := by omega
                  have w1' : IntKind.i64.wrap ((cl : Int) + (cs : Int)) = (cl : Int) + (cs : Int) := IntWalk.i64_in _ (by omega)
                  go_wp2
                  exact ⟨⟨k + 1, by omega, by go_num, hbj⟩, by simp [intOf]; omega⟩
            · obtain rfl : k = o.length := by omega
              have hbT := hbW.trans (hbw.mono hbWs)
              by_cases h2 : l.length < 2
              · have h2' : (l.length : Int) < 2 := by omega
                go_wp2_with (go_at_call 25; refine (awake_any _).mono ?_; rintro e V9 ⟨rfl, hb9⟩)
                go_ret
                exact ⟨rfl, hbT.trans (hb9.mono hbT.size)⟩
              have h2' : ¬ (l.length : Int) < 2 := by omega
              have h01 : 0 < l.length := by omega
              have h11 : 1 < l.length := by omega
              have h11' : ¬ (l.length : Int) ≤ 1 := by omega
              obtain ⟨g, oo, rfl, hf1, hf2⟩ := hcK2.out 0 h01
              obtain ⟨g', oo', eg, hg1, hg2⟩ := hcK2.out 1 h11
              obtain ⟨rfl, rfl⟩ : g = g' ∧ oo = oo' := by simpa using eg
              have hf1 := cell_below hf1 hbw
              have hf2 := cell_below hf2 hbw
              have hg1 := cell_below hg1 hbw
              have hg2 := cell_below hg2 hbw
              rw [Nat.zero_mul, Nat.add_zero] at hf1 hf2
              rw [Nat.one_mul] at hg1 hg2
              have hfo := hallK.out _ (getp h01)
              have hgo := hallK.out _ (getp h11)
              generalize l.getD 0 (0, 0) = f at *
              generalize l.getD 1 (0, 0) = gg at *
              have q54 := fun w => compareFn_yes hfo hgo w
              have hm1 := okT_mul hfo hgo
              have hm2 := okT_mul hgo hfo
              obtain ⟨n, d⟩ := f
              obtain ⟨m, q⟩ := gg
              simp only at *
              obtain ⟨a1, a2, a3, a4, _⟩ := okT_bounds hfo
              obtain ⟨b1, b2, b3, b4, _⟩ := okT_bounds hgo
              simp only at a1 a2 a3 a4 b1 b2 b3 b4
              have q51f := fun w => small_any (n := n) (d := d) ⟨by omega, by omega⟩ ⟨by omega, by omega⟩ w
              have q51g := fun w => small_any (n := m) (d := q) ⟨by omega, by omega⟩ ⟨by omega, by omega⟩ w
              rw [show withinB n d (-1000000) 1000000 20 = true from hfo] at q51f
              rw [show withinB m q (-1000000) 1000000 20 = true from hgo] at q51g
              have q53a := fun w => refLess_any (a := n) (b := d) (c := m) (d := q) hm1 hm2 w
              have q53b := fun w => refLess_any (a := m) (b := q) (c := n) (d := d) hm2 hm1 w
              unfold fracV at q51f q51g q53a q53b q54
              clear a1 a2 a3 a4 b1 b2 b3 b4 hfo hgo hm1 hm2 eg hcK2 hoK2 hallK hwK
              by_cases k1 : n * q < m * d
              · have hR : cmpI (n * q) (m * d) = -1 := by unfold cmpI; rw [if_pos k1]
                rw [hR] at q54
                rw [decide_eq_true k1] at q53a
                clear hR k1
                go_wp2
                refine (wpIn_wide (n := 0)).1 ?_
                refine Many.region_many (Cb wr) mixed_ok (by kernel_rfl) (fun _ _ _ _ h => h) (fun s _ => Cb.start wr s) ?_
                refine Many.lex_want (by rfl) (rdb (fun w hb => by (go_simp; try rfl))) ?_
                simp only [Act.put, List.setIfInBounds_toArray, List.set_cons_succ, List.set_cons_zero, Nat.reduceAdd]
                refine Many.lex_want (by rfl) (rdb (v := .pointer (some ⟨g, oo, none⟩)) (fun w hb => by (skip; go_simp; try rfl))) ?_
                simp only [Act.put, List.setIfInBounds_toArray, List.set_cons_succ, List.set_cons_zero, Nat.reduceAdd]
                refine Many.lex_want (by rfl) (rdb (v := .agg #[.int .i64 n, .int .i64 d]) (fun w hb => by (have c0 := cell_below hf1 hb; have c1 := cell_below hf2 hb; go_simp; try rfl))) ?_
                simp only [Act.put, List.setIfInBounds_toArray, List.set_cons_succ, List.set_cons_zero, Nat.reduceAdd]
                refine Many.lex_want (by rfl) (rdb (fun w hb => by (go_simp; try rfl))) ?_
                simp only [Act.put, List.setIfInBounds_toArray, List.set_cons_succ, List.set_cons_zero, Nat.reduceAdd]
                refine Many.lex_want (by rfl) (rdb (v := .pointer (some ⟨g, oo + 2, none⟩)) (fun w hb => by (skip; go_simp; try rfl))) ?_
                simp only [Act.put, List.setIfInBounds_toArray, List.set_cons_succ, List.set_cons_zero, Nat.reduceAdd]
                refine Many.lex_want (by rfl) (rdb (v := .agg #[.int .i64 m, .int .i64 q]) (fun w hb => by (have c0 := cell_below hg1 hb; have c1 := cell_below hg2 hb; go_simp; try rfl))) ?_
                simp only [Act.put, List.setIfInBounds_toArray, List.set_cons_succ, List.set_cons_zero, Nat.reduceAdd]
                refine Many.lex_want (by rfl) (clb q54 (fun w hb => by (go_simp; try rfl))) ?_
                simp only [Act.put, List.setIfInBounds_toArray, List.set_cons_succ, List.set_cons_zero, Nat.reduceAdd]
                refine Many.lex_want (by rfl) (rdb (fun w hb => by (go_simp; try rfl))) ?_
                simp only [Act.put, List.setIfInBounds_toArray, List.set_cons_succ, List.set_cons_zero, Nat.reduceAdd]
                refine Many.lex_want (by rfl) (rdb (fun w hb => by (go_simp; try rfl))) ?_
                simp only [Act.put, List.setIfInBounds_toArray, List.set_cons_succ, List.set_cons_zero, Nat.reduceAdd]
                refine Many.lex_want (by rfl) (rdb (fun w hb => by (go_simp; try rfl))) ?_
                simp only [Act.put, List.setIfInBounds_toArray, List.set_cons_succ, List.set_cons_zero, Nat.reduceAdd]
                refine Many.lex_want (by rfl) (rdb (fun w hb => by (go_simp; try rfl))) ?_
                simp only [Act.put, List.setIfInBounds_toArray, List.set_cons_succ, List.set_cons_zero, Nat.reduceAdd]
                refine Many.lex_want (by rfl) (rdb (fun w hb => by (go_simp; try rfl))) ?_
                simp only [Act.put, List.setIfInBounds_toArray, List.set_cons_succ, List.set_cons_zero, Nat.reduceAdd]
                refine Many.lex_nil fun s V1 hs hC => ?_
                have hC : Below wr.heap.size wr V1 := hC
                have bV1 := (hbT).trans (hC.mono (hbT).size)
                have hf1 := cell_below hf1 hC
                have hf2 := cell_below hf2 hC
                have hg1 := cell_below hg1 hC
                have hg2 := cell_below hg2 hC
                clear hC hs
                go_wp2_with (first
                  | (go_at_call 51; (with_reducible refine (q51f _).mono ?_); rintro e V2 ⟨rfl, hb2⟩
                     have bV2 := bV1.trans (hb2.mono bV1.size)
                     have hf1 := cell_below hf1 hb2
                     have hf2 := cell_below hf2 hb2
                     have hg1 := cell_below hg1 hb2
                     have hg2 := cell_below hg2 hb2
                     clear q51f hb2 bV1)
                  | (go_at_call 51; (with_reducible refine (q51g _).mono ?_); rintro e V4 ⟨rfl, hb4⟩
                     have bV4 := bV2.trans (hb4.mono bV2.size)
                     have hf1 := cell_below hf1 hb4
                     have hf2 := cell_below hf2 hb4
                     have hg1 := cell_below hg1 hb4
                     have hg2 := cell_below hg2 hb4
                     clear q51g hb4 bV2))
                refine (wpIn_wide (n := 0)).1 ?_
                refine Many.region_many (Cb V4) mixed_ok (by kernel_rfl) (fun _ _ _ _ h => h) (fun s _ => Cb.start V4 s) ?_
                refine Many.lex_want (by rfl) (rdb (fun w hb => by (go_simp; try rfl))) ?_
                simp only [Act.put, List.setIfInBounds_toArray, List.set_cons_succ, List.set_cons_zero, Nat.reduceAdd]
                refine Many.lex_want (by rfl) (rdb (v := .pointer (some ⟨g, oo, none⟩)) (fun w hb => by (skip; go_simp; try rfl))) ?_
                simp only [Act.put, List.setIfInBounds_toArray, List.set_cons_succ, List.set_cons_zero, Nat.reduceAdd]
                refine Many.lex_want (by rfl) (rdb (v := .agg #[.int .i64 n, .int .i64 d]) (fun w hb => by (have c0 := cell_below hf1 hb; have c1 := cell_below hf2 hb; go_simp; try rfl))) ?_
                simp only [Act.put, List.setIfInBounds_toArray, List.set_cons_succ, List.set_cons_zero, Nat.reduceAdd]
                refine Many.lex_want (by rfl) (rdb (fun w hb => by (go_simp; try rfl))) ?_
                simp only [Act.put, List.setIfInBounds_toArray, List.set_cons_succ, List.set_cons_zero, Nat.reduceAdd]
                refine Many.lex_want (by rfl) (rdb (v := .pointer (some ⟨g, oo + 2, none⟩)) (fun w hb => by (skip; go_simp; try rfl))) ?_
                simp only [Act.put, List.setIfInBounds_toArray, List.set_cons_succ, List.set_cons_zero, Nat.reduceAdd]
                refine Many.lex_want (by rfl) (rdb (v := .agg #[.int .i64 m, .int .i64 q]) (fun w hb => by (have c0 := cell_below hg1 hb; have c1 := cell_below hg2 hb; go_simp; try rfl))) ?_
                simp only [Act.put, List.setIfInBounds_toArray, List.set_cons_succ, List.set_cons_zero, Nat.reduceAdd]
                refine Many.lex_want (by rfl) (clb q53a (fun w hb => by (go_simp; try rfl))) ?_
                simp only [Act.put, List.setIfInBounds_toArray, List.set_cons_succ, List.set_cons_zero, Nat.reduceAdd]
                refine Many.lex_nil fun s V5 hs hC => ?_
                have hC : Below V4.heap.size V4 V5 := hC
                have bV5 := bV4.trans (hC.mono bV4.size)
                clear hC hs
                go_wp2_with (go_at_call 25; refine (awake_any _).mono ?_; rintro e V9 ⟨rfl, hb9⟩)
                go_ret
                exact ⟨rfl, bV5.trans (hb9.mono bV5.size)⟩
              · by_cases k2 : m * d < n * q
                · have hR : cmpI (n * q) (m * d) = 1 := by unfold cmpI; rw [if_neg k1, if_pos k2]
                  rw [hR] at q54
                  rw [decide_eq_false k1] at q53a
                  rw [decide_eq_true k2] at q53b
                  clear hR k1 k2
                  go_wp2
                  refine (wpIn_wide (n := 0)).1 ?_
                  refine Many.region_many (Cb wr) mixed_ok (by kernel_rfl) (fun _ _ _ _ h => h) (fun s _ => Cb.start wr s) ?_
                  refine Many.lex_want (by rfl) (rdb (fun w hb => by (go_simp; try rfl))) ?_
                  simp only [Act.put, List.setIfInBounds_toArray, List.set_cons_succ, List.set_cons_zero, Nat.reduceAdd]
                  refine Many.lex_want (by rfl) (rdb (v := .pointer (some ⟨g, oo, none⟩)) (fun w hb => by (skip; go_simp; try rfl))) ?_
                  simp only [Act.put, List.setIfInBounds_toArray, List.set_cons_succ, List.set_cons_zero, Nat.reduceAdd]
                  refine Many.lex_want (by rfl) (rdb (v := .agg #[.int .i64 n, .int .i64 d]) (fun w hb => by (have c0 := cell_below hf1 hb; have c1 := cell_below hf2 hb; go_simp; try rfl))) ?_
                  simp only [Act.put, List.setIfInBounds_toArray, List.set_cons_succ, List.set_cons_zero, Nat.reduceAdd]
                  refine Many.lex_want (by rfl) (rdb (fun w hb => by (go_simp; try rfl))) ?_
                  simp only [Act.put, List.setIfInBounds_toArray, List.set_cons_succ, List.set_cons_zero, Nat.reduceAdd]
                  refine Many.lex_want (by rfl) (rdb (v := .pointer (some ⟨g, oo + 2, none⟩)) (fun w hb => by (skip; go_simp; try rfl))) ?_
                  simp only [Act.put, List.setIfInBounds_toArray, List.set_cons_succ, List.set_cons_zero, Nat.reduceAdd]
                  refine Many.lex_want (by rfl) (rdb (v := .agg #[.int .i64 m, .int .i64 q]) (fun w hb => by (have c0 := cell_below hg1 hb; have c1 := cell_below hg2 hb; go_simp; try rfl))) ?_
                  simp only [Act.put, List.setIfInBounds_toArray, List.set_cons_succ, List.set_cons_zero, Nat.reduceAdd]
                  refine Many.lex_want (by rfl) (clb q54 (fun w hb => by (go_simp; try rfl))) ?_
                  simp only [Act.put, List.setIfInBounds_toArray, List.set_cons_succ, List.set_cons_zero, Nat.reduceAdd]
                  refine Many.lex_want (by rfl) (rdb (fun w hb => by (go_simp; try rfl))) ?_
                  simp only [Act.put, List.setIfInBounds_toArray, List.set_cons_succ, List.set_cons_zero, Nat.reduceAdd]
                  refine Many.lex_want (by rfl) (rdb (fun w hb => by (go_simp; try rfl))) ?_
                  simp only [Act.put, List.setIfInBounds_toArray, List.set_cons_succ, List.set_cons_zero, Nat.reduceAdd]
                  refine Many.lex_want (by rfl) (rdb (fun w hb => by (go_simp; try rfl))) ?_
                  simp only [Act.put, List.setIfInBounds_toArray, List.set_cons_succ, List.set_cons_zero, Nat.reduceAdd]
                  refine Many.lex_want (by rfl) (rdb (fun w hb => by (go_simp; try rfl))) ?_
                  simp only [Act.put, List.setIfInBounds_toArray, List.set_cons_succ, List.set_cons_zero, Nat.reduceAdd]
                  refine Many.lex_want (by rfl) (rdb (fun w hb => by (go_simp; try rfl))) ?_
                  simp only [Act.put, List.setIfInBounds_toArray, List.set_cons_succ, List.set_cons_zero, Nat.reduceAdd]
                  refine Many.lex_nil fun s V1 hs hC => ?_
                  have hC : Below wr.heap.size wr V1 := hC
                  have bV1 := (hbT).trans (hC.mono (hbT).size)
                  have hf1 := cell_below hf1 hC
                  have hf2 := cell_below hf2 hC
                  have hg1 := cell_below hg1 hC
                  have hg2 := cell_below hg2 hC
                  clear hC hs
                  go_wp2_with (first
                    | (go_at_call 51; (with_reducible refine (q51f _).mono ?_); rintro e V2 ⟨rfl, hb2⟩
                       have bV2 := bV1.trans (hb2.mono bV1.size)
                       have hf1 := cell_below hf1 hb2
                       have hf2 := cell_below hf2 hb2
                       have hg1 := cell_below hg1 hb2
                       have hg2 := cell_below hg2 hb2
                       clear q51f hb2 bV1)
                    | (go_at_call 51; (with_reducible refine (q51g _).mono ?_); rintro e V4 ⟨rfl, hb4⟩
                       have bV4 := bV2.trans (hb4.mono bV2.size)
                       have hf1 := cell_below hf1 hb4
                       have hf2 := cell_below hf2 hb4
                       have hg1 := cell_below hg1 hb4
                       have hg2 := cell_below hg2 hb4
                       clear q51g hb4 bV2))
                  refine (wpIn_wide (n := 0)).1 ?_
                  refine Many.region_many (Cb V4) mixed_ok (by kernel_rfl) (fun _ _ _ _ h => h) (fun s _ => Cb.start V4 s) ?_
                  refine Many.lex_want (by rfl) (rdb (fun w hb => by (go_simp; try rfl))) ?_
                  simp only [Act.put, List.setIfInBounds_toArray, List.set_cons_succ, List.set_cons_zero, Nat.reduceAdd]
                  refine Many.lex_want (by rfl) (rdb (v := .pointer (some ⟨g, oo, none⟩)) (fun w hb => by (skip; go_simp; try rfl))) ?_
                  simp only [Act.put, List.setIfInBounds_toArray, List.set_cons_succ, List.set_cons_zero, Nat.reduceAdd]
                  refine Many.lex_want (by rfl) (rdb (v := .agg #[.int .i64 n, .int .i64 d]) (fun w hb => by (have c0 := cell_below hf1 hb; have c1 := cell_below hf2 hb; go_simp; try rfl))) ?_
                  simp only [Act.put, List.setIfInBounds_toArray, List.set_cons_succ, List.set_cons_zero, Nat.reduceAdd]
                  refine Many.lex_want (by rfl) (rdb (fun w hb => by (go_simp; try rfl))) ?_
                  simp only [Act.put, List.setIfInBounds_toArray, List.set_cons_succ, List.set_cons_zero, Nat.reduceAdd]
                  refine Many.lex_want (by rfl) (rdb (v := .pointer (some ⟨g, oo + 2, none⟩)) (fun w hb => by (skip; go_simp; try rfl))) ?_
                  simp only [Act.put, List.setIfInBounds_toArray, List.set_cons_succ, List.set_cons_zero, Nat.reduceAdd]
                  refine Many.lex_want (by rfl) (rdb (v := .agg #[.int .i64 m, .int .i64 q]) (fun w hb => by (have c0 := cell_below hg1 hb; have c1 := cell_below hg2 hb; go_simp; try rfl))) ?_
                  simp only [Act.put, List.setIfInBounds_toArray, List.set_cons_succ, List.set_cons_zero, Nat.reduceAdd]
                  refine Many.lex_want (by rfl) (clb q53a (fun w hb => by (go_simp; try rfl))) ?_
                  simp only [Act.put, List.setIfInBounds_toArray, List.set_cons_succ, List.set_cons_zero, Nat.reduceAdd]
                  refine Many.lex_nil fun s V5 hs hC => ?_
                  have hC : Below V4.heap.size V4 V5 := hC
                  have bV5 := bV4.trans (hC.mono bV4.size)
                  have hf1 := cell_below hf1 hC
                  have hf2 := cell_below hf2 hC
                  have hg1 := cell_below hg1 hC
                  have hg2 := cell_below hg2 hC
                  clear hC hs
                  go_wp2
                  refine (wpIn_wide (n := 0)).1 ?_
                  refine Many.region_many (Cb V5) mixed_ok (by kernel_rfl) (fun _ _ _ _ h => h) (fun s _ => Cb.start V5 s) ?_
                  refine Many.lex_want (by rfl) (rdb (fun w hb => by (go_simp; try rfl))) ?_
                  simp only [Act.put, List.setIfInBounds_toArray, List.set_cons_succ, List.set_cons_zero, Nat.reduceAdd]
                  refine Many.lex_want (by rfl) (rdb (v := .pointer (some ⟨g, oo + 2, none⟩)) (fun w hb => by (skip; go_simp; try rfl))) ?_
                  simp only [Act.put, List.setIfInBounds_toArray, List.set_cons_succ, List.set_cons_zero, Nat.reduceAdd]
                  refine Many.lex_want (by rfl) (rdb (v := .agg #[.int .i64 m, .int .i64 q]) (fun w hb => by (have c0 := cell_below hg1 hb; have c1 := cell_below hg2 hb; go_simp; try rfl))) ?_
                  simp only [Act.put, List.setIfInBounds_toArray, List.set_cons_succ, List.set_cons_zero, Nat.reduceAdd]
                  refine Many.lex_want (by rfl) (rdb (fun w hb => by (go_simp; try rfl))) ?_
                  simp only [Act.put, List.setIfInBounds_toArray, List.set_cons_succ, List.set_cons_zero, Nat.reduceAdd]
                  refine Many.lex_want (by rfl) (rdb (v := .pointer (some ⟨g, oo, none⟩)) (fun w hb => by (skip; go_simp; try rfl))) ?_
                  simp only [Act.put, List.setIfInBounds_toArray, List.set_cons_succ, List.set_cons_zero, Nat.reduceAdd]
                  refine Many.lex_want (by rfl) (rdb (v := .agg #[.int .i64 n, .int .i64 d]) (fun w hb => by (have c0 := cell_below hf1 hb; have c1 := cell_below hf2 hb; go_simp; try rfl))) ?_
                  simp only [Act.put, List.setIfInBounds_toArray, List.set_cons_succ, List.set_cons_zero, Nat.reduceAdd]
                  refine Many.lex_want (by rfl) (clb q53b (fun w hb => by (go_simp; try rfl))) ?_
                  simp only [Act.put, List.setIfInBounds_toArray, List.set_cons_succ, List.set_cons_zero, Nat.reduceAdd]
                  refine Many.lex_nil fun s V6 hs hC => ?_
                  have hC : Below V5.heap.size V5 V6 := hC
                  have bV6 := bV5.trans (hC.mono bV5.size)
                  clear hC hs
                  go_wp2_with (go_at_call 25; refine (awake_any _).mono ?_; rintro e V9 ⟨rfl, hb9⟩)
                  go_ret
                  exact ⟨rfl, bV6.trans (hb9.mono bV6.size)⟩
                · have hR : cmpI (n * q) (m * d) = 0 := by unfold cmpI; rw [if_neg k1, if_neg k2]
                  rw [hR] at q54
                  rw [decide_eq_false k1] at q53a
                  rw [decide_eq_false k2] at q53b
                  clear hR k1 k2
                  go_wp2
                  refine (wpIn_wide (n := 0)).1 ?_
                  refine Many.region_many (Cb wr) mixed_ok (by kernel_rfl) (fun _ _ _ _ h => h) (fun s _ => Cb.start wr s) ?_
                  refine Many.lex_want (by rfl) (rdb (fun w hb => by (go_simp; try rfl))) ?_
                  simp only [Act.put, List.setIfInBounds_toArray, List.set_cons_succ, List.set_cons_zero, Nat.reduceAdd]
                  refine Many.lex_want (by rfl) (rdb (v := .pointer (some ⟨g, oo, none⟩)) (fun w hb => by (skip; go_simp; try rfl))) ?_
                  simp only [Act.put, List.setIfInBounds_toArray, List.set_cons_succ, List.set_cons_zero, Nat.reduceAdd]
                  refine Many.lex_want (by rfl) (rdb (v := .agg #[.int .i64 n, .int .i64 d]) (fun w hb => by (have c0 := cell_below hf1 hb; have c1 := cell_below hf2 hb; go_simp; try rfl))) ?_
                  simp only [Act.put, List.setIfInBounds_toArray, List.set_cons_succ, List.set_cons_zero, Nat.reduceAdd]
                  refine Many.lex_want (by rfl) (rdb (fun w hb => by (go_simp; try rfl))) ?_
                  simp only [Act.put, List.setIfInBounds_toArray, List.set_cons_succ, List.set_cons_zero, Nat.reduceAdd]
                  refine Many.lex_want (by rfl) (rdb (v := .pointer (some ⟨g, oo + 2, none⟩)) (fun w hb => by (skip; go_simp; try rfl))) ?_
                  simp only [Act.put, List.setIfInBounds_toArray, List.set_cons_succ, List.set_cons_zero, Nat.reduceAdd]
                  refine Many.lex_want (by rfl) (rdb (v := .agg #[.int .i64 m, .int .i64 q]) (fun w hb => by (have c0 := cell_below hg1 hb; have c1 := cell_below hg2 hb; go_simp; try rfl))) ?_
                  simp only [Act.put, List.setIfInBounds_toArray, List.set_cons_succ, List.set_cons_zero, Nat.reduceAdd]
                  refine Many.lex_want (by rfl) (clb q54 (fun w hb => by (go_simp; try rfl))) ?_
                  simp only [Act.put, List.setIfInBounds_toArray, List.set_cons_succ, List.set_cons_zero, Nat.reduceAdd]
                  refine Many.lex_want (by rfl) (rdb (fun w hb => by (go_simp; try rfl))) ?_
                  simp only [Act.put, List.setIfInBounds_toArray, List.set_cons_succ, List.set_cons_zero, Nat.reduceAdd]
                  refine Many.lex_want (by rfl) (rdb (fun w hb => by (go_simp; try rfl))) ?_
                  simp only [Act.put, List.setIfInBounds_toArray, List.set_cons_succ, List.set_cons_zero, Nat.reduceAdd]
                  refine Many.lex_want (by rfl) (rdb (fun w hb => by (go_simp; try rfl))) ?_
                  simp only [Act.put, List.setIfInBounds_toArray, List.set_cons_succ, List.set_cons_zero, Nat.reduceAdd]
                  refine Many.lex_want (by rfl) (rdb (fun w hb => by (go_simp; try rfl))) ?_
                  simp only [Act.put, List.setIfInBounds_toArray, List.set_cons_succ, List.set_cons_zero, Nat.reduceAdd]
                  refine Many.lex_want (by rfl) (rdb (fun w hb => by (go_simp; try rfl))) ?_
                  simp only [Act.put, List.setIfInBounds_toArray, List.set_cons_succ, List.set_cons_zero, Nat.reduceAdd]
                  refine Many.lex_nil fun s V1 hs hC => ?_
                  have hC : Below wr.heap.size wr V1 := hC
                  have bV1 := (hbT).trans (hC.mono (hbT).size)
                  have hf1 := cell_below hf1 hC
                  have hf2 := cell_below hf2 hC
                  have hg1 := cell_below hg1 hC
                  have hg2 := cell_below hg2 hC
                  clear hC hs
                  go_wp2_with (first
                    | (go_at_call 51; (with_reducible refine (q51f _).mono ?_); rintro e V2 ⟨rfl, hb2⟩
                       have bV2 := bV1.trans (hb2.mono bV1.size)
                       have hf1 := cell_below hf1 hb2
                       have hf2 := cell_below hf2 hb2
                       have hg1 := cell_below hg1 hb2
                       have hg2 := cell_below hg2 hb2
                       clear q51f hb2 bV1)
                    | (go_at_call 51; (with_reducible refine (q51g _).mono ?_); rintro e V4 ⟨rfl, hb4⟩
                       have bV4 := bV2.trans (hb4.mono bV2.size)
                       have hf1 := cell_below hf1 hb4
                       have hf2 := cell_below hf2 hb4
                       have hg1 := cell_below hg1 hb4
                       have hg2 := cell_below hg2 hb4
                       clear q51g hb4 bV2))
                  refine (wpIn_wide (n := 0)).1 ?_
                  refine Many.region_many (Cb V4) mixed_ok (by kernel_rfl) (fun _ _ _ _ h => h) (fun s _ => Cb.start V4 s) ?_
                  refine Many.lex_want (by rfl) (rdb (fun w hb => by (go_simp; try rfl))) ?_
                  simp only [Act.put, List.setIfInBounds_toArray, List.set_cons_succ, List.set_cons_zero, Nat.reduceAdd]
                  refine Many.lex_want (by rfl) (rdb (v := .pointer (some ⟨g, oo, none⟩)) (fun w hb => by (skip; go_simp; try rfl))) ?_
                  simp only [Act.put, List.setIfInBounds_toArray, List.set_cons_succ, List.set_cons_zero, Nat.reduceAdd]
                  refine Many.lex_want (by rfl) (rdb (v := .agg #[.int .i64 n, .int .i64 d]) (fun w hb => by (have c0 := cell_below hf1 hb; have c1 := cell_below hf2 hb; go_simp; try rfl))) ?_
                  simp only [Act.put, List.setIfInBounds_toArray, List.set_cons_succ, List.set_cons_zero, Nat.reduceAdd]
                  refine Many.lex_want (by rfl) (rdb (fun w hb => by (go_simp; try rfl))) ?_
                  simp only [Act.put, List.setIfInBounds_toArray, List.set_cons_succ, List.set_cons_zero, Nat.reduceAdd]
                  refine Many.lex_want (by rfl) (rdb (v := .pointer (some ⟨g, oo + 2, none⟩)) (fun w hb => by (skip; go_simp; try rfl))) ?_
                  simp only [Act.put, List.setIfInBounds_toArray, List.set_cons_succ, List.set_cons_zero, Nat.reduceAdd]
                  refine Many.lex_want (by rfl) (rdb (v := .agg #[.int .i64 m, .int .i64 q]) (fun w hb => by (have c0 := cell_below hg1 hb; have c1 := cell_below hg2 hb; go_simp; try rfl))) ?_
                  simp only [Act.put, List.setIfInBounds_toArray, List.set_cons_succ, List.set_cons_zero, Nat.reduceAdd]
                  refine Many.lex_want (by rfl) (clb q53a (fun w hb => by (go_simp; try rfl))) ?_
                  simp only [Act.put, List.setIfInBounds_toArray, List.set_cons_succ, List.set_cons_zero, Nat.reduceAdd]
                  refine Many.lex_nil fun s V5 hs hC => ?_
                  have hC : Below V4.heap.size V4 V5 := hC
                  have bV5 := bV4.trans (hC.mono bV4.size)
                  have hf1 := cell_below hf1 hC
                  have hf2 := cell_below hf2 hC
                  have hg1 := cell_below hg1 hC
                  have hg2 := cell_below hg2 hC
                  clear hC hs
                  go_wp2
                  refine (wpIn_wide (n := 0)).1 ?_
                  refine Many.region_many (Cb V5) mixed_ok (by kernel_rfl) (fun _ _ _ _ h => h) (fun s _ => Cb.start V5 s) ?_
                  refine Many.lex_want (by rfl) (rdb (fun w hb => by (go_simp; try rfl))) ?_
                  simp only [Act.put, List.setIfInBounds_toArray, List.set_cons_succ, List.set_cons_zero, Nat.reduceAdd]
                  refine Many.lex_want (by rfl) (rdb (v := .pointer (some ⟨g, oo + 2, none⟩)) (fun w hb => by (skip; go_simp; try rfl))) ?_
                  simp only [Act.put, List.setIfInBounds_toArray, List.set_cons_succ, List.set_cons_zero, Nat.reduceAdd]
                  refine Many.lex_want (by rfl) (rdb (v := .agg #[.int .i64 m, .int .i64 q]) (fun w hb => by (have c0 := cell_below hg1 hb; have c1 := cell_below hg2 hb; go_simp; try rfl))) ?_
                  simp only [Act.put, List.setIfInBounds_toArray, List.set_cons_succ, List.set_cons_zero, Nat.reduceAdd]
                  refine Many.lex_want (by rfl) (rdb (fun w hb => by (go_simp; try rfl))) ?_
                  simp only [Act.put, List.setIfInBounds_toArray, List.set_cons_succ, List.set_cons_zero, Nat.reduceAdd]
                  refine Many.lex_want (by rfl) (rdb (v := .pointer (some ⟨g, oo, none⟩)) (fun w hb => by (skip; go_simp; try rfl))) ?_
                  simp only [Act.put, List.setIfInBounds_toArray, List.set_cons_succ, List.set_cons_zero, Nat.reduceAdd]
                  refine Many.lex_want (by rfl) (rdb (v := .agg #[.int .i64 n, .int .i64 d]) (fun w hb => by (have c0 := cell_below hf1 hb; have c1 := cell_below hf2 hb; go_simp; try rfl))) ?_
                  simp only [Act.put, List.setIfInBounds_toArray, List.set_cons_succ, List.set_cons_zero, Nat.reduceAdd]
                  refine Many.lex_want (by rfl) (clb q53b (fun w hb => by (go_simp; try rfl))) ?_
                  simp only [Act.put, List.setIfInBounds_toArray, List.set_cons_succ, List.set_cons_zero, Nat.reduceAdd]
                  refine Many.lex_nil fun s V6 hs hC => ?_
                  have hC : Below V5.heap.size V5 V6 := hC
                  have bV6 := bV5.trans (hC.mono bV5.size)
                  clear hC hs
                  go_wp2_with (go_at_call 25; refine (awake_any _).mono ?_; rintro e V9 ⟨rfl, hb9⟩)
                  go_ret
                  exact ⟨rfl, bV6.trans (hb9.mono bV6.size)⟩
end Go.Proofs.Ytbocmbhinjkjlaa
