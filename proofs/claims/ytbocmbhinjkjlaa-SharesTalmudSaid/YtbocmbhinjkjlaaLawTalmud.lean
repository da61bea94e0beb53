/- The law SharesTalmud: its walk. -/
import Derived.Test.YtbocmbhinjkjlaaTalPre
import Derived.Test.YtbocmbhinjkjlaaArrArg
set_option linter.unusedSimpArgs false
set_option linter.unusedVariables false
namespace Go.Proofs.Ytbocmbhinjkjlaa
open Go Go.Proofs Go.RowKit Go.Seq Go.Sort
set_option maxHeartbeats 8000000 in
set_option maxRecDepth 100000 in
theorem talmudLaw_any {v : Value} {zs : List Int} {E o0 o1 o2 : Int} {w : World} (hv : IntsO w v zs) :
    Calls Try.prog 10 #[v, .int .i64 E, .agg #[.int .i64 o0, .int .i64 o1, .int .i64 o2]] w fun e w' => e = .returned (.bool true) ∧ Below w.heap.size w w' := by
  obtain ⟨wB, hwB⟩ : ∃ wB, w.alloc (.cells #[.int .i64 o0, .int .i64 o1, .int .i64 o2] 79) = wB := ⟨_, rfl⟩
  have hbB : Below w.heap.size w wB := by rw [← hwB]; exact (Below.refl _ _).alloc (Nat.le_refl _) _
  have oB : BlkAt wB w.heap.size #[.int .i64 o0, .int .i64 o1, .int .i64 o2] 79 := by rw [← hwB]; exact BlkAt.new _ _ _
  have hvK := Keep.mk (intsO_below hv hbB)
  obtain ⟨A0, cap0, rfl, -⟩ := hv
  generalize zs.length = n0 at *
  go_enter Try.func10, Try.ntmps10
  go_wp2_with (first
    | (go_at_call 55; (with_reducible refine (tame_both hvK.out).mono ?_); rintro e w1 ⟨v', F, rfl, ho, hF, hb1⟩
       have hV := tameL_valid zs
       obtain ⟨l, hl⟩ : ∃ l, tameL zs = l := ⟨_, rfl⟩
       rw [hl] at ho hF hV
       clear hl hvK
       have hoK := Keep.mk ho
       obtain ⟨A, cap, rfl, hcell⟩ := ho
       obtain ⟨n, hn⟩ : ∃ n, Keep (l.length = n) := ⟨_, ⟨rfl⟩⟩
       rw [hn.out] at hoK ⊢
       have hVK := Keep.mk hV
       have hEK := Keep.mk hF
       have hD1 : Keep (decide (Valid l ∧ 0 ≤ F ∧ F ≤ l.sum) = true) := ⟨decide_eq_true ⟨hV, hF⟩⟩
       have hn10 : n ≤ 10 := by have := hV.2.1; have := hn.out; omega
       have hn1 : 1 ≤ n := by have := hV.1; have := hn.out; omega
       have q22 := show Calls Try.prog 22 #[.int .i64 3, .slice A l.length cap, .int .i64 F] w1 _ from awardM (r := 3) (w := w1) (by omega) (by rw [hn.out]; exact hoK.out) hVK.out hEK.out
       rw [hn.out] at q22
       have oB := oB.after hb1
       have hb1 := hbB.trans (hb1.mono hbB.size)
       clear hV hF hcell hbB)
    | (go_at_call 22; (with_reducible refine q22.mono ?_); rintro e w2 ⟨G, N, L, rfl, m2, hG, hb2⟩
       have oB := oB.after hb2
       have lv := Keep.mk m2.lev
       have hAw : awB l F (awL 3 l F N L) = true := tal_award hVK.out hEK.out m2.lev
       have hAg := tal_agree hVK.out hEK.out m2.lev
       obtain ⟨a, ha⟩ : ∃ a, awL 3 l F N L = a := ⟨_, rfl⟩
       have haw : Wide a := by rw [← ha]; exact awL_wide (by omega) hVK.out hEK.out m2.lev
       have hal : a.length = n := by rw [← ha, awL_len]; exact hn.out
       have har : FracsO w2 (.slice (some ⟨G, 0, none⟩) n n) a := by rw [← ha]; exact m2.row
       rw [ha] at hAw hAg
       have haK := Keep.mk ha
       have halK := Keep.mk hal
       have q56 := fun W (hb : Below w2.heap.size w2 W) => fitM (by omega) hVK.out hEK.out (m2.after hb)
       have q31 := fun W (hb : Below w2.heap.size w2 W) => agrees_yes (x := 0) (y := 0) (is := true) (w := W) (v := .slice A n cap) (intsO_below hoK.out (hb2.trans (hb.mono hb2.size))) hD1.out (fracsO_below har hb) haw (by omega) hAw (Fst.yes hAg)
       have hb12 := hb1.trans (hb2.mono hb1.size)
       have hb2K := hb2
       clear q22 hb2 ha hal m2)
    | (go_at_call 56; (with_reducible refine (q56 _ (Below.refl _ _)).mono ?_); rintro e w3 ⟨rfl, hb3⟩)
    | (go_at_call 31; (with_reducible refine (q31 _ hb3).mono ?_); rintro e w4 ⟨rfl, hb4⟩
       have hb24 := hb3.trans (hb4.mono hb3.size)
       clear hb3 hb4 q56 q31))
  obtain ⟨w5, hw5⟩ : ∃ w5, w4.alloc (.cells #[.int .i64 0, .int .i64 0] 22) = w5 := ⟨_, rfl⟩
  have hb5 : Below w4.heap.size w4 w5 := by rw [← hw5]; exact (Below.refl _ _).alloc (Nat.le_refl _) _
  rw [hw5]
  have hb25 := hb24.trans (hb5.mono hb24.size)
  clear hw5 hb5 hb24
  have oB := oB.after hb25
  have hB0 : w5.cell? ⟨w.heap.size, 0, none⟩ = some (.int .i64 o0) := oB.cell 0
  have hB1 : w5.cell? ⟨w.heap.size, 1, none⟩ = some (.int .i64 o1) := oB.cell 1
  have q57a := fun w => mod_bI o0 (m := n) (by omega) (by omega) w
  have q57b := fun w => mod_bI o1 (m := n) (by omega) (by omega) w
  have q57c := fun w => mod_bI o2 (m := 2) (by omega) (by omega) w
  rw [show (((2 : Nat)) : Int) = 2 from rfl] at q57c
  have hi := modN_lt o0 (m := n) (by omega)
  have hj := modN_lt o1 (m := n) (by omega)
  have hm2 := modN_lt o2 (m := 2) (by omega)
  generalize modN o0 n = i at *
  generalize modN o1 n = j at *
  generalize modN o2 2 = m2 at *
  obtain ⟨q, hq⟩ : ∃ q : Int, Keep (1 + (m2 : Int) = q) := ⟨_, ⟨rfl⟩⟩
  have wq : IntKind.i64.wrap (1 + (m2 : Int)) = q := by rw [← hq.out]; exact IntWalk.i64_in _ (by omega)
  have hqb : 1 ≤ q ∧ q ≤ 2 := by have := hq.out; omega
  refine (wpIn_wide (n := 0)).1 ?_
  refine Many.region_many (Go.Proofs.Ytbocmbhinjkjlaa.Cb w5) mixed_ok (by kernel_rfl) (fun _ _ _ _ h => h) (fun s _ => Go.Proofs.Ytbocmbhinjkjlaa.Cb.start w5 s) ?_
  refine Many.lex_want (by rfl) (rdb (v := .pointer (some ⟨w.heap.size, 0, none⟩)) (fun w hb => by (skip; go_simp; try rfl))) ?_
  simp only [Act.put, List.setIfInBounds_toArray, List.set_cons_succ, List.set_cons_zero, Nat.reduceAdd]
  refine Many.lex_want (by rfl) (rdb (v := .int .i64 o0) (fun w hb => by (have c0 := cell_below hB0 hb; go_simp; try rfl))) ?_
  simp only [Act.put, List.setIfInBounds_toArray, List.set_cons_succ, List.set_cons_zero, Nat.reduceAdd]
  refine Many.lex_want (by rfl) (rdb (fun w hb => by (go_simp; try rfl))) ?_
  simp only [Act.put, List.setIfInBounds_toArray, List.set_cons_succ, List.set_cons_zero, Nat.reduceAdd]
  refine Many.lex_want (by rfl) (rdb (v := .int .i64 (n : Nat)) (fun w hb => by (skip; go_simp; try rfl))) ?_
  simp only [Act.put, List.setIfInBounds_toArray, List.set_cons_succ, List.set_cons_zero, Nat.reduceAdd]
  refine Many.lex_want (by rfl) (clb q57a (fun w hb => by (go_simp; try rfl))) ?_
  simp only [Act.put, List.setIfInBounds_toArray, List.set_cons_succ, List.set_cons_zero, Nat.reduceAdd]
  refine Many.lex_want (by rfl) (rdb (v := .pointer (some ⟨w.heap.size, 1, none⟩)) (fun w hb => by (skip; go_simp; try rfl))) ?_
  simp only [Act.put, List.setIfInBounds_toArray, List.set_cons_succ, List.set_cons_zero, Nat.reduceAdd]
  refine Many.lex_want (by rfl) (rdb (v := .int .i64 o1) (fun w hb => by (have c0 := cell_below hB1 hb; go_simp; try rfl))) ?_
  simp only [Act.put, List.setIfInBounds_toArray, List.set_cons_succ, List.set_cons_zero, Nat.reduceAdd]
  refine Many.lex_want (by rfl) (rdb (fun w hb => by (go_simp; try rfl))) ?_
  simp only [Act.put, List.setIfInBounds_toArray, List.set_cons_succ, List.set_cons_zero, Nat.reduceAdd]
  refine Many.lex_want (by rfl) (rdb (v := .int .i64 (n : Nat)) (fun w hb => by (skip; go_simp; try rfl))) ?_
  simp only [Act.put, List.setIfInBounds_toArray, List.set_cons_succ, List.set_cons_zero, Nat.reduceAdd]
  refine Many.lex_want (by rfl) (clb q57b (fun w hb => by (go_simp; try rfl))) ?_
  simp only [Act.put, List.setIfInBounds_toArray, List.set_cons_succ, List.set_cons_zero, Nat.reduceAdd]
  refine Many.lex_want (by rfl) (rdb (fun w hb => by (go_simp; try rfl))) ?_
  simp only [Act.put, List.setIfInBounds_toArray, List.set_cons_succ, List.set_cons_zero, Nat.reduceAdd]
  refine Many.lex_want (by rfl) (rdb (fun w hb => by (go_simp; try rfl))) ?_
  simp only [Act.put, List.setIfInBounds_toArray, List.set_cons_succ, List.set_cons_zero, Nat.reduceAdd]
  refine Many.lex_nil fun s w6 hs hC => ?_
  have hC : Below w5.heap.size w5 w6 := hC
  have hb26 := hb25.trans (hC.mono hb25.size)
  have oB2 : w6.cell? ⟨w.heap.size, 2, none⟩ = some (.int .i64 o2) := (oB.after hC).cell 2
  have haf : ∀ W, Below w6.heap.size w6 W → ArgFracs W (.slice (some ⟨G, 0, none⟩) n n) a := fun W hb => by
    obtain ⟨AA, cA, e1, hcA⟩ := fracsO_below har (hb26.trans (hb.mono hb26.size))
    injection e1 with e1 e2 e3
    subst e1
    have k : ∀ i, i < a.length → W.cell? ⟨G, 0 + i * 2, none⟩ = some (vz (a.getD i (0, 0)).1) ∧ W.cell? ⟨G, 0 + i * 2 + 1, none⟩ = some (vz (a.getD i (0, 0)).2) := fun i hi => by
      obtain ⟨g, o, e, h1, h2⟩ := hcA i hi
      injection e with e
      injection e with e1 e2
      subst e1 e2
      exact ⟨h1, h2⟩
    have := lt_of_cell (k 0 (by have := halK.out; omega)).1
    exact .inr (.inr ⟨G, 0, n, by rw [halK.out], by rw [halK.out]; exact Nat.le_refl _, by unfold maxLen; omega, this, k⟩)
  have hta : a.take 11 = a := List.take_of_length_le (by have := halK.out; omega)
  clear hC hs q57a q57b hB0 hB1 oB
  go_wp2_with (first
    | (go_at_call 57; (with_reducible refine (q57c _).mono ?_); rintro e w7 ⟨rfl, hb7⟩
       obtain ⟨w8, hw8⟩ : ∃ w8, w7.alloc (.cells #[.int .i64 1, .int .i64 q] 37) = w8 := ⟨_, rfl⟩
       have hb8 : Below w7.heap.size w7 w8 := by rw [← hw8]; exact (Below.refl _ _).alloc (Nat.le_refl _) _
       have o15 : Own2 w8 w7.heap.size (.int .i64 1) (.int .i64 q) := by rw [← hw8]; exact Own2.new _ _ _ _
       have hb68 := hb7.trans (hb8.mono hb7.size)
       have q21 := fracs_any (haf _ hb68)
       rw [hta] at q21
       clear hb7 hb8 haf q57c oB2)
    | (go_at_call 21; (with_reducible refine q21.mono ?_); rintro e w9 ⟨v9, rfl, ho9, hb9⟩
       obtain ⟨Gb, cb, rfl, hGb, hRb⟩ := RowX.of ho9 (by have := halK.out; omega)
       rw [halK.out]
       clear q21 ho9))
  have hb28 := hb26.trans (hb68.mono hb26.size)
  have hA8 : ∀ k, k < n → ∀ W, Below w8.heap.size w8 W → W.cell? ⟨G, k * 2, none⟩ = some (.int .i64 (a.getD k (0, 0)).1) ∧ W.cell? ⟨G, k * 2 + 1, none⟩ = some (.int .i64 (a.getD k (0, 0)).2) := fun k hk W hb => by
    obtain ⟨AA, cA, e1, hcA⟩ := fracsO_below har (hb28.trans (hb.mono hb28.size))
    injection e1 with e1 e2 e3
    subst e1
    obtain ⟨g, o, e, h1, h2⟩ := hcA k (by have := halK.out; omega)
    injection e with e
    injection e with e1 e2
    subst e1 e2
    rw [Nat.zero_add] at h1 h2
    exact ⟨h1, h2⟩
  have ho15 := fun W (hb : Below w8.heap.size w8 W) => o15.after hb
  have hIn := fun W (hb : Below w8.heap.size w8 W) => intsO_below hoK.out (hb2K.trans ((hb28.trans (hb.mono hb28.size)).mono hb2K.size))
  have hw8b := hb12.trans (hb28.mono hb12.size)
  obtain ⟨g15, hg15⟩ : ∃ g, w7.heap.size = g := ⟨_, rfl⟩
  rw [hg15] at ho15 ⊢
  clear hg15 o15 hb26 hb68 hb25 hta
  have hci := getz (zs := l) (k := i) (by have := hn.out; omega)
  have hcj := getz (zs := l) (k := j) (by have := hn.out; omega)
  have BI := aw_Bd (by omega) hVK.out hEK.out lv.out hci
  have BJ := aw_Bd (by omega) hVK.out hEK.out lv.out hcj
  have hpi := aw_pair (S := l.sum) (E := F) lv.out.n1 lv.out.l0 (hVK.out.2.2 _ hci).1 (hVK.out.2.2 _ hcj).1
  have hpj := aw_pair (S := l.sum) (E := F) lv.out.n1 lv.out.l0 (hVK.out.2.2 _ hcj).1 (hVK.out.2.2 _ hci).1
  have hai : a.getD i (0, 0) = (redN (awX 3 l.sum F N L (l.getD i 0)) (awD 3 l.sum N), redD (awX 3 l.sum F N L (l.getD i 0)) (awD 3 l.sum N)) := by rw [← haK.out, awL_get (by have := hn.out; omega)]; rfl
  have haj : a.getD j (0, 0) = (redN (awX 3 l.sum F N L (l.getD j 0)) (awD 3 l.sum N), redD (awX 3 l.sum F N L (l.getD j 0)) (awD 3 l.sum N)) := by rw [← haK.out, awL_get (by have := hn.out; omega)]; rfl
  have hXb := aw_bd (r := 3) (by omega) hVK.out hEK.out lv.out hci
  have hYb := aw_bd (r := 3) (by omega) hVK.out hEK.out lv.out hcj
  obtain ⟨X, hX⟩ : ∃ X, Keep (awX 3 l.sum F N L (l.getD i 0) = X) := ⟨_, ⟨rfl⟩⟩
  obtain ⟨Y, hY⟩ : ∃ Y, Keep (awX 3 l.sum F N L (l.getD j 0) = Y) := ⟨_, ⟨rfl⟩⟩
  obtain ⟨D, hD⟩ : ∃ D, Keep (awD 3 l.sum N = D) := ⟨_, ⟨rfl⟩⟩
  rw [hX.out, hD.out] at BI hai
  rw [hY.out, hD.out] at BJ haj
  rw [hX.out, hY.out, hD.out] at hpi hpj
  rw [hX.out] at hXb
  rw [hY.out] at hYb
  have hD20 : 1 ≤ D ∧ D ≤ 20 := by
    have := lv.out.n1
    have := lv.out.n10
    have := hD.out
    have e : awD 3 l.sum N = 2 * N := rfl
    omega
  have hM1 : 1 ≤ D * q := mul_pos1 hD20.1 hqb.1
  have hMb := mul_in (a := D) (b := q) (A := 20) (B := 2) (by omega) hD20.2 (by omega) hqb.2
  have hXq := mul_in (a := X) (b := q) (A := 10000000) (B := 2) hXb.2.2.1 hXb.2.2.2 (by omega) hqb.2
  have hYq := mul_in (a := Y) (b := q) (A := 10000000) (B := 2) hYb.2.2.1 hYb.2.2.2 (by omega) hqb.2
  have B1q : Bd 1 q := ⟨by omega, by omega, by omega, by omega⟩
  have e1q : redV 1 q = fracV 1 q := by unfold redV; rw [(red_self hqb.1 (by simp)).1, (red_self hqb.1 (by simp)).2]
  have q53 := fun w => refLess_red BI B1q w
  have q58 := fun w => refSub_red BI B1q w
  have q52 := fun w => refAdd_red BJ B1q w
  rw [e1q, Int.one_mul] at q53 q58 q52
  obtain ⟨xi0, hxi0⟩ : ∃ z, Keep (redN X D = z) := ⟨_, ⟨rfl⟩⟩
  obtain ⟨xi1, hxi1⟩ : ∃ z, Keep (redD X D = z) := ⟨_, ⟨rfl⟩⟩
  obtain ⟨xj0, hxj0⟩ : ∃ z, Keep (redN Y D = z) := ⟨_, ⟨rfl⟩⟩
  obtain ⟨xj1, hxj1⟩ : ∃ z, Keep (redD Y D = z) := ⟨_, ⟨rfl⟩⟩
  obtain ⟨u0, hu0⟩ : ∃ z, Keep (redN (X * q - D) (D * q) = z) := ⟨_, ⟨rfl⟩⟩
  obtain ⟨u1, hu1⟩ : ∃ z, Keep (redD (X * q - D) (D * q) = z) := ⟨_, ⟨rfl⟩⟩
  obtain ⟨v0, hv0⟩ : ∃ z, Keep (redN (Y * q + D) (D * q) = z) := ⟨_, ⟨rfl⟩⟩
  obtain ⟨v1, hv1⟩ : ∃ z, Keep (redD (Y * q + D) (D * q) = z) := ⟨_, ⟨rfl⟩⟩
  unfold redV at q53 q58 q52
  rw [hxi0.out, hxi1.out] at q53 q58 hai
  rw [hxj0.out, hxj1.out] at q52 haj
  rw [hu0.out, hu1.out] at q58
  rw [hv0.out, hv1.out] at q52
  unfold fracV at q53 q58 q52
  have hAi := hA8 i hi
  rw [hai] at hAi
  simp only at hAi
  have eXi := eqS xi0 xi1
  have hb98 := hb9
  have haiK := Keep.mk hai
  have hajK := Keep.mk haj
  have hci' := (hRb.cell (i := i) (by have := halK.out; omega))
  rw [hai] at hci'
  simp only at hci'
  obtain ⟨hbi1, hbi2⟩ := hci'
  clear hai haj BI BJ hXb hYb hci hcj hA8
  by_cases hij : i = j
  · subst hij
    clear q53 q58 q52
    refine (wpIn_wide (n := 0)).1 ?_
    refine Many.region_many (Go.Proofs.Ytbocmbhinjkjlaa.Cb w9) mixed_ok (by kernel_rfl) (fun _ _ _ _ h => h) (fun s _ => Go.Proofs.Ytbocmbhinjkjlaa.Cb.start w9 s) ?_
    refine Many.lex_want (by rfl) (rdb (fun w hb => by (go_simp; try rfl))) ?_
    simp only [Act.put, List.setIfInBounds_toArray, List.set_cons_succ, List.set_cons_zero, Nat.reduceAdd]
    refine Many.lex_want (by rfl) (rdb (fun w hb => by (go_simp; try rfl))) ?_
    simp only [Act.put, List.setIfInBounds_toArray, List.set_cons_succ, List.set_cons_zero, Nat.reduceAdd]
    refine Many.lex_want (by rfl) (rdb (v := .bool false) (fun w hb => by (skip; go_simp; try rfl))) ?_
    simp only [Act.put, List.setIfInBounds_toArray, List.set_cons_succ, List.set_cons_zero, Nat.reduceAdd]
    refine Many.lex_want (by rfl) (rdb (v := .bool false) (fun w hb => by (skip; go_simp; try rfl))) ?_
    simp only [Act.put, List.setIfInBounds_toArray, List.set_cons_succ, List.set_cons_zero, Nat.reduceAdd]
    refine lex_skip (by rfl) Cb.keep ?_
    simp only [Act.put, List.setIfInBounds_toArray, List.set_cons_succ, List.set_cons_zero, Nat.reduceAdd]
    refine lex_skip (by rfl) Cb.keep ?_
    simp only [Act.put, List.setIfInBounds_toArray, List.set_cons_succ, List.set_cons_zero, Nat.reduceAdd]
    refine lex_skip (by rfl) Cb.keep ?_
    simp only [Act.put, List.setIfInBounds_toArray, List.set_cons_succ, List.set_cons_zero, Nat.reduceAdd]
    refine lex_skip (by rfl) Cb.keep ?_
    simp only [Act.put, List.setIfInBounds_toArray, List.set_cons_succ, List.set_cons_zero, Nat.reduceAdd]
    refine lex_skip (by rfl) Cb.keep ?_
    simp only [Act.put, List.setIfInBounds_toArray, List.set_cons_succ, List.set_cons_zero, Nat.reduceAdd]
    refine lex_skip (by rfl) Cb.keep ?_
    simp only [Act.put, List.setIfInBounds_toArray, List.set_cons_succ, List.set_cons_zero, Nat.reduceAdd]
    refine lex_skip (by rfl) Cb.keep ?_
    simp only [Act.put, List.setIfInBounds_toArray, List.set_cons_succ, List.set_cons_zero, Nat.reduceAdd]
    refine Many.lex_want (by rfl) (rdb (v := .bool false) (fun w hb => by (skip; go_simp; try rfl))) ?_
    simp only [Act.put, List.setIfInBounds_toArray, List.set_cons_succ, List.set_cons_zero, Nat.reduceAdd]
    refine Many.lex_nil fun s W1 hs hC => ?_
    have hC : Below w9.heap.size w9 W1 := hC
    have hb98 := hb98.trans (hC.mono hb98.size)
    clear hC hs
    go_wp2
    refine (wpIn_wide (n := 0)).1 ?_
    refine Many.region_many (Go.Proofs.Ytbocmbhinjkjlaa.Cb W1) mixed_ok (by kernel_rfl) (fun _ _ _ _ h => h) (fun s _ => Go.Proofs.Ytbocmbhinjkjlaa.Cb.start W1 s) ?_
    refine Many.lex_want (by rfl) (rdb (fun w hb => by (go_simp; try rfl))) ?_
    simp only [Act.put, List.setIfInBounds_toArray, List.set_cons_succ, List.set_cons_zero, Nat.reduceAdd]
    refine Many.lex_want (by rfl) (rdb (fun w hb => by (go_simp; try rfl))) ?_
    simp only [Act.put, List.setIfInBounds_toArray, List.set_cons_succ, List.set_cons_zero, Nat.reduceAdd]
    refine Many.lex_want (by rfl) (rdb (v := .bool true) (fun w hb => by (skip; go_simp; try rfl))) ?_
    simp only [Act.put, List.setIfInBounds_toArray, List.set_cons_succ, List.set_cons_zero, Nat.reduceAdd]
    refine Many.lex_want (by rfl) (rdb (v := .bool true) (fun w hb => by (skip; go_simp; try rfl))) ?_
    simp only [Act.put, List.setIfInBounds_toArray, List.set_cons_succ, List.set_cons_zero, Nat.reduceAdd]
    refine lex_skip (by rfl) Cb.keep ?_
    simp only [Act.put, List.setIfInBounds_toArray, List.set_cons_succ, List.set_cons_zero, Nat.reduceAdd]
    refine lex_skip (by rfl) Cb.keep ?_
    simp only [Act.put, List.setIfInBounds_toArray, List.set_cons_succ, List.set_cons_zero, Nat.reduceAdd]
    refine lex_skip (by rfl) Cb.keep ?_
    simp only [Act.put, List.setIfInBounds_toArray, List.set_cons_succ, List.set_cons_zero, Nat.reduceAdd]
    refine lex_skip (by rfl) Cb.keep ?_
    simp only [Act.put, List.setIfInBounds_toArray, List.set_cons_succ, List.set_cons_zero, Nat.reduceAdd]
    refine lex_skip (by rfl) Cb.keep ?_
    simp only [Act.put, List.setIfInBounds_toArray, List.set_cons_succ, List.set_cons_zero, Nat.reduceAdd]
    refine lex_skip (by rfl) Cb.keep ?_
    simp only [Act.put, List.setIfInBounds_toArray, List.set_cons_succ, List.set_cons_zero, Nat.reduceAdd]
    refine lex_skip (by rfl) Cb.keep ?_
    simp only [Act.put, List.setIfInBounds_toArray, List.set_cons_succ, List.set_cons_zero, Nat.reduceAdd]
    refine lex_skip (by rfl) Cb.keep ?_
    simp only [Act.put, List.setIfInBounds_toArray, List.set_cons_succ, List.set_cons_zero, Nat.reduceAdd]
    refine lex_skip (by rfl) Cb.keep ?_
    simp only [Act.put, List.setIfInBounds_toArray, List.set_cons_succ, List.set_cons_zero, Nat.reduceAdd]
    refine Many.lex_want (by rfl) (rdb (v := .bool true) (fun w hb => by (skip; go_simp; try rfl))) ?_
    simp only [Act.put, List.setIfInBounds_toArray, List.set_cons_succ, List.set_cons_zero, Nat.reduceAdd]
    refine Many.lex_want (by rfl) (rdb (v := .bool true) (fun w hb => by (skip; go_simp; try rfl))) ?_
    simp only [Act.put, List.setIfInBounds_toArray, List.set_cons_succ, List.set_cons_zero, Nat.reduceAdd]
    refine lex_skip (by rfl) Cb.keep ?_
    simp only [Act.put, List.setIfInBounds_toArray, List.set_cons_succ, List.set_cons_zero, Nat.reduceAdd]
    refine lex_skip (by rfl) Cb.keep ?_
    simp only [Act.put, List.setIfInBounds_toArray, List.set_cons_succ, List.set_cons_zero, Nat.reduceAdd]
    refine lex_skip (by rfl) Cb.keep ?_
    simp only [Act.put, List.setIfInBounds_toArray, List.set_cons_succ, List.set_cons_zero, Nat.reduceAdd]
    refine lex_skip (by rfl) Cb.keep ?_
    simp only [Act.put, List.setIfInBounds_toArray, List.set_cons_succ, List.set_cons_zero, Nat.reduceAdd]
    refine lex_skip (by rfl) Cb.keep ?_
    simp only [Act.put, List.setIfInBounds_toArray, List.set_cons_succ, List.set_cons_zero, Nat.reduceAdd]
    refine Many.lex_want (by rfl) (rdb (v := .bool true) (fun w hb => by (skip; go_simp; try rfl))) ?_
    simp only [Act.put, List.setIfInBounds_toArray, List.set_cons_succ, List.set_cons_zero, Nat.reduceAdd]
    refine Many.lex_nil fun s W2 hs hC => ?_
    have hC : Below W1.heap.size W1 W2 := hC
    have hb := hb98.trans (hC.mono hb98.size)
    have hbw := hw8b.trans (hb.mono hw8b.size)
    clear hC hs
    go_wp2_with (go_at_call 25; refine (awake_any _).mono ?_; rintro e w20 ⟨rfl, hb20⟩)
    go_ret
    exact ⟨rfl, hbw.trans (hb20.mono hbw.size)⟩
  · have hne : ¬ (i : Int) = (j : Int) := by omega
    by_cases hlt : X * q < D
    · rw [decide_eq_true hlt] at q53
      clear q58 q52
      refine (wpIn_wide (n := 0)).1 ?_
      refine Many.region_many (Go.Proofs.Ytbocmbhinjkjlaa.Cb w9) mixed_ok (by kernel_rfl) (fun _ _ _ _ h => h) (fun s _ => Go.Proofs.Ytbocmbhinjkjlaa.Cb.start w9 s) ?_
      refine Many.lex_want (by rfl) (rdb (fun w hb => by (go_simp; try rfl))) ?_
      simp only [Act.put, List.setIfInBounds_toArray, List.set_cons_succ, List.set_cons_zero, Nat.reduceAdd]
      refine Many.lex_want (by rfl) (rdb (fun w hb => by (go_simp; try rfl))) ?_
      simp only [Act.put, List.setIfInBounds_toArray, List.set_cons_succ, List.set_cons_zero, Nat.reduceAdd]
      refine Many.lex_want (by rfl) (rdb (v := .bool true) (fun w hb => by (skip; go_simp; try rfl))) ?_
      simp only [Act.put, List.setIfInBounds_toArray, List.set_cons_succ, List.set_cons_zero, Nat.reduceAdd]
      refine Many.lex_want (by rfl) (rdb (v := .bool true) (fun w hb => by (skip; go_simp; try rfl))) ?_
      simp only [Act.put, List.setIfInBounds_toArray, List.set_cons_succ, List.set_cons_zero, Nat.reduceAdd]
      refine Many.lex_want (by rfl) (rdb (fun w hb => by (go_simp; try rfl))) ?_
      simp only [Act.put, List.setIfInBounds_toArray, List.set_cons_succ, List.set_cons_zero, Nat.reduceAdd]
      refine Many.lex_want (by rfl) (rdb (fun w hb => by (go_simp; try rfl))) ?_
      simp only [Act.put, List.setIfInBounds_toArray, List.set_cons_succ, List.set_cons_zero, Nat.reduceAdd]
      refine Many.lex_want (by rfl) (rdb (v := .pointer (some ⟨Gb, i * 2, none⟩)) (fun w hb => by (skip; go_simp; try rfl))) ?_
      simp only [Act.put, List.setIfInBounds_toArray, List.set_cons_succ, List.set_cons_zero, Nat.reduceAdd]
      refine Many.lex_want (by rfl) (rdb (v := .agg #[.int .i64 xi0, .int .i64 xi1]) (fun w hb => by (have c0 := cell_below hbi1 hb; have c1 := cell_below hbi2 hb; go_simp; try rfl))) ?_
      simp only [Act.put, List.setIfInBounds_toArray, List.set_cons_succ, List.set_cons_zero, Nat.reduceAdd]
      refine Many.lex_want (by rfl) (rdb (v := .agg #[.int .i64 1, .int .i64 q]) (fun w hb => by (obtain ⟨c0, c1, f0, f1⟩ := ho15 _ (hb98.trans (hb.mono hb98.size)); go_simp; try rfl))) ?_
      simp only [Act.put, List.setIfInBounds_toArray, List.set_cons_succ, List.set_cons_zero, Nat.reduceAdd]
      refine Many.lex_want (by rfl) (clb q53 (fun w hb => by (go_simp; try rfl))) ?_
      simp only [Act.put, List.setIfInBounds_toArray, List.set_cons_succ, List.set_cons_zero, Nat.reduceAdd]
      refine Many.lex_want (by rfl) (rdb (v := .bool false) (fun w hb => by (skip; go_simp; try rfl))) ?_
      simp only [Act.put, List.setIfInBounds_toArray, List.set_cons_succ, List.set_cons_zero, Nat.reduceAdd]
      refine Many.lex_want (by rfl) (rdb (v := .bool false) (fun w hb => by (skip; go_simp; try rfl))) ?_
      simp only [Act.put, List.setIfInBounds_toArray, List.set_cons_succ, List.set_cons_zero, Nat.reduceAdd]
      refine Many.lex_nil fun s W1 hs hC => ?_
      have hC : Below w9.heap.size w9 W1 := hC
      have hb98 := hb98.trans (hC.mono hb98.size)
      have hbi1 := cell_below hbi1 hC
      have hbi2 := cell_below hbi2 hC
      clear hC hs q53
      go_wp2
      refine (wpIn_wide (n := 0)).1 ?_
      refine Many.region_many (Go.Proofs.Ytbocmbhinjkjlaa.Cb W1) mixed_ok (by kernel_rfl) (fun _ _ _ _ h => h) (fun s _ => Go.Proofs.Ytbocmbhinjkjlaa.Cb.start W1 s) ?_
      refine Many.lex_want (by rfl) (rdb (fun w hb => by (go_simp; try rfl))) ?_
      simp only [Act.put, List.setIfInBounds_toArray, List.set_cons_succ, List.set_cons_zero, Nat.reduceAdd]
      refine Many.lex_want (by rfl) (rdb (fun w hb => by (go_simp; try rfl))) ?_
      simp only [Act.put, List.setIfInBounds_toArray, List.set_cons_succ, List.set_cons_zero, Nat.reduceAdd]
      refine Many.lex_want (by rfl) (rdb (v := .bool false) (fun w hb => by (skip; go_simp; try rfl))) ?_
      simp only [Act.put, List.setIfInBounds_toArray, List.set_cons_succ, List.set_cons_zero, Nat.reduceAdd]
      refine Many.lex_want (by rfl) (rdb (v := .bool false) (fun w hb => by (skip; go_simp; try rfl))) ?_
      simp only [Act.put, List.setIfInBounds_toArray, List.set_cons_succ, List.set_cons_zero, Nat.reduceAdd]
      refine Many.lex_want (by rfl) (rdb (fun w hb => by (go_simp; try rfl))) ?_
      simp only [Act.put, List.setIfInBounds_toArray, List.set_cons_succ, List.set_cons_zero, Nat.reduceAdd]
      refine Many.lex_want (by rfl) (rdb (fun w hb => by (go_simp; try rfl))) ?_
      simp only [Act.put, List.setIfInBounds_toArray, List.set_cons_succ, List.set_cons_zero, Nat.reduceAdd]
      refine Many.lex_want (by rfl) (rdb (v := .pointer (some ⟨Gb, i * 2, none⟩)) (fun w hb => by (skip; go_simp; try rfl))) ?_
      simp only [Act.put, List.setIfInBounds_toArray, List.set_cons_succ, List.set_cons_zero, Nat.reduceAdd]
      refine Many.lex_want (by rfl) (rdb (v := .agg #[.int .i64 xi0, .int .i64 xi1]) (fun w hb => by (have c0 := cell_below hbi1 hb; have c1 := cell_below hbi2 hb; go_simp; try rfl))) ?_
      simp only [Act.put, List.setIfInBounds_toArray, List.set_cons_succ, List.set_cons_zero, Nat.reduceAdd]
      refine Many.lex_want (by rfl) (rdb (fun w hb => by (go_simp; try rfl))) ?_
      simp only [Act.put, List.setIfInBounds_toArray, List.set_cons_succ, List.set_cons_zero, Nat.reduceAdd]
      refine Many.lex_want (by rfl) (rdb (fun w hb => by (go_simp; try rfl))) ?_
      simp only [Act.put, List.setIfInBounds_toArray, List.set_cons_succ, List.set_cons_zero, Nat.reduceAdd]
      refine Many.lex_want (by rfl) (rdb (v := .pointer (some ⟨G, i * 2, none⟩)) (fun w hb => by (skip; go_simp; try rfl))) ?_
      simp only [Act.put, List.setIfInBounds_toArray, List.set_cons_succ, List.set_cons_zero, Nat.reduceAdd]
      refine Many.lex_want (by rfl) (rdb (v := .agg #[.int .i64 xi0, .int .i64 xi1]) (fun w hb => by (obtain ⟨c0, c1⟩ := hAi _ (hb98.trans (hb.mono hb98.size)); go_simp; try rfl))) ?_
      simp only [Act.put, List.setIfInBounds_toArray, List.set_cons_succ, List.set_cons_zero, Nat.reduceAdd]
      refine Many.lex_want (by rfl) (rdb (v := .bool true) (fun w hb => by (have e := eXi; go_simp; try rfl))) ?_
      simp only [Act.put, List.setIfInBounds_toArray, List.set_cons_succ, List.set_cons_zero, Nat.reduceAdd]
      refine Many.lex_want (by rfl) (rdb (v := .bool true) (fun w hb => by (skip; go_simp; try rfl))) ?_
      simp only [Act.put, List.setIfInBounds_toArray, List.set_cons_succ, List.set_cons_zero, Nat.reduceAdd]
      refine Many.lex_want (by rfl) (rdb (v := .bool true) (fun w hb => by (skip; go_simp; try rfl))) ?_
      simp only [Act.put, List.setIfInBounds_toArray, List.set_cons_succ, List.set_cons_zero, Nat.reduceAdd]
      refine lex_skip (by rfl) Cb.keep ?_
      simp only [Act.put, List.setIfInBounds_toArray, List.set_cons_succ, List.set_cons_zero, Nat.reduceAdd]
      refine lex_skip (by rfl) Cb.keep ?_
      simp only [Act.put, List.setIfInBounds_toArray, List.set_cons_succ, List.set_cons_zero, Nat.reduceAdd]
      refine lex_skip (by rfl) Cb.keep ?_
      simp only [Act.put, List.setIfInBounds_toArray, List.set_cons_succ, List.set_cons_zero, Nat.reduceAdd]
      refine lex_skip (by rfl) Cb.keep ?_
      simp only [Act.put, List.setIfInBounds_toArray, List.set_cons_succ, List.set_cons_zero, Nat.reduceAdd]
      refine lex_skip (by rfl) Cb.keep ?_
      simp only [Act.put, List.setIfInBounds_toArray, List.set_cons_succ, List.set_cons_zero, Nat.reduceAdd]
      refine Many.lex_want (by rfl) (rdb (v := .bool true) (fun w hb => by (skip; go_simp; try rfl))) ?_
      simp only [Act.put, List.setIfInBounds_toArray, List.set_cons_succ, List.set_cons_zero, Nat.reduceAdd]
      refine Many.lex_nil fun s W2 hs hC => ?_
      have hC : Below W1.heap.size W1 W2 := hC
      have hb := hb98.trans (hC.mono hb98.size)
      have hbw := hw8b.trans (hb.mono hw8b.size)
      clear hC hs
      go_wp2_with (go_at_call 25; refine (awake_any _).mono ?_; rintro e w20 ⟨rfl, hb20⟩)
      go_ret
      exact ⟨rfl, hbw.trans (hb20.mono hbw.size)⟩
    · rw [decide_eq_false hlt] at q53
      refine (wpIn_wide (n := 0)).1 ?_
      refine Many.region_many (Go.Proofs.Ytbocmbhinjkjlaa.Cb w9) mixed_ok (by kernel_rfl) (fun _ _ _ _ h => h) (fun s _ => Go.Proofs.Ytbocmbhinjkjlaa.Cb.start w9 s) ?_
      refine Many.lex_want (by rfl) (rdb (fun w hb => by (go_simp; try rfl))) ?_
      simp only [Act.put, List.setIfInBounds_toArray, List.set_cons_succ, List.set_cons_zero, Nat.reduceAdd]
      refine Many.lex_want (by rfl) (rdb (fun w hb => by (go_simp; try rfl))) ?_
      simp only [Act.put, List.setIfInBounds_toArray, List.set_cons_succ, List.set_cons_zero, Nat.reduceAdd]
      refine Many.lex_want (by rfl) (rdb (v := .bool true) (fun w hb => by (skip; go_simp; try rfl))) ?_
      simp only [Act.put, List.setIfInBounds_toArray, List.set_cons_succ, List.set_cons_zero, Nat.reduceAdd]
      refine Many.lex_want (by rfl) (rdb (v := .bool true) (fun w hb => by (skip; go_simp; try rfl))) ?_
      simp only [Act.put, List.setIfInBounds_toArray, List.set_cons_succ, List.set_cons_zero, Nat.reduceAdd]
      refine Many.lex_want (by rfl) (rdb (fun w hb => by (go_simp; try rfl))) ?_
      simp only [Act.put, List.setIfInBounds_toArray, List.set_cons_succ, List.set_cons_zero, Nat.reduceAdd]
      refine Many.lex_want (by rfl) (rdb (fun w hb => by (go_simp; try rfl))) ?_
      simp only [Act.put, List.setIfInBounds_toArray, List.set_cons_succ, List.set_cons_zero, Nat.reduceAdd]
      refine Many.lex_want (by rfl) (rdb (v := .pointer (some ⟨Gb, i * 2, none⟩)) (fun w hb => by (skip; go_simp; try rfl))) ?_
      simp only [Act.put, List.setIfInBounds_toArray, List.set_cons_succ, List.set_cons_zero, Nat.reduceAdd]
      refine Many.lex_want (by rfl) (rdb (v := .agg #[.int .i64 xi0, .int .i64 xi1]) (fun w hb => by (have c0 := cell_below hbi1 hb; have c1 := cell_below hbi2 hb; go_simp; try rfl))) ?_
      simp only [Act.put, List.setIfInBounds_toArray, List.set_cons_succ, List.set_cons_zero, Nat.reduceAdd]
      refine Many.lex_want (by rfl) (rdb (v := .agg #[.int .i64 1, .int .i64 q]) (fun w hb => by (obtain ⟨c0, c1, f0, f1⟩ := ho15 _ (hb98.trans (hb.mono hb98.size)); go_simp; try rfl))) ?_
      simp only [Act.put, List.setIfInBounds_toArray, List.set_cons_succ, List.set_cons_zero, Nat.reduceAdd]
      refine Many.lex_want (by rfl) (clb q53 (fun w hb => by (go_simp; try rfl))) ?_
      simp only [Act.put, List.setIfInBounds_toArray, List.set_cons_succ, List.set_cons_zero, Nat.reduceAdd]
      refine Many.lex_want (by rfl) (rdb (v := .bool true) (fun w hb => by (skip; go_simp; try rfl))) ?_
      simp only [Act.put, List.setIfInBounds_toArray, List.set_cons_succ, List.set_cons_zero, Nat.reduceAdd]
      refine Many.lex_want (by rfl) (rdb (v := .bool true) (fun w hb => by (skip; go_simp; try rfl))) ?_
      simp only [Act.put, List.setIfInBounds_toArray, List.set_cons_succ, List.set_cons_zero, Nat.reduceAdd]
      refine Many.lex_nil fun s W1 hs hC => ?_
      have hC : Below w9.heap.size w9 W1 := hC
      have hb98 := hb98.trans (hC.mono hb98.size)
      have hRb := hRb.after hC
      clear hC hs q53 hbi1 hbi2
      go_wp2
      have hca : ∀ W, RowX W Gb a → W.cell? ⟨Gb, i * 2, none⟩ = some (.int .i64 xi0) ∧ W.cell? ⟨Gb, i * 2 + 1, none⟩ = some (.int .i64 xi1) := fun W h => by
        have := h.cell (i := i) (by have := halK.out; omega)
        rwa [haiK.out] at this
      have hcb : ∀ W, RowX W Gb (a.set i (u0, u1)) → W.cell? ⟨Gb, j * 2, none⟩ = some (.int .i64 xj0) ∧ W.cell? ⟨Gb, j * 2 + 1, none⟩ = some (.int .i64 xj1) := fun W h => by
        have := h.cell (i := j) (by simp; have := halK.out; omega)
        rwa [getD_set (by have := halK.out; omega), if_neg (fun e => hij e.symm), hajK.out] at this
      refine (wpIn_wide (n := 0)).1 ?_
      refine Inv.region_inv (fun t act W => act = { tmps := #[Value.slice A0 n0 cap0, Value.int IntKind.i64 F, Value.agg #[Value.int IntKind.i64 o0, Value.int IntKind.i64 o1, Value.int IntKind.i64 o2], undef, undef, Value.pointer (some ⟨w.heap.size, 0, none⟩), Value.bool false, Value.slice A n cap, Value.slice (some ⟨G, 0, none⟩) n n, Value.int IntKind.i64 0, Value.pointer (some ⟨w4.heap.size, 0, none⟩), Value.bool true, Value.int IntKind.i64 0, Value.int IntKind.i64 (i : Nat), Value.int IntKind.i64 (j : Nat), Value.pointer (some ⟨g15, 0, none⟩), Value.slice (some ⟨Gb, 0, none⟩) n cb, undef, undef, Value.tuple #[Value.slice A n cap, Value.int IntKind.i64 F], Value.slice A0 n0 cap0, Value.int IntKind.i64 E, Value.tuple #[Value.slice A n cap, Value.int IntKind.i64 F], Value.slice A n cap, Value.int IntKind.i64 F, Value.tuple #[Value.slice (some ⟨G, 0, none⟩) n n, Value.int IntKind.i64 0], Value.slice A n cap, Value.int IntKind.i64 F, Value.tuple #[Value.slice (some ⟨G, 0, none⟩) n n, Value.int IntKind.i64 0], Value.slice (some ⟨G, 0, none⟩) n n, Value.int IntKind.i64 0, Value.int IntKind.i64 0, Value.bool false, Value.bool false, Value.slice (some ⟨G, 0, none⟩) n n, Value.int IntKind.i64 (n : Nat), Value.slice A n cap, Value.int IntKind.i64 (n : Nat), Value.bool false, Value.bool false, Value.bool false, Value.slice (some ⟨G, 0, none⟩) n n, Value.bool true, Value.bool false, Value.bool false, Value.tuple #[Value.agg #[Value.int IntKind.i64 0, Value.int IntKind.i64 0], Value.bool true, Value.int IntKind.i64 0], Value.slice A n cap, Value.int IntKind.i64 F, Value.slice (some ⟨G, 0, none⟩) n n, Value.tuple #[Value.agg #[Value.int IntKind.i64 0, Value.int IntKind.i64 0], Value.bool true, Value.int IntKind.i64 0], Value.agg #[Value.int IntKind.i64 0, Value.int IntKind.i64 0], Value.bool true, Value.int IntKind.i64 0, Value.int IntKind.i64 0, Value.bool false, Value.bool false, Value.bool true, Value.bool false, Value.bool false, Value.pointer (some ⟨w.heap.size, 0, none⟩), Value.int IntKind.i64 o0, Value.slice A n cap, Value.int IntKind.i64 (n : Nat), Value.int IntKind.i64 (i : Nat), Value.pointer (some ⟨w.heap.size, 1, none⟩), Value.int IntKind.i64 o1, Value.slice A n cap, Value.int IntKind.i64 (n : Nat), Value.int IntKind.i64 (j : Nat), Value.pointer (some ⟨w.heap.size, 2, none⟩), Value.int IntKind.i64 o2, Value.int IntKind.i64 (m2 : Nat), Value.int IntKind.i64 q, Value.agg #[Value.int IntKind.i64 1, Value.int IntKind.i64 q], Value.slice (some ⟨G, 0, none⟩) n n, Value.slice (some ⟨Gb, 0, none⟩) n cb, Value.int IntKind.i64 (i : Nat), Value.int IntKind.i64 (j : Nat), Value.bool true, Value.bool true, Value.slice (some ⟨Gb, 0, none⟩) n cb, Value.int IntKind.i64 (i : Nat), Value.pointer (some ⟨Gb, i * 2, none⟩), Value.agg #[Value.int IntKind.i64 xi0, Value.int IntKind.i64 xi1], Value.agg #[Value.int IntKind.i64 1, Value.int IntKind.i64 q], Value.bool false, Value.bool true, Value.bool true, if t 0 = true then .slice (some ⟨Gb, 0, none⟩) n cb else undef, if t 1 = true then .int .i64 (i : Nat) else undef, if t 2 = true then .slice (some ⟨Gb, 0, none⟩) n cb else undef, if t 3 = true then .int .i64 (i : Nat) else undef, if t 4 = true then .pointer (some ⟨Gb, i * 2, none⟩) else undef, if t 5 = true then .agg #[.int .i64 xi0, .int .i64 xi1] else undef, if t 6 = true then .agg #[.int .i64 1, .int .i64 q] else undef, if t 7 = true then .agg #[.int .i64 u0, .int .i64 u1] else undef, if t 8 = true then .pointer (some ⟨Gb, i * 2, none⟩) else undef, undef, undef, undef, undef, undef, undef, undef, undef, undef, undef, undef, undef, undef, undef, undef, undef, undef, undef, undef, undef, undef, undef, undef, undef, undef, undef, undef, undef, undef, undef, undef, undef, undef, undef, undef, undef, undef, undef, undef, undef, undef, undef, undef, undef, undef, undef, undef, undef, undef, undef, undef, undef, undef, undef, undef, undef, undef, undef, undef, undef, undef, undef], defers := [] } ∧ StI W1 w8.heap.size (fun W => RowX W Gb a) (fun W => RowX W Gb (a.set i (u0, u1))) 9 7 t  W) mixed_ok (by kernel_rfl) ?_ ?_ ?_
      · intro t hs
        refine ⟨?_, StI.start (hRb.after (Below.refl _ _).drew) (hs 9 (by decide))⟩
        simp only [hs 0 (by decide), hs 1 (by decide), hs 2 (by decide), hs 3 (by decide), hs 4 (by decide), hs 5 (by decide), hs 6 (by decide), hs 7 (by decide), hs 8 (by decide), hs 9 (by decide), Bool.false_eq_true, if_false]
      · refine ⟨?_, ?_, ?_, ?_, ?_, ?_, ?_, ?_, ?_, ?_, trivial⟩
        · rintro t act W hun hdep hbeh ⟨rfl, hT⟩
          (try simp only [Nat.reduceAdd] at hun)
          refine .inl ⟨by rfl, Inv.comesV_val (.slice (some ⟨Gb, 0, none⟩) n cb) W (by (go_simp; try rfl)) ⟨by (simp only [Act.put, List.setIfInBounds_toArray, List.set_cons_succ, List.set_cons_zero, Manyd.upd, Nat.reduceAdd, Nat.reduceBEq, Bool.or_false, Bool.or_true, if_true]), StI.keep (i := 0) (by decide) hT⟩⟩
        · rintro t act W hun hdep hbeh ⟨rfl, hT⟩
          (try simp only [Nat.reduceAdd] at hun)
          refine .inl ⟨by rfl, Inv.comesV_val (.int .i64 (i : Nat)) W (by (go_simp; try rfl)) ⟨by (simp only [Act.put, List.setIfInBounds_toArray, List.set_cons_succ, List.set_cons_zero, Manyd.upd, Nat.reduceAdd, Nat.reduceBEq, Bool.or_false, Bool.or_true, if_true]), StI.keep (i := 1) (by decide) hT⟩⟩
        · rintro t act W hun hdep hbeh ⟨rfl, hT⟩
          (try simp only [Nat.reduceAdd] at hun)
          refine .inl ⟨by rfl, Inv.comesV_val (.slice (some ⟨Gb, 0, none⟩) n cb) W (by (go_simp; try rfl)) ⟨by (simp only [Act.put, List.setIfInBounds_toArray, List.set_cons_succ, List.set_cons_zero, Manyd.upd, Nat.reduceAdd, Nat.reduceBEq, Bool.or_false, Bool.or_true, if_true]), StI.keep (i := 2) (by decide) hT⟩⟩
        · rintro t act W hun hdep hbeh ⟨rfl, hT⟩
          (try simp only [Nat.reduceAdd] at hun)
          refine .inl ⟨by rfl, Inv.comesV_val (.int .i64 (i : Nat)) W (by (go_simp; try rfl)) ⟨by (simp only [Act.put, List.setIfInBounds_toArray, List.set_cons_succ, List.set_cons_zero, Manyd.upd, Nat.reduceAdd, Nat.reduceBEq, Bool.or_false, Bool.or_true, if_true]), StI.keep (i := 3) (by decide) hT⟩⟩
        · rintro t act W hun hdep hbeh ⟨rfl, hT⟩
          (try simp only [Nat.reduceAdd] at hun)
          have h2 : t 2 = true := Inv.depB_mem 2 hdep (by rfl)
          have h3 : t 3 = true := Inv.depB_mem 3 hdep (by rfl)
          refine .inl ⟨by rfl, Inv.comesV_val (.pointer (some ⟨Gb, i * 2, none⟩)) W (by (simp only [h2, h3, if_true, Bool.false_eq_true, if_false]; go_simp; try rfl)) ⟨by (simp only [Act.put, List.setIfInBounds_toArray, List.set_cons_succ, List.set_cons_zero, Manyd.upd, Nat.reduceAdd, Nat.reduceBEq, Bool.or_false, Bool.or_true, if_true]), StI.keep (i := 4) (by decide) hT⟩⟩
        · rintro t act W hun hdep hbeh ⟨rfl, hT⟩
          (try simp only [Nat.reduceAdd] at hun)
          have h4 : t 4 = true := Inv.depB_mem 4 hdep (by rfl)
          have n7 : t 7 = false := hbeh 7 (by kernel_rfl)
          obtain ⟨c0, c1⟩ := hca _ (hT.r0 (hT.no n7))
          refine .inl ⟨by rfl, Inv.comesV_val (.agg #[.int .i64 xi0, .int .i64 xi1]) W (by (simp only [h4, if_true, Bool.false_eq_true, if_false]; go_simp; try rfl)) ⟨by (simp only [Act.put, List.setIfInBounds_toArray, List.set_cons_succ, List.set_cons_zero, Manyd.upd, Nat.reduceAdd, Nat.reduceBEq, Bool.or_false, Bool.or_true, if_true]), StI.keep (i := 5) (by decide) hT⟩⟩
        · rintro t act W hun hdep hbeh ⟨rfl, hT⟩
          (try simp only [Nat.reduceAdd] at hun)
          obtain ⟨c0, c1, f0, f1⟩ := ho15 _ (hb98.trans hT.bw)
          refine .inl ⟨by rfl, Inv.comesV_val (.agg #[.int .i64 1, .int .i64 q]) W (by (go_simp; try rfl)) ⟨by (simp only [Act.put, List.setIfInBounds_toArray, List.set_cons_succ, List.set_cons_zero, Manyd.upd, Nat.reduceAdd, Nat.reduceBEq, Bool.or_false, Bool.or_true, if_true]), StI.keep (i := 6) (by decide) hT⟩⟩
        · rintro t act W hun hdep hbeh ⟨rfl, hT⟩
          (try simp only [Nat.reduceAdd] at hun)
          have h5 : t 5 = true := Inv.depB_mem 5 hdep (by rfl)
          have h6 : t 6 = true := Inv.depB_mem 6 hdep (by rfl)
          refine .inl ⟨by rfl, Inv.comesV_call 58 #[.agg #[.int .i64 xi0, .int .i64 xi1], .agg #[.int .i64 1, .int .i64 q]] W (by (simp only [h5, h6, if_true, Bool.false_eq_true, if_false]; go_simp; try rfl)) ((q58 W).mono fun e w5 hw5 => ⟨_, hw5.1, by (simp only [Act.put, List.setIfInBounds_toArray, List.set_cons_succ, List.set_cons_zero, Manyd.upd, Nat.reduceAdd, Nat.reduceBEq, Bool.or_false, Bool.or_true, if_true]), StI.call (i := 7) (by decide) (fun h => h.after hw5.2) (fun h => h.after hw5.2) hw5.2 (Nat.le_trans hb98.size hT.bw.size) hT⟩)⟩
        · rintro t act W hun hdep hbeh ⟨rfl, hT⟩
          (try simp only [Nat.reduceAdd] at hun)
          have h0 : t 0 = true := Inv.depB_mem 0 hdep (by rfl)
          have h1 : t 1 = true := Inv.depB_mem 1 hdep (by rfl)
          refine .inl ⟨by rfl, Inv.comesV_val (.pointer (some ⟨Gb, i * 2, none⟩)) W (by (simp only [h0, h1, if_true, Bool.false_eq_true, if_false]; go_simp; try rfl)) ⟨by (simp only [Act.put, List.setIfInBounds_toArray, List.set_cons_succ, List.set_cons_zero, Manyd.upd, Nat.reduceAdd, Nat.reduceBEq, Bool.or_false, Bool.or_true, if_true]), StI.keep (i := 8) (by decide) hT⟩⟩
        · rintro t act W hun hdep hbeh ⟨rfl, hT⟩
          (try simp only [Nat.reduceAdd] at hun)
          have h7 : t 7 = true := Inv.depB_mem 7 hdep (by rfl)
          have h8 : t 8 = true := Inv.depB_mem 8 hdep (by rfl)
          obtain ⟨⟨z0, hz0⟩, hf0⟩ := (hT.r0 hun).can (i := i * 2) (by first | (have := halK.out; omega) | (simp; have := halK.out; omega))
          obtain ⟨⟨z1, hz1⟩, hf1⟩ := (hT.r0 hun).can (i := i * 2 + 1) (by first | (have := halK.out; omega) | (simp; have := halK.out; omega))
          refine .inl ⟨by rfl, Inv.comesV_skip ((W.setCell ⟨Gb, i * 2, none⟩ (.int .i64 u0)).setCell ⟨Gb, i * 2 + 1, none⟩ (.int .i64 u1)) (by (simp only [h7, h8, if_true, Bool.false_eq_true, if_false]; go_simp; try rfl)) ⟨by (simp only [Act.put, List.setIfInBounds_toArray, List.set_cons_succ, List.set_cons_zero, Manyd.upd, Nat.reduceAdd, Nat.reduceBEq, Bool.or_false, Bool.or_true, if_true]), StI.set h7 ((hT.bw.setCell (p := ⟨Gb, i * 2, none⟩) hGb _).setCell (p := ⟨Gb, i * 2 + 1, none⟩) hGb _) ((hT.r0 hun).set (by first | (have := halK.out; omega) | (simp; have := halK.out; omega)) _ _)⟩⟩
      rintro t a' W2 hs ⟨rfl, hT⟩
      simp only [hs 0 (by decide), hs 1 (by decide), hs 2 (by decide), hs 3 (by decide), hs 4 (by decide), hs 5 (by decide), hs 6 (by decide), hs 7 (by decide), hs 8 (by decide), hs 9 (by decide), if_true]
      have hRb := hT.r1 (hs 9 (by decide))
      have hb98 := hb98.trans hT.bw
      clear hT hs q58
      go_wp2
      refine (wpIn_wide (n := 0)).1 ?_
      refine Inv.region_inv (fun t act W => act = { tmps := #[Value.slice A0 n0 cap0, Value.int IntKind.i64 F, Value.agg #[Value.int IntKind.i64 o0, Value.int IntKind.i64 o1, Value.int IntKind.i64 o2], undef, undef, Value.pointer (some ⟨w.heap.size, 0, none⟩), Value.bool false, Value.slice A n cap, Value.slice (some ⟨G, 0, none⟩) n n, Value.int IntKind.i64 0, Value.pointer (some ⟨w4.heap.size, 0, none⟩), Value.bool true, Value.int IntKind.i64 0, Value.int IntKind.i64 (i : Nat), Value.int IntKind.i64 (j : Nat), Value.pointer (some ⟨g15, 0, none⟩), Value.slice (some ⟨Gb, 0, none⟩) n cb, undef, undef, Value.tuple #[Value.slice A n cap, Value.int IntKind.i64 F], Value.slice A0 n0 cap0, Value.int IntKind.i64 E, Value.tuple #[Value.slice A n cap, Value.int IntKind.i64 F], Value.slice A n cap, Value.int IntKind.i64 F, Value.tuple #[Value.slice (some ⟨G, 0, none⟩) n n, Value.int IntKind.i64 0], Value.slice A n cap, Value.int IntKind.i64 F, Value.tuple #[Value.slice (some ⟨G, 0, none⟩) n n, Value.int IntKind.i64 0], Value.slice (some ⟨G, 0, none⟩) n n, Value.int IntKind.i64 0, Value.int IntKind.i64 0, Value.bool false, Value.bool false, Value.slice (some ⟨G, 0, none⟩) n n, Value.int IntKind.i64 (n : Nat), Value.slice A n cap, Value.int IntKind.i64 (n : Nat), Value.bool false, Value.bool false, Value.bool false, Value.slice (some ⟨G, 0, none⟩) n n, Value.bool true, Value.bool false, Value.bool false, Value.tuple #[Value.agg #[Value.int IntKind.i64 0, Value.int IntKind.i64 0], Value.bool true, Value.int IntKind.i64 0], Value.slice A n cap, Value.int IntKind.i64 F, Value.slice (some ⟨G, 0, none⟩) n n, Value.tuple #[Value.agg #[Value.int IntKind.i64 0, Value.int IntKind.i64 0], Value.bool true, Value.int IntKind.i64 0], Value.agg #[Value.int IntKind.i64 0, Value.int IntKind.i64 0], Value.bool true, Value.int IntKind.i64 0, Value.int IntKind.i64 0, Value.bool false, Value.bool false, Value.bool true, Value.bool false, Value.bool false, Value.pointer (some ⟨w.heap.size, 0, none⟩), Value.int IntKind.i64 o0, Value.slice A n cap, Value.int IntKind.i64 (n : Nat), Value.int IntKind.i64 (i : Nat), Value.pointer (some ⟨w.heap.size, 1, none⟩), Value.int IntKind.i64 o1, Value.slice A n cap, Value.int IntKind.i64 (n : Nat), Value.int IntKind.i64 (j : Nat), Value.pointer (some ⟨w.heap.size, 2, none⟩), Value.int IntKind.i64 o2, Value.int IntKind.i64 (m2 : Nat), Value.int IntKind.i64 q, Value.agg #[Value.int IntKind.i64 1, Value.int IntKind.i64 q], Value.slice (some ⟨G, 0, none⟩) n n, Value.slice (some ⟨Gb, 0, none⟩) n cb, Value.int IntKind.i64 (i : Nat), Value.int IntKind.i64 (j : Nat), Value.bool true, Value.bool true, Value.slice (some ⟨Gb, 0, none⟩) n cb, Value.int IntKind.i64 (i : Nat), Value.pointer (some ⟨Gb, i * 2, none⟩), Value.agg #[Value.int IntKind.i64 xi0, Value.int IntKind.i64 xi1], Value.agg #[Value.int IntKind.i64 1, Value.int IntKind.i64 q], Value.bool false, Value.bool true, Value.bool true, .slice (some ⟨Gb, 0, none⟩) n cb, .int .i64 (i : Nat), .slice (some ⟨Gb, 0, none⟩) n cb, .int .i64 (i : Nat), .pointer (some ⟨Gb, i * 2, none⟩), .agg #[.int .i64 xi0, .int .i64 xi1], .agg #[.int .i64 1, .int .i64 q], .agg #[.int .i64 u0, .int .i64 u1], .pointer (some ⟨Gb, i * 2, none⟩), if t 0 = true then .slice (some ⟨Gb, 0, none⟩) n cb else undef, if t 1 = true then .int .i64 (j : Nat) else undef, if t 2 = true then .slice (some ⟨Gb, 0, none⟩) n cb else undef, if t 3 = true then .int .i64 (j : Nat) else undef, if t 4 = true then .pointer (some ⟨Gb, j * 2, none⟩) else undef, if t 5 = true then .agg #[.int .i64 xj0, .int .i64 xj1] else undef, if t 6 = true then .agg #[.int .i64 1, .int .i64 q] else undef, if t 7 = true then .agg #[.int .i64 v0, .int .i64 v1] else undef, if t 8 = true then .pointer (some ⟨Gb, j * 2, none⟩) else undef, undef, undef, undef, undef, undef, undef, undef, undef, undef, undef, undef, undef, undef, undef, undef, undef, undef, undef, undef, undef, undef, undef, undef, undef, undef, undef, undef, undef, undef, undef, undef, undef, undef, undef, undef, undef, undef, undef, undef, undef, undef, undef, undef, undef, undef, undef, undef, undef, undef, undef, undef, undef, undef], defers := [] } ∧ StI W2 w8.heap.size (fun W => RowX W Gb (a.set i (u0, u1))) (fun W => RowX W Gb ((a.set i (u0, u1)).set j (v0, v1))) 9 7 t  W) mixed_ok (by kernel_rfl) ?_ ?_ ?_
      · intro t hs
        refine ⟨?_, StI.start (hRb.after (Below.refl _ _).drew) (hs 9 (by decide))⟩
        simp only [hs 0 (by decide), hs 1 (by decide), hs 2 (by decide), hs 3 (by decide), hs 4 (by decide), hs 5 (by decide), hs 6 (by decide), hs 7 (by decide), hs 8 (by decide), hs 9 (by decide), Bool.false_eq_true, if_false]
      · refine ⟨?_, ?_, ?_, ?_, ?_, ?_, ?_, ?_, ?_, ?_, trivial⟩
        · rintro t act W hun hdep hbeh ⟨rfl, hT⟩
          (try simp only [Nat.reduceAdd] at hun)
          refine .inl ⟨by rfl, Inv.comesV_val (.slice (some ⟨Gb, 0, none⟩) n cb) W (by (go_simp; try rfl)) ⟨by (simp only [Act.put, List.setIfInBounds_toArray, List.set_cons_succ, List.set_cons_zero, Manyd.upd, Nat.reduceAdd, Nat.reduceBEq, Bool.or_false, Bool.or_true, if_true]), StI.keep (i := 0) (by decide) hT⟩⟩
        · rintro t act W hun hdep hbeh ⟨rfl, hT⟩
          (try simp only [Nat.reduceAdd] at hun)
          refine .inl ⟨by rfl, Inv.comesV_val (.int .i64 (j : Nat)) W (by (go_simp; try rfl)) ⟨by (simp only [Act.put, List.setIfInBounds_toArray, List.set_cons_succ, List.set_cons_zero, Manyd.upd, Nat.reduceAdd, Nat.reduceBEq, Bool.or_false, Bool.or_true, if_true]), StI.keep (i := 1) (by decide) hT⟩⟩
        · rintro t act W hun hdep hbeh ⟨rfl, hT⟩
          (try simp only [Nat.reduceAdd] at hun)
          refine .inl ⟨by rfl, Inv.comesV_val (.slice (some ⟨Gb, 0, none⟩) n cb) W (by (go_simp; try rfl)) ⟨by (simp only [Act.put, List.setIfInBounds_toArray, List.set_cons_succ, List.set_cons_zero, Manyd.upd, Nat.reduceAdd, Nat.reduceBEq, Bool.or_false, Bool.or_true, if_true]), StI.keep (i := 2) (by decide) hT⟩⟩
        · rintro t act W hun hdep hbeh ⟨rfl, hT⟩
          (try simp only [Nat.reduceAdd] at hun)
          refine .inl ⟨by rfl, Inv.comesV_val (.int .i64 (j : Nat)) W (by (go_simp; try rfl)) ⟨by (simp only [Act.put, List.setIfInBounds_toArray, List.set_cons_succ, List.set_cons_zero, Manyd.upd, Nat.reduceAdd, Nat.reduceBEq, Bool.or_false, Bool.or_true, if_true]), StI.keep (i := 3) (by decide) hT⟩⟩
        · rintro t act W hun hdep hbeh ⟨rfl, hT⟩
          (try simp only [Nat.reduceAdd] at hun)
          have h2 : t 2 = true := Inv.depB_mem 2 hdep (by rfl)
          have h3 : t 3 = true := Inv.depB_mem 3 hdep (by rfl)
          refine .inl ⟨by rfl, Inv.comesV_val (.pointer (some ⟨Gb, j * 2, none⟩)) W (by (simp only [h2, h3, if_true, Bool.false_eq_true, if_false]; go_simp; try rfl)) ⟨by (simp only [Act.put, List.setIfInBounds_toArray, List.set_cons_succ, List.set_cons_zero, Manyd.upd, Nat.reduceAdd, Nat.reduceBEq, Bool.or_false, Bool.or_true, if_true]), StI.keep (i := 4) (by decide) hT⟩⟩
        · rintro t act W hun hdep hbeh ⟨rfl, hT⟩
          (try simp only [Nat.reduceAdd] at hun)
          have h4 : t 4 = true := Inv.depB_mem 4 hdep (by rfl)
          have n7 : t 7 = false := hbeh 7 (by kernel_rfl)
          obtain ⟨c0, c1⟩ := hcb _ (hT.r0 (hT.no n7))
          refine .inl ⟨by rfl, Inv.comesV_val (.agg #[.int .i64 xj0, .int .i64 xj1]) W (by (simp only [h4, if_true, Bool.false_eq_true, if_false]; go_simp; try rfl)) ⟨by (simp only [Act.put, List.setIfInBounds_toArray, List.set_cons_succ, List.set_cons_zero, Manyd.upd, Nat.reduceAdd, Nat.reduceBEq, Bool.or_false, Bool.or_true, if_true]), StI.keep (i := 5) (by decide) hT⟩⟩
        · rintro t act W hun hdep hbeh ⟨rfl, hT⟩
          (try simp only [Nat.reduceAdd] at hun)
          obtain ⟨c0, c1, f0, f1⟩ := ho15 _ (hb98.trans hT.bw)
          refine .inl ⟨by rfl, Inv.comesV_val (.agg #[.int .i64 1, .int .i64 q]) W (by (go_simp; try rfl)) ⟨by (simp only [Act.put, List.setIfInBounds_toArray, List.set_cons_succ, List.set_cons_zero, Manyd.upd, Nat.reduceAdd, Nat.reduceBEq, Bool.or_false, Bool.or_true, if_true]), StI.keep (i := 6) (by decide) hT⟩⟩
        · rintro t act W hun hdep hbeh ⟨rfl, hT⟩
          (try simp only [Nat.reduceAdd] at hun)
          have h5 : t 5 = true := Inv.depB_mem 5 hdep (by rfl)
          have h6 : t 6 = true := Inv.depB_mem 6 hdep (by rfl)
          refine .inl ⟨by rfl, Inv.comesV_call 52 #[.agg #[.int .i64 xj0, .int .i64 xj1], .agg #[.int .i64 1, .int .i64 q]] W (by (simp only [h5, h6, if_true, Bool.false_eq_true, if_false]; go_simp; try rfl)) ((q52 W).mono fun e w5 hw5 => ⟨_, hw5.1, by (simp only [Act.put, List.setIfInBounds_toArray, List.set_cons_succ, List.set_cons_zero, Manyd.upd, Nat.reduceAdd, Nat.reduceBEq, Bool.or_false, Bool.or_true, if_true]), StI.call (i := 7) (by decide) (fun h => h.after hw5.2) (fun h => h.after hw5.2) hw5.2 (Nat.le_trans hb98.size hT.bw.size) hT⟩)⟩
        · rintro t act W hun hdep hbeh ⟨rfl, hT⟩
          (try simp only [Nat.reduceAdd] at hun)
          have h0 : t 0 = true := Inv.depB_mem 0 hdep (by rfl)
          have h1 : t 1 = true := Inv.depB_mem 1 hdep (by rfl)
          refine .inl ⟨by rfl, Inv.comesV_val (.pointer (some ⟨Gb, j * 2, none⟩)) W (by (simp only [h0, h1, if_true, Bool.false_eq_true, if_false]; go_simp; try rfl)) ⟨by (simp only [Act.put, List.setIfInBounds_toArray, List.set_cons_succ, List.set_cons_zero, Manyd.upd, Nat.reduceAdd, Nat.reduceBEq, Bool.or_false, Bool.or_true, if_true]), StI.keep (i := 8) (by decide) hT⟩⟩
        · rintro t act W hun hdep hbeh ⟨rfl, hT⟩
          (try simp only [Nat.reduceAdd] at hun)
          have h7 : t 7 = true := Inv.depB_mem 7 hdep (by rfl)
          have h8 : t 8 = true := Inv.depB_mem 8 hdep (by rfl)
          obtain ⟨⟨z0, hz0⟩, hf0⟩ := (hT.r0 hun).can (i := j * 2) (by first | (have := halK.out; omega) | (simp; have := halK.out; omega))
          obtain ⟨⟨z1, hz1⟩, hf1⟩ := (hT.r0 hun).can (i := j * 2 + 1) (by first | (have := halK.out; omega) | (simp; have := halK.out; omega))
          refine .inl ⟨by rfl, Inv.comesV_skip ((W.setCell ⟨Gb, j * 2, none⟩ (.int .i64 v0)).setCell ⟨Gb, j * 2 + 1, none⟩ (.int .i64 v1)) (by (simp only [h7, h8, if_true, Bool.false_eq_true, if_false]; go_simp; try rfl)) ⟨by (simp only [Act.put, List.setIfInBounds_toArray, List.set_cons_succ, List.set_cons_zero, Manyd.upd, Nat.reduceAdd, Nat.reduceBEq, Bool.or_false, Bool.or_true, if_true]), StI.set h7 ((hT.bw.setCell (p := ⟨Gb, j * 2, none⟩) hGb _).setCell (p := ⟨Gb, j * 2 + 1, none⟩) hGb _) ((hT.r0 hun).set (by first | (have := halK.out; omega) | (simp; have := halK.out; omega)) _ _)⟩⟩
      rintro t a' W3 hs ⟨rfl, hT⟩
      simp only [hs 0 (by decide), hs 1 (by decide), hs 2 (by decide), hs 3 (by decide), hs 4 (by decide), hs 5 (by decide), hs 6 (by decide), hs 7 (by decide), hs 8 (by decide), hs 9 (by decide), if_true]
      have hRb := hT.r1 (hs 9 (by decide))
      have hb98 := hb98.trans hT.bw
      clear hT hs q52 hca hcb
      go_wp2
      obtain ⟨b, hb⟩ : ∃ b, Keep (((a.set i (u0, u1)).set j (v0, v1)) = b) := ⟨_, ⟨rfl⟩⟩
      rw [hb.out] at hRb
      have hbl : b.length = n := by rw [← hb.out]; simp [halK.out]
      have hbk : ∀ k, b.getD k (0, 0) = if k = j then (v0, v1) else if k = i then (u0, u1) else a.getD k (0, 0) := fun k => by
        rw [← hb.out, getD_set (by simp; have := halK.out; omega), getD_set (by have := halK.out; omega)]
      have hbi : b.getD i (0, 0) = (u0, u1) := by rw [hbk, if_neg hij, if_pos rfl]
      have hbj : b.getD j (0, 0) = (v0, v1) := by rw [hbk, if_pos rfl]
      have hux : ¬ (u0 = xi0 ∧ u1 = xi1) := fun h => by
        have := (red_eq_iff (a := X * q - D) (b := D * q) (c := X) (d := D) hM1 hD20.1).1 ⟨by rw [hu0.out, hxi0.out]; exact h.1, by rw [hu1.out, hxi1.out]; exact h.2⟩
        rw [Int.sub_mul, show X * q * D = X * (D * q) by ac_rfl] at this
        have := mul_pos1 hD20.1 hD20.1
        omega
      have huxb : ((u0 == xi0) && (u1 == xi1)) = false := by
        rw [Bool.eq_false_iff]; intro h
        rw [Bool.and_eq_true, beq_iff_eq, beq_iff_eq] at h
        exact hux h
      have eU := fun w => eq37 u0 u1 xi0 xi1 w
      rw [huxb] at eU
      have hbb := hRb.cell (i := i) (by omega)
      rw [hbi] at hbb
      obtain ⟨hbi1, hbi2⟩ := hbb
      simp only at hbi1 hbi2
      have hwb : Wide b := all_of_getp (p := fun z => In64 z.1 ∧ In64 z.2) fun k hk => by
        rw [hbk]
        have hz : In64 u0 ∧ In64 u1 ∧ In64 v0 ∧ In64 v1 := by
          obtain ⟨p1, p2, p3⟩ := red_le (X * q - D) hM1
          obtain ⟨r1, r2, r3⟩ := red_le (Y * q + D) hM1
          obtain ⟨_, _, _, _, p5, _⟩ := red_parts (X * q - D) hM1
          obtain ⟨_, _, _, _, r5, _⟩ := red_parts (Y * q + D) hM1
          rw [hu0.out] at p2 p3
          rw [hu1.out] at p1 p5
          rw [hv0.out] at r2 r3
          rw [hv1.out] at r1 r5
          exact ⟨⟨by omega, by omega⟩, ⟨by omega, by omega⟩, ⟨by omega, by omega⟩, ⟨by omega, by omega⟩⟩
        split
        · exact ⟨hz.2.2.1, hz.2.2.2⟩
        · split
          · exact ⟨hz.1, hz.2.1⟩
          · exact haw _ (getp (by have := halK.out; omega))
      have q32 := fun W (hb' : Below W3.heap.size W3 W) => divides_any (E := F) (hIn W (hb98.trans (hb'.mono hb98.size))) hVK.out.2.2 hVK.out.2.1 ((hRb.after hb').fracs (cap := cb) hbl) hwb (by omega)
      cases hAB : awB l F b with
      | false =>
        rw [hAB] at q32
        refine (wpIn_wide (n := 0)).1 ?_
        refine Many.region_many (Go.Proofs.Ytbocmbhinjkjlaa.Cb W3) mixed_ok (by kernel_rfl) (fun _ _ _ _ h => h) (fun s _ => Go.Proofs.Ytbocmbhinjkjlaa.Cb.start W3 s) ?_
        refine Many.lex_want (by rfl) (rdb (fun w hb => by (go_simp; try rfl))) ?_
        simp only [Act.put, List.setIfInBounds_toArray, List.set_cons_succ, List.set_cons_zero, Nat.reduceAdd]
        refine Many.lex_want (by rfl) (rdb (fun w hb => by (go_simp; try rfl))) ?_
        simp only [Act.put, List.setIfInBounds_toArray, List.set_cons_succ, List.set_cons_zero, Nat.reduceAdd]
        refine Many.lex_want (by rfl) (rdb (v := .bool false) (fun w hb => by (skip; go_simp; try rfl))) ?_
        simp only [Act.put, List.setIfInBounds_toArray, List.set_cons_succ, List.set_cons_zero, Nat.reduceAdd]
        refine Many.lex_want (by rfl) (rdb (v := .bool false) (fun w hb => by (skip; go_simp; try rfl))) ?_
        simp only [Act.put, List.setIfInBounds_toArray, List.set_cons_succ, List.set_cons_zero, Nat.reduceAdd]
        refine Many.lex_want (by rfl) (rdb (fun w hb => by (go_simp; try rfl))) ?_
        simp only [Act.put, List.setIfInBounds_toArray, List.set_cons_succ, List.set_cons_zero, Nat.reduceAdd]
        refine Many.lex_want (by rfl) (rdb (fun w hb => by (go_simp; try rfl))) ?_
        simp only [Act.put, List.setIfInBounds_toArray, List.set_cons_succ, List.set_cons_zero, Nat.reduceAdd]
        refine Many.lex_want (by rfl) (rdb (v := .pointer (some ⟨Gb, i * 2, none⟩)) (fun w hb => by (skip; go_simp; try rfl))) ?_
        simp only [Act.put, List.setIfInBounds_toArray, List.set_cons_succ, List.set_cons_zero, Nat.reduceAdd]
        refine Many.lex_want (by rfl) (rdb (v := .agg #[.int .i64 u0, .int .i64 u1]) (fun w hb => by (have c0 := cell_below hbi1 hb; have c1 := cell_below hbi2 hb; go_simp; try rfl))) ?_
        simp only [Act.put, List.setIfInBounds_toArray, List.set_cons_succ, List.set_cons_zero, Nat.reduceAdd]
        refine Many.lex_want (by rfl) (rdb (fun w hb => by (go_simp; try rfl))) ?_
        simp only [Act.put, List.setIfInBounds_toArray, List.set_cons_succ, List.set_cons_zero, Nat.reduceAdd]
        refine Many.lex_want (by rfl) (rdb (fun w hb => by (go_simp; try rfl))) ?_
        simp only [Act.put, List.setIfInBounds_toArray, List.set_cons_succ, List.set_cons_zero, Nat.reduceAdd]
        refine Many.lex_want (by rfl) (rdb (v := .pointer (some ⟨G, i * 2, none⟩)) (fun w hb => by (skip; go_simp; try rfl))) ?_
        simp only [Act.put, List.setIfInBounds_toArray, List.set_cons_succ, List.set_cons_zero, Nat.reduceAdd]
        refine Many.lex_want (by rfl) (rdb (v := .agg #[.int .i64 xi0, .int .i64 xi1]) (fun w hb => by (obtain ⟨c0, c1⟩ := hAi _ (hb98.trans (hb.mono hb98.size)); go_simp; try rfl))) ?_
        simp only [Act.put, List.setIfInBounds_toArray, List.set_cons_succ, List.set_cons_zero, Nat.reduceAdd]
        refine Many.lex_want (by rfl) (rdb (v := .bool false) (fun w hb => by (have e := eU; go_simp; try rfl))) ?_
        simp only [Act.put, List.setIfInBounds_toArray, List.set_cons_succ, List.set_cons_zero, Nat.reduceAdd]
        refine Many.lex_want (by rfl) (rdb (v := .bool false) (fun w hb => by (skip; go_simp; try rfl))) ?_
        simp only [Act.put, List.setIfInBounds_toArray, List.set_cons_succ, List.set_cons_zero, Nat.reduceAdd]
        refine Many.lex_want (by rfl) (rdb (v := .bool false) (fun w hb => by (skip; go_simp; try rfl))) ?_
        simp only [Act.put, List.setIfInBounds_toArray, List.set_cons_succ, List.set_cons_zero, Nat.reduceAdd]
        refine Many.lex_want (by rfl) (rdb (fun w hb => by (go_simp; try rfl))) ?_
        simp only [Act.put, List.setIfInBounds_toArray, List.set_cons_succ, List.set_cons_zero, Nat.reduceAdd]
        refine Many.lex_want (by rfl) (rdb (fun w hb => by (go_simp; try rfl))) ?_
        simp only [Act.put, List.setIfInBounds_toArray, List.set_cons_succ, List.set_cons_zero, Nat.reduceAdd]
        refine Many.lex_want (by rfl) (rdb (fun w hb => by (go_simp; try rfl))) ?_
        simp only [Act.put, List.setIfInBounds_toArray, List.set_cons_succ, List.set_cons_zero, Nat.reduceAdd]
        refine Many.lex_want (by rfl) (clw q32 (fun w hb => by (go_simp; try rfl))) ?_
        simp only [Act.put, List.setIfInBounds_toArray, List.set_cons_succ, List.set_cons_zero, Nat.reduceAdd]
        refine Many.lex_want (by rfl) (rdb (v := .bool true) (fun w hb => by (skip; go_simp; try rfl))) ?_
        simp only [Act.put, List.setIfInBounds_toArray, List.set_cons_succ, List.set_cons_zero, Nat.reduceAdd]
        refine Many.lex_want (by rfl) (rdb (v := .bool true) (fun w hb => by (skip; go_simp; try rfl))) ?_
        simp only [Act.put, List.setIfInBounds_toArray, List.set_cons_succ, List.set_cons_zero, Nat.reduceAdd]
        refine Many.lex_nil fun s W4 hs hC => ?_
        have hC : Below W3.heap.size W3 W4 := hC
        have hb := hb98.trans (hC.mono hb98.size)
        have hbw := hw8b.trans (hb.mono hw8b.size)
        clear hC hs
        go_wp2_with (go_at_call 25; refine (awake_any _).mono ?_; rintro e w20 ⟨rfl, hb20⟩)
        go_ret
        exact ⟨rfl, hbw.trans (hb20.mono hbw.size)⟩
      | true =>
        rw [hAB] at q32
        have hmis : ∃ i' j' : Nat, i' < j' ∧ j' < b.length ∧ agP l b i' j' = false := by
          have e1 : agr (l.getD i 0) (l.getD j 0) (u0, u1) (v0, v1) = false := by
            rw [Bool.eq_false_iff]; intro h
            rw [← hu0.out, ← hu1.out, ← hv0.out, ← hv1.out] at h
            have h := (agr_iff hM1).1 h
            rw [show X * q - D + (Y * q + D) = (X + Y) * q by rw [Int.add_mul]; omega, show l.getD i 0 * (D * q) = l.getD i 0 * D * q by ac_rfl, show l.getD j 0 * (D * q) = l.getD j 0 * D * q by ac_rfl, ← conX_mul hqb.1, hpi, Int.mul_assoc] at h
            omega
          have e2 : agr (l.getD j 0) (l.getD i 0) (v0, v1) (u0, u1) = false := by
            rw [Bool.eq_false_iff]; intro h
            rw [← hu0.out, ← hu1.out, ← hv0.out, ← hv1.out] at h
            have h := (agr_iff hM1).1 h
            rw [show Y * q + D + (X * q - D) = (Y + X) * q by rw [Int.add_mul]; omega, show l.getD i 0 * (D * q) = l.getD i 0 * D * q by ac_rfl, show l.getD j 0 * (D * q) = l.getD j 0 * D * q by ac_rfl, ← conX_mul hqb.1, hpj, Int.mul_assoc] at h
            omega
          rcases Nat.lt_or_ge i j with h | h
          · exact ⟨i, j, h, by omega, by unfold agP; rw [hbi, hbj]; exact e1⟩
          · exact ⟨j, i, by omega, by omega, by unfold agP; rw [hbi, hbj]; exact e2⟩
        obtain ⟨x, y, hxy, hyn, hF2⟩ := Fst.no hmis
        have q31 := fun W (hb' : Below W3.heap.size W3 W) => agrees_yes (w := W) (v := .slice A n cap) (hIn W (hb98.trans (hb'.mono hb98.size))) hD1.out ((hRb.after hb').fracs (cap := cb) hbl) hwb (by omega) hAB hF2
        have q23 := fun W (hb' : Below W3.heap.size W3 W) => right_no (w := W) (v := .slice A n cap) (hIn W (hb98.trans (hb'.mono hb98.size))) hVK.out hEK.out ((hRb.after hb').fracs (cap := cb) hbl) (by rw [hbl]; exact hn.out) (fun N' L' h' => ⟨i, by have := hn.out; omega, by
          rw [awL_get (by have := hn.out; omega), hbi]
          have hs := tal_same h' lv.out _ (getz (zs := l) (k := i) (by have := hn.out; omega))
          have k := red_same (a := awX 3 l.sum F N' L' (l.getD i 0)) (b := awD 3 l.sum N') (c := X) (d := D) (awD_one h'.n1) hD20.1 (by rw [← hX.out, ← hD.out]; exact hs)
          have e3 : awF 3 l F N' L' i = (xi0, xi1) := by
            unfold awF
            rw [k.1, k.2, hxi0.out, hxi1.out]
          rw [e3]
          intro e
          injection e with e1 e2
          exact hux ⟨e1.symm, e2.symm⟩⟩)
        have hxy' : (x : Int) < (y : Int) := by omega
        refine (wpIn_wide (n := 0)).1 ?_
        refine Many.region_many (Go.Proofs.Ytbocmbhinjkjlaa.Cb W3) mixed_ok (by kernel_rfl) (fun _ _ _ _ h => h) (fun s _ => Go.Proofs.Ytbocmbhinjkjlaa.Cb.start W3 s) ?_
        refine Many.lex_want (by rfl) (rdb (fun w hb => by (go_simp; try rfl))) ?_
        simp only [Act.put, List.setIfInBounds_toArray, List.set_cons_succ, List.set_cons_zero, Nat.reduceAdd]
        refine Many.lex_want (by rfl) (rdb (fun w hb => by (go_simp; try rfl))) ?_
        simp only [Act.put, List.setIfInBounds_toArray, List.set_cons_succ, List.set_cons_zero, Nat.reduceAdd]
        refine Many.lex_want (by rfl) (rdb (v := .bool false) (fun w hb => by (skip; go_simp; try rfl))) ?_
        simp only [Act.put, List.setIfInBounds_toArray, List.set_cons_succ, List.set_cons_zero, Nat.reduceAdd]
        refine Many.lex_want (by rfl) (rdb (v := .bool false) (fun w hb => by (skip; go_simp; try rfl))) ?_
        simp only [Act.put, List.setIfInBounds_toArray, List.set_cons_succ, List.set_cons_zero, Nat.reduceAdd]
        refine Many.lex_want (by rfl) (rdb (fun w hb => by (go_simp; try rfl))) ?_
        simp only [Act.put, List.setIfInBounds_toArray, List.set_cons_succ, List.set_cons_zero, Nat.reduceAdd]
        refine Many.lex_want (by rfl) (rdb (fun w hb => by (go_simp; try rfl))) ?_
        simp only [Act.put, List.setIfInBounds_toArray, List.set_cons_succ, List.set_cons_zero, Nat.reduceAdd]
        refine Many.lex_want (by rfl) (rdb (v := .pointer (some ⟨Gb, i * 2, none⟩)) (fun w hb => by (skip; go_simp; try rfl))) ?_
        simp only [Act.put, List.setIfInBounds_toArray, List.set_cons_succ, List.set_cons_zero, Nat.reduceAdd]
        refine Many.lex_want (by rfl) (rdb (v := .agg #[.int .i64 u0, .int .i64 u1]) (fun w hb => by (have c0 := cell_below hbi1 hb; have c1 := cell_below hbi2 hb; go_simp; try rfl))) ?_
        simp only [Act.put, List.setIfInBounds_toArray, List.set_cons_succ, List.set_cons_zero, Nat.reduceAdd]
        refine Many.lex_want (by rfl) (rdb (fun w hb => by (go_simp; try rfl))) ?_
        simp only [Act.put, List.setIfInBounds_toArray, List.set_cons_succ, List.set_cons_zero, Nat.reduceAdd]
        refine Many.lex_want (by rfl) (rdb (fun w hb => by (go_simp; try rfl))) ?_
        simp only [Act.put, List.setIfInBounds_toArray, List.set_cons_succ, List.set_cons_zero, Nat.reduceAdd]
        refine Many.lex_want (by rfl) (rdb (v := .pointer (some ⟨G, i * 2, none⟩)) (fun w hb => by (skip; go_simp; try rfl))) ?_
        simp only [Act.put, List.setIfInBounds_toArray, List.set_cons_succ, List.set_cons_zero, Nat.reduceAdd]
        refine Many.lex_want (by rfl) (rdb (v := .agg #[.int .i64 xi0, .int .i64 xi1]) (fun w hb => by (obtain ⟨c0, c1⟩ := hAi _ (hb98.trans (hb.mono hb98.size)); go_simp; try rfl))) ?_
        simp only [Act.put, List.setIfInBounds_toArray, List.set_cons_succ, List.set_cons_zero, Nat.reduceAdd]
        refine Many.lex_want (by rfl) (rdb (v := .bool false) (fun w hb => by (have e := eU; go_simp; try rfl))) ?_
        simp only [Act.put, List.setIfInBounds_toArray, List.set_cons_succ, List.set_cons_zero, Nat.reduceAdd]
        refine Many.lex_want (by rfl) (rdb (v := .bool false) (fun w hb => by (skip; go_simp; try rfl))) ?_
        simp only [Act.put, List.setIfInBounds_toArray, List.set_cons_succ, List.set_cons_zero, Nat.reduceAdd]
        refine Many.lex_want (by rfl) (rdb (v := .bool false) (fun w hb => by (skip; go_simp; try rfl))) ?_
        simp only [Act.put, List.setIfInBounds_toArray, List.set_cons_succ, List.set_cons_zero, Nat.reduceAdd]
        refine Many.lex_want (by rfl) (rdb (fun w hb => by (go_simp; try rfl))) ?_
        simp only [Act.put, List.setIfInBounds_toArray, List.set_cons_succ, List.set_cons_zero, Nat.reduceAdd]
        refine Many.lex_want (by rfl) (rdb (fun w hb => by (go_simp; try rfl))) ?_
        simp only [Act.put, List.setIfInBounds_toArray, List.set_cons_succ, List.set_cons_zero, Nat.reduceAdd]
        refine Many.lex_want (by rfl) (rdb (fun w hb => by (go_simp; try rfl))) ?_
        simp only [Act.put, List.setIfInBounds_toArray, List.set_cons_succ, List.set_cons_zero, Nat.reduceAdd]
        refine Many.lex_want (by rfl) (clw q32 (fun w hb => by (go_simp; try rfl))) ?_
        simp only [Act.put, List.setIfInBounds_toArray, List.set_cons_succ, List.set_cons_zero, Nat.reduceAdd]
        refine Many.lex_want (by rfl) (rdb (v := .bool false) (fun w hb => by (skip; go_simp; try rfl))) ?_
        simp only [Act.put, List.setIfInBounds_toArray, List.set_cons_succ, List.set_cons_zero, Nat.reduceAdd]
        refine Many.lex_want (by rfl) (rdb (v := .bool false) (fun w hb => by (skip; go_simp; try rfl))) ?_
        simp only [Act.put, List.setIfInBounds_toArray, List.set_cons_succ, List.set_cons_zero, Nat.reduceAdd]
        refine Many.lex_nil fun s W4 hs hC => ?_
        have hC : Below W3.heap.size W3 W4 := hC
        have hb9x := hb98.trans (hC.mono hb98.size)
        have hbW3 := hC
        have hbw := hw8b.trans (hb9x.mono hw8b.size)
        clear hC hs q32
        go_wp2_with (first
          | (go_at_call 31; (with_reducible refine (q31 _ hbW3).mono ?_); rintro e w20 ⟨rfl, hb20⟩
             obtain ⟨w21, hw21⟩ : ∃ w21, w20.alloc (.cells #[.int .i64 (x : Nat), .int .i64 (y : Nat)] 22) = w21 := ⟨_, rfl⟩
             have hb21 : Below w20.heap.size w20 w21 := by rw [← hw21]; exact (Below.refl _ _).alloc (Nat.le_refl _) _
             have o17 : Own2 w21 w20.heap.size (.int .i64 (x : Nat)) (.int .i64 (y : Nat)) := by rw [← hw21]; exact Own2.new _ _ _ _
             have hb20 := hb20.trans (hb21.mono hb20.size)
             have hbW3 := hbW3.trans (hb20.mono hbW3.size)
             have hbw := hbw.trans (hb20.mono hbw.size)
             obtain ⟨c170, c171, f170, f171⟩ := o17
             clear hb20 hb21)
          | (go_at_call 23; (with_reducible refine (q23 _ hbW3).mono ?_); rintro e w22 ⟨rfl, hb22⟩
             have hbw := hbw.trans (hb22.mono hbw.size))
          | (go_at_call 25; refine (awake_any _).mono ?_; rintro e w23 ⟨rfl, hb23⟩))
        go_ret
        exact ⟨rfl, hbw.trans (hb23.mono hbw.size)⟩
end Go.Proofs.Ytbocmbhinjkjlaa
