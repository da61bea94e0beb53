/- The law SharesAwards: its walk. -/
import Derived.Test.YtbocmbhinjkjlaaAwPre2
import Derived.Test.YtbocmbhinjkjlaaArrArg
set_option linter.unusedSimpArgs false
set_option linter.unusedVariables false
namespace Go.Proofs.Ytbocmbhinjkjlaa
open Go Go.Proofs Go.RowKit Go.Seq Go.Sort
theorem argInts_below {w w' : World} {v : Value} {zs : List Int} (h : ArgInts w v zs) (b : Below w.heap.size w w') : ArgInts w' v zs := by
  rcases h with ⟨rfl, rfl⟩ | ⟨a, cap, rfl, rfl⟩ | ⟨g, o, cap, rfl, h1, h2, h3, hc⟩
  · exact .inl ⟨rfl, rfl⟩
  · exact .inr (.inl ⟨a, cap, rfl, rfl⟩)
  · exact .inr (.inr ⟨g, o, cap, rfl, h1, h2, Nat.lt_of_lt_of_le h3 b.size, fun i hi => cell_below (hc i hi) b⟩)
theorem argFracs_below {w w' : World} {v : Value} {l : Pts} (h : ArgFracs w v l) (b : Below w.heap.size w w') : ArgFracs w' v l := by
  rcases h with ⟨rfl, rfl⟩ | ⟨a, cap, rfl, rfl⟩ | ⟨g, o, cap, rfl, h1, h2, h3, hc⟩
  · exact .inl ⟨rfl, rfl⟩
  · exact .inr (.inl ⟨a, cap, rfl, rfl⟩)
  · exact .inr (.inr ⟨g, o, cap, rfl, h1, h2, Nat.lt_of_lt_of_le h3 b.size, fun i hi => ⟨cell_below (hc i hi).1 b, cell_below (hc i hi).2 b⟩⟩)
theorem Lev.exists {zs : List Int} {T : Int} (hV : Valid zs) (hT : 0 ≤ T ∧ T ≤ zs.sum) : ∃ N L, Lev zs T N L := by
  have hp : (zs.mergeSort fun a b => decide (a ≤ b)).Perm zs := List.mergeSort_perm zs _
  have hs : (zs.mergeSort fun a b => decide (a ≤ b)).Pairwise fun a b => decide (a ≤ b) = true := List.pairwise_mergeSort (fun a b c h1 h2 => by simp at *; omega) (fun a b => by simp; omega) zs
  generalize (zs.mergeSort fun a b => decide (a ≤ b)) = o at *
  have hol : o.length = zs.length := hp.length_eq
  have hasc : AscI zs o := ⟨hp, fun i j hij hj => by
    have := List.pairwise_iff_getElem.1 hs i j (by omega) hj hij
    rw [decide_eq_true_eq] at this
    rwa [List.getD_eq_getElem?_getD, List.getD_eq_getElem?_getD, List.getElem?_eq_getElem hj, List.getElem?_eq_getElem (show i < o.length by omega)]⟩
  have hn := hV.1
  have hlast : ∃ j, j < zs.length ∧ T - (o.take j).sum ≤ o.getD j 0 * ((zs.length : Int) - j) := by
    refine ⟨zs.length - 1, by omega, ?_⟩
    have h1 := sum_take (zs := o) (k := zs.length - 1) (by omega)
    rw [show zs.length - 1 + 1 = zs.length by omega, List.take_of_length_le (by omega), sumI_perm hp] at h1
    rw [show ((zs.length : Int) - ((zs.length - 1 : Nat) : Int)) = 1 by omega, Int.mul_one]
    omega
  obtain ⟨J, ⟨hJ, hJl⟩, hmin⟩ := least hlast
  refine ⟨(zs.length : Int) - J, T - (o.take J).sum, ⟨o, J, hasc, hJ, rfl, rfl, fun j hj => ?_, hJl⟩⟩
  rcases Int.lt_or_le (o.getD j 0 * ((zs.length : Int) - j)) (T - (o.take j).sum) with h | h
  · exact h
  · exact absurd ⟨by omega, h⟩ (hmin j hj)
theorem LevR.exists {r : Nat} {zs : List Int} {E : Int} (hV : Valid zs) (hE : 0 ≤ E ∧ E ≤ zs.sum) : ∃ N L, LevR r zs E N L := by
  by_cases h : r = 0
  · exact ⟨1, 0, by omega, by omega, by omega, by omega, fun h' => absurd h h'⟩
  · obtain ⟨N, L, hl⟩ := Lev.exists hV (awE_in (r := r) hE)
    exact ⟨N, L, levR_of hl hV hE⟩
theorem award_L {r : Nat} {v : Value} {zs : List Int} {E N L : Int} {w : World} (hr : r ≤ 4) (hc : IntsO w v zs) (hV : Valid zs) (hE : 0 ≤ E ∧ E ≤ zs.sum) (hLR : LevR r zs E N L) : Calls Try.prog 22 #[.int .i64 (r : Nat), v, .int .i64 E] w fun e w' => ∃ (G : Nat), e = .returned (.tuple #[.slice (some ⟨G, 0, none⟩) zs.length zs.length, .int .i64 0]) ∧ FracsO w' (.slice (some ⟨G, 0, none⟩) zs.length zs.length) (awL r zs E N L) ∧ Below w.heap.size w w' := by
  refine (awardM hr hc hV hE).mono ?_
  rintro e w' ⟨G, N', L', rfl, m, h2, h3⟩
  exact ⟨G, rfl, by rw [awL_same hr hV hE hLR m.lev]; exact m.row, h3⟩
set_option maxHeartbeats 4000000 in
set_option maxRecDepth 100000 in
theorem awardsLaw_any {v u : Value} {zs : List Int} {ls : Pts} {R E : Int} {w : World} (hv : ArgInts w v zs) (hu : ArgFracs w u ls) :
    Calls Try.prog 3 #[.agg #[.int .i64 R, .int .i64 E], v, u] w fun e w' => e = .returned (.bool true) ∧ Below w.heap.size w w' := by
  obtain ⟨wB, hwB⟩ : ∃ wB, w.alloc (.cells #[.int .i64 R, .int .i64 E] 22) = wB := ⟨_, rfl⟩
  have hbB : Below w.heap.size w wB := by rw [← hwB]; exact (Below.refl _ _).alloc (Nat.le_refl _) _
  have oB : BlkAt wB w.heap.size #[.int .i64 R, .int .i64 E] 22 := by rw [← hwB]; exact BlkAt.new _ _ _
  have hB0 : wB.cell? ⟨w.heap.size, 0, none⟩ = some (.int .i64 R) := oB.cell 0
  have hB1 : wB.cell? ⟨w.heap.size, 1, none⟩ = some (.int .i64 E) := oB.cell 1
  have hvB := Keep.mk (argInts_below hv hbB)
  have huB := Keep.mk (argFracs_below hu hbB)
  have q20 := fun W (hb : Below wB.heap.size wB W) => list_any (argInts_below hvB.out hb)
  have q21 := fun W (hb : Below wB.heap.size wB W) => fracs_any (argFracs_below huB.out hb)
  have hl11 : (zs.take 11).length ≤ 11 := by rw [List.length_take]; omega
  have hm11 : (ls.take 11).length ≤ 11 := by rw [List.length_take]; omega
  generalize zs.take 11 = l at *
  generalize ls.take 11 = m at *
  clear hv hu oB
  obtain ⟨n, hn⟩ : ∃ n, Keep (l.length = n) := ⟨_, ⟨rfl⟩⟩
  obtain ⟨p, hp⟩ : ∃ p, Keep (m.length = p) := ⟨_, ⟨rfl⟩⟩
  by_cases hR0 : R < 0
  · have hq22 : ∀ {w : World} {v : Value}, IntsO w v l → Calls Try.prog 22 #[.int .i64 R, v, .int .i64 E] w fun e w' => e = .returned (.tuple #[.slice none 0 0, .int .i64 2]) ∧ Below w.heap.size w w' := fun h => by
      cases hD : decide (Valid l ∧ 0 ≤ E ∧ E ≤ l.sum) with
      | false => exact award_bad h hD
      | true => exact award_none h (of_decide_eq_true hD).1 (of_decide_eq_true hD).2 (.inl hR0)
    go_enter Try.func3, Try.ntmps3
    go_wp2
    refine (wpIn_wide (n := 0)).1 ?_
    refine Many.region_many (Go.Proofs.Ytbocmbhinjkjlaa.Cb wB) mixed_ok (by kernel_rfl) (fun _ _ _ _ h => h) (fun s _ => Go.Proofs.Ytbocmbhinjkjlaa.Cb.start wB s) ?_
    refine Many.lex_want (by rfl) (rdb (v := .pointer (some ⟨w.heap.size, 0, none⟩)) (fun w hb => by (skip; go_simp; try rfl))) ?_
    simp only [Act.put, List.setIfInBounds_toArray, List.set_cons_succ, List.set_cons_zero, Nat.reduceAdd]
    refine Many.lex_want (by rfl) (rdb (v := .int .i64 R) (fun w hb => by (have c0 := cell_below hB0 hb; go_simp; try rfl))) ?_
    simp only [Act.put, List.setIfInBounds_toArray, List.set_cons_succ, List.set_cons_zero, Nat.reduceAdd]
    refine Many.lex_want (by rfl) (rdb (v := .pointer (some ⟨w.heap.size, 1, none⟩)) (fun w hb => by (skip; go_simp; try rfl))) ?_
    simp only [Act.put, List.setIfInBounds_toArray, List.set_cons_succ, List.set_cons_zero, Nat.reduceAdd]
    refine Many.lex_want (by rfl) (rdb (v := .int .i64 E) (fun w hb => by (have c0 := cell_below hB1 hb; go_simp; try rfl))) ?_
    simp only [Act.put, List.setIfInBounds_toArray, List.set_cons_succ, List.set_cons_zero, Nat.reduceAdd]
    refine Many.lex_want (by rfl) (rdb (fun w hb => by (go_simp; try rfl))) ?_
    simp only [Act.put, List.setIfInBounds_toArray, List.set_cons_succ, List.set_cons_zero, Nat.reduceAdd]
    refine Many.lex_want (by rfl) (rdb (fun w hb => by (go_simp; try rfl))) ?_
    simp only [Act.put, List.setIfInBounds_toArray, List.set_cons_succ, List.set_cons_zero, Nat.reduceAdd]
    refine Many.lex_nil fun s W1 hs hC => ?_
    have hC : Below wB.heap.size wB W1 := hC
    have hb1 := hC
    clear hC hs hB0 hB1
    go_wp2_with (first
      | (go_at_call 20; (with_reducible refine (q20 _ hb1).mono ?_); rintro e w2 ⟨v2, rfl, hown2, hb2⟩
         have hb12 := hb1.trans (hb2.mono hb1.size)
         have ho2 := own_ints hown2
         clear hown2 q20 hb2)
      | (go_at_call 21; (with_reducible refine (q21 _ hb12).mono ?_); rintro e w3 ⟨u3, rfl, hown3, hb3⟩
         have hb13 := hb12.trans (hb3.mono hb12.size)
         have ho3 := intsO_below ho2 hb3
         have hu3 := own_fracs hown3
         obtain ⟨A, ca, rfl, hx1⟩ := ho3
         obtain ⟨C, cu, rfl, hx2⟩ := hu3
         have ho3K := Keep.mk (show IntsO w3 (.slice A l.length ca) l from ⟨A, ca, rfl, hx1⟩)
         have hu3K := Keep.mk (show FracsO w3 (.slice C m.length cu) m from ⟨C, cu, rfl, hx2⟩)
         have hbw3 := hbB.trans (hb13.mono hbB.size)
         rw [hn.out] at ho3K ⊢
         rw [hp.out] at hu3K ⊢
         clear hown3 q21 hb3 ho2 hb12 hx1 hx2 hb13)
      | (go_at_call 22; (with_reducible refine (hq22 ho3K.out).mono ?_); rintro e w4 ⟨rfl, hb4⟩)
      | (go_at_call 23; (with_reducible refine (right_bad (u := .slice C p cu) (hq22 (intsO_below ho3K.out hb4))).mono ?_); rintro e w5 ⟨rfl, hb5⟩
         have hb35 := hb4.trans (hb5.mono hb4.size)
         have hbw5 := hbw3.trans (hb35.mono hbw3.size))
      | (go_at_call 25; refine (awake_any _).mono ?_; rintro e w9 ⟨rfl, hb9⟩))
    go_ret
    exact ⟨rfl, hbw5.trans (hb9.mono hbw5.size)⟩
  by_cases hR4 : 4 < R
  · have hq22 : ∀ {w : World} {v : Value}, IntsO w v l → Calls Try.prog 22 #[.int .i64 R, v, .int .i64 E] w fun e w' => e = .returned (.tuple #[.slice none 0 0, .int .i64 2]) ∧ Below w.heap.size w w' := fun h => by
      cases hD : decide (Valid l ∧ 0 ≤ E ∧ E ≤ l.sum) with
      | false => exact award_bad h hD
      | true => exact award_none h (of_decide_eq_true hD).1 (of_decide_eq_true hD).2 (.inr hR4)
    go_enter Try.func3, Try.ntmps3
    go_wp2
    refine (wpIn_wide (n := 0)).1 ?_
    refine Many.region_many (Go.Proofs.Ytbocmbhinjkjlaa.Cb wB) mixed_ok (by kernel_rfl) (fun _ _ _ _ h => h) (fun s _ => Go.Proofs.Ytbocmbhinjkjlaa.Cb.start wB s) ?_
    refine Many.lex_want (by rfl) (rdb (v := .pointer (some ⟨w.heap.size, 0, none⟩)) (fun w hb => by (skip; go_simp; try rfl))) ?_
    simp only [Act.put, List.setIfInBounds_toArray, List.set_cons_succ, List.set_cons_zero, Nat.reduceAdd]
    refine Many.lex_want (by rfl) (rdb (v := .int .i64 R) (fun w hb => by (have c0 := cell_below hB0 hb; go_simp; try rfl))) ?_
    simp only [Act.put, List.setIfInBounds_toArray, List.set_cons_succ, List.set_cons_zero, Nat.reduceAdd]
    refine Many.lex_want (by rfl) (rdb (v := .pointer (some ⟨w.heap.size, 1, none⟩)) (fun w hb => by (skip; go_simp; try rfl))) ?_
    simp only [Act.put, List.setIfInBounds_toArray, List.set_cons_succ, List.set_cons_zero, Nat.reduceAdd]
    refine Many.lex_want (by rfl) (rdb (v := .int .i64 E) (fun w hb => by (have c0 := cell_below hB1 hb; go_simp; try rfl))) ?_
    simp only [Act.put, List.setIfInBounds_toArray, List.set_cons_succ, List.set_cons_zero, Nat.reduceAdd]
    refine Many.lex_want (by rfl) (rdb (fun w hb => by (go_simp; try rfl))) ?_
    simp only [Act.put, List.setIfInBounds_toArray, List.set_cons_succ, List.set_cons_zero, Nat.reduceAdd]
    refine Many.lex_want (by rfl) (rdb (fun w hb => by (go_simp; try rfl))) ?_
    simp only [Act.put, List.setIfInBounds_toArray, List.set_cons_succ, List.set_cons_zero, Nat.reduceAdd]
    refine Many.lex_nil fun s W1 hs hC => ?_
    have hC : Below wB.heap.size wB W1 := hC
    have hb1 := hC
    clear hC hs hB0 hB1
    go_wp2_with (first
      | (go_at_call 20; (with_reducible refine (q20 _ hb1).mono ?_); rintro e w2 ⟨v2, rfl, hown2, hb2⟩
         have hb12 := hb1.trans (hb2.mono hb1.size)
         have ho2 := own_ints hown2
         clear hown2 q20 hb2)
      | (go_at_call 21; (with_reducible refine (q21 _ hb12).mono ?_); rintro e w3 ⟨u3, rfl, hown3, hb3⟩
         have hb13 := hb12.trans (hb3.mono hb12.size)
         have ho3 := intsO_below ho2 hb3
         have hu3 := own_fracs hown3
         obtain ⟨A, ca, rfl, hx1⟩ := ho3
         obtain ⟨C, cu, rfl, hx2⟩ := hu3
         have ho3K := Keep.mk (show IntsO w3 (.slice A l.length ca) l from ⟨A, ca, rfl, hx1⟩)
         have hu3K := Keep.mk (show FracsO w3 (.slice C m.length cu) m from ⟨C, cu, rfl, hx2⟩)
         have hbw3 := hbB.trans (hb13.mono hbB.size)
         rw [hn.out] at ho3K ⊢
         rw [hp.out] at hu3K ⊢
         clear hown3 q21 hb3 ho2 hb12 hx1 hx2 hb13)
      | (go_at_call 22; (with_reducible refine (hq22 ho3K.out).mono ?_); rintro e w4 ⟨rfl, hb4⟩)
      | (go_at_call 23; (with_reducible refine (right_bad (u := .slice C p cu) (hq22 (intsO_below ho3K.out hb4))).mono ?_); rintro e w5 ⟨rfl, hb5⟩
         have hb35 := hb4.trans (hb5.mono hb4.size)
         have hbw5 := hbw3.trans (hb35.mono hbw3.size))
      | (go_at_call 25; refine (awake_any _).mono ?_; rintro e w9 ⟨rfl, hb9⟩))
    go_ret
    exact ⟨rfl, hbw5.trans (hb9.mono hbw5.size)⟩
  cases hD : decide (Valid l ∧ 0 ≤ E ∧ E ≤ l.sum) with
  | false =>
    have hq22 : ∀ {w : World} {v : Value}, IntsO w v l → Calls Try.prog 22 #[.int .i64 R, v, .int .i64 E] w fun e w' => e = .returned (.tuple #[.slice none 0 0, .int .i64 2]) ∧ Below w.heap.size w w' := fun h => award_bad h hD
    have q24 : ∀ {w : World} {v : Value}, IntsO w v l → Calls Try.prog 24 #[v, .int .i64 E] w fun r w' => r = .returned (.bool false) ∧ w' = w := fun h => by
      have := claims_any (e := E) h
      rwa [hD] at this
    clear hD
    go_enter Try.func3, Try.ntmps3
    go_wp2
    refine (wpIn_wide (n := 0)).1 ?_
    refine Many.region_many (Go.Proofs.Ytbocmbhinjkjlaa.Cb wB) mixed_ok (by kernel_rfl) (fun _ _ _ _ h => h) (fun s _ => Go.Proofs.Ytbocmbhinjkjlaa.Cb.start wB s) ?_
    refine Many.lex_want (by rfl) (rdb (v := .pointer (some ⟨w.heap.size, 0, none⟩)) (fun w hb => by (skip; go_simp; try rfl))) ?_
    simp only [Act.put, List.setIfInBounds_toArray, List.set_cons_succ, List.set_cons_zero, Nat.reduceAdd]
    refine Many.lex_want (by rfl) (rdb (v := .int .i64 R) (fun w hb => by (have c0 := cell_below hB0 hb; go_simp; try rfl))) ?_
    simp only [Act.put, List.setIfInBounds_toArray, List.set_cons_succ, List.set_cons_zero, Nat.reduceAdd]
    refine Many.lex_want (by rfl) (rdb (v := .pointer (some ⟨w.heap.size, 1, none⟩)) (fun w hb => by (skip; go_simp; try rfl))) ?_
    simp only [Act.put, List.setIfInBounds_toArray, List.set_cons_succ, List.set_cons_zero, Nat.reduceAdd]
    refine Many.lex_want (by rfl) (rdb (v := .int .i64 E) (fun w hb => by (have c0 := cell_below hB1 hb; go_simp; try rfl))) ?_
    simp only [Act.put, List.setIfInBounds_toArray, List.set_cons_succ, List.set_cons_zero, Nat.reduceAdd]
    refine Many.lex_want (by rfl) (rdb (fun w hb => by (go_simp; try rfl))) ?_
    simp only [Act.put, List.setIfInBounds_toArray, List.set_cons_succ, List.set_cons_zero, Nat.reduceAdd]
    refine Many.lex_want (by rfl) (rdb (fun w hb => by (go_simp; try rfl))) ?_
    simp only [Act.put, List.setIfInBounds_toArray, List.set_cons_succ, List.set_cons_zero, Nat.reduceAdd]
    refine Many.lex_nil fun s W1 hs hC => ?_
    have hC : Below wB.heap.size wB W1 := hC
    have hb1 := hC
    clear hC hs hB0 hB1
    go_wp2_with (first
      | (go_at_call 20; (with_reducible refine (q20 _ hb1).mono ?_); rintro e w2 ⟨v2, rfl, hown2, hb2⟩
         have hb12 := hb1.trans (hb2.mono hb1.size)
         have ho2 := own_ints hown2
         clear hown2 q20 hb2)
      | (go_at_call 21; (with_reducible refine (q21 _ hb12).mono ?_); rintro e w3 ⟨u3, rfl, hown3, hb3⟩
         have hb13 := hb12.trans (hb3.mono hb12.size)
         have ho3 := intsO_below ho2 hb3
         have hu3 := own_fracs hown3
         obtain ⟨A, ca, rfl, hx1⟩ := ho3
         obtain ⟨C, cu, rfl, hx2⟩ := hu3
         have ho3K := Keep.mk (show IntsO w3 (.slice A l.length ca) l from ⟨A, ca, rfl, hx1⟩)
         have hu3K := Keep.mk (show FracsO w3 (.slice C m.length cu) m from ⟨C, cu, rfl, hx2⟩)
         have hbw3 := hbB.trans (hb13.mono hbB.size)
         rw [hn.out] at ho3K ⊢
         rw [hp.out] at hu3K ⊢
         clear hown3 q21 hb3 ho2 hb12 hx1 hx2 hb13)
      | (go_at_call 22; (with_reducible refine (hq22 ho3K.out).mono ?_); rintro e w4 ⟨rfl, hb4⟩)
      | (go_at_call 23; (with_reducible refine (right_bad (u := .slice C p cu) (hq22 (intsO_below ho3K.out hb4))).mono ?_); rintro e w5 ⟨rfl, hb5⟩
         have hb35 := hb4.trans (hb5.mono hb4.size)
         have hbw5 := hbw3.trans (hb35.mono hbw3.size))
      | (go_at_call 24; (with_reducible refine (q24 (intsO_below ho3K.out hb35)).mono ?_); rintro e w6 ⟨rfl, hw6⟩; rw [hw6]; clear hw6)
      | (go_at_call 25; refine (awake_any _).mono ?_; rintro e w9 ⟨rfl, hb9⟩))
    go_ret
    exact ⟨rfl, hbw5.trans (hb9.mono hbw5.size)⟩
  | true =>
    obtain ⟨hV, hE⟩ := of_decide_eq_true hD
    have q24 : ∀ {w : World} {v : Value}, IntsO w v l → Calls Try.prog 24 #[v, .int .i64 E] w fun r w' => r = .returned (.bool true) ∧ w' = w := fun h => by
      have := claims_any (e := E) h
      rwa [hD] at this
    obtain ⟨r, rfl⟩ : ∃ r : Nat, R = (r : Int) := ⟨R.toNat, by omega⟩
    have hr : r ≤ 4 := by omega
    obtain ⟨N, L, hLR⟩ := LevR.exists (r := r) hV hE
    have qA := fun (w : World) (v : Value) (h : IntsO w v l) => award_L hr h hV hE hLR
    have qW := fun (w : World) (v : Value) (h : IntsO w v l) => refAward_any hr h hV hE hLR
    have qR1 := fun (w : World) (v : Value) (h : IntsO w v l) (u : Value) (hu : FracsO w u m) => right_any (u := u) hr h hV hE hLR hu (by omega)
    have qR2 := fun (w : World) (v : Value) (h : IntsO w v l) (u : Value) (hu : FracsO w u (awL r l E N L)) => right_any (u := u) hr h hV hE hLR hu (by rw [awL_len]; omega)
    have hal := awL_len r l E N L
    obtain ⟨a, ha⟩ : ∃ a, awL r l E N L = a := ⟨_, rfl⟩
    have hl10 := hV.2.1
    have hwant : ∀ {W : World} {B : Nat} {v : Value}, W.ownsRow B 37 2 v l.length (enc2 a) → FracsO W v a := fun {W} {B} {v} h => own_fracs (B := B) (by rw [ha] at hal; rw [hal]; exact h)
    rw [ha] at qA qW qR1 qR2 hal
    have halK : Keep (a.length = n) := ⟨hal.trans hn.out⟩
    have qS := fun (w : World) (x y : Value) (hx : FracsO w x a) (hy : FracsO w y a) => same27_any hx hy (by omega) (by omega)
    have qSm := fun (w : World) (x y : Value) (hx : FracsO w x m) (hy : FracsO w y a) => same27_any hx hy (by omega) (by omega)
    rw [decide_eq_true rfl] at qS
    rw [if_pos rfl] at qR2
    rw [hn.out] at qA qW hwant
    clear hD hV hE hLR hal ha hl10 hl11 hm11
    by_cases ham : a = m
    · rw [if_pos ham] at qR1
      rw [decide_eq_true ham.symm] at qSm
      clear ham
      go_enter Try.func3, Try.ntmps3
      go_wp2
      refine (wpIn_wide (n := 0)).1 ?_
      refine Many.region_many (Go.Proofs.Ytbocmbhinjkjlaa.Cb wB) mixed_ok (by kernel_rfl) (fun _ _ _ _ h => h) (fun s _ => Go.Proofs.Ytbocmbhinjkjlaa.Cb.start wB s) ?_
      refine Many.lex_want (by rfl) (rdb (v := .pointer (some ⟨w.heap.size, 0, none⟩)) (fun w hb => by (skip; go_simp; try rfl))) ?_
      simp only [Act.put, List.setIfInBounds_toArray, List.set_cons_succ, List.set_cons_zero, Nat.reduceAdd]
      refine Many.lex_want (by rfl) (rdb (v := .int .i64 (r : Nat)) (fun w hb => by (have c0 := cell_below hB0 hb; go_simp; try rfl))) ?_
      simp only [Act.put, List.setIfInBounds_toArray, List.set_cons_succ, List.set_cons_zero, Nat.reduceAdd]
      refine Many.lex_want (by rfl) (rdb (v := .pointer (some ⟨w.heap.size, 1, none⟩)) (fun w hb => by (skip; go_simp; try rfl))) ?_
      simp only [Act.put, List.setIfInBounds_toArray, List.set_cons_succ, List.set_cons_zero, Nat.reduceAdd]
      refine Many.lex_want (by rfl) (rdb (v := .int .i64 E) (fun w hb => by (have c0 := cell_below hB1 hb; go_simp; try rfl))) ?_
      simp only [Act.put, List.setIfInBounds_toArray, List.set_cons_succ, List.set_cons_zero, Nat.reduceAdd]
      refine Many.lex_want (by rfl) (rdb (fun w hb => by (go_simp; try rfl))) ?_
      simp only [Act.put, List.setIfInBounds_toArray, List.set_cons_succ, List.set_cons_zero, Nat.reduceAdd]
      refine Many.lex_want (by rfl) (rdb (fun w hb => by (go_simp; try rfl))) ?_
      simp only [Act.put, List.setIfInBounds_toArray, List.set_cons_succ, List.set_cons_zero, Nat.reduceAdd]
      refine Many.lex_nil fun s W1 hs hC => ?_
      have hC : Below wB.heap.size wB W1 := hC
      have hb1 := hC
      clear hC hs hB0 hB1
      go_wp2_with (first
        | (go_at_call 20; (with_reducible refine (q20 _ hb1).mono ?_); rintro e w2 ⟨v2, rfl, hown2, hb2⟩
           have hb12 := hb1.trans (hb2.mono hb1.size)
           have ho2 := own_ints hown2
           clear hown2 q20 hb2)
        | (go_at_call 21; (with_reducible refine (q21 _ hb12).mono ?_); rintro e w3 ⟨u3, rfl, hown3, hb3⟩
           have hb13 := hb12.trans (hb3.mono hb12.size)
           have ho3 := intsO_below ho2 hb3
           have hu3 := own_fracs hown3
           obtain ⟨A, ca, rfl, hx1⟩ := ho3
           obtain ⟨C, cu, rfl, hx2⟩ := hu3
           have ho3K := Keep.mk (show IntsO w3 (.slice A l.length ca) l from ⟨A, ca, rfl, hx1⟩)
           have hu3K := Keep.mk (show FracsO w3 (.slice C m.length cu) m from ⟨C, cu, rfl, hx2⟩)
           have hbw3 := hbB.trans (hb13.mono hbB.size)
           rw [hn.out] at ho3K ⊢
           rw [hp.out] at hu3K ⊢
           clear hown3 q21 hb3 ho2 hb12 hx1 hx2 hb13)
        | (go_at_call 22; (with_reducible refine (qA _ _ ho3K.out).mono ?_); rintro e w4 ⟨G, rfl, hr4, hb4⟩)
        | (go_at_call 23; (with_reducible refine (qR1 _ _ (intsO_below ho3K.out hb4) _ (fracsO_below hu3K.out hb4)).mono ?_); rintro e w5 ⟨rfl, hb5⟩
           have hb35 := hb4.trans (hb5.mono hb4.size)
           have hbw5 := hbw3.trans (hb35.mono hbw3.size)
           have hr5 := fracsO_below hr4 hb5
           clear hb4 hb5)
        | (go_at_call 24; (with_reducible refine (q24 (intsO_below ho3K.out hb35)).mono ?_); rintro e w6 ⟨rfl, hw6⟩; rw [hw6]; clear hw6)
        | (go_at_call 26; (with_reducible refine (qW _ _ (intsO_below ho3K.out hb35)).mono ?_); rintro e w7 ⟨v7, rfl, ho7, hb7⟩
           obtain ⟨CW, cw, rfl, hxw⟩ := hwant ho7
           have hw7 := Keep.mk (show FracsO w7 (.slice CW a.length cw) a from ⟨CW, cw, rfl, hxw⟩)
           have hb37 := hb35.trans (hb7.mono hb35.size)
           have hbw7 := hbw5.trans (hb7.mono hbw5.size)
           have hr7 := fracsO_below hr5 hb7
           rw [halK.out] at hw7 ⊢
           clear ho7 hxw hb7)
        | (go_at_call 27; (with_reducible refine (qS _ _ _ hr7 hw7.out).mono ?_); rintro e w8 ⟨rfl, hb8⟩
           have hb38 := hb37.trans (hb8.mono hb37.size)
           have hbw8 := hbw7.trans (hb8.mono hbw7.size)
           have hw8 := fracsO_below hw7.out hb8
           clear hb8)
        | (go_at_call 23; (with_reducible refine (qR2 _ _ (intsO_below ho3K.out hb38) _ hw8).mono ?_); rintro e w10 ⟨rfl, hb10⟩
           have hb310 := hb38.trans (hb10.mono hb38.size)
           have hbw10 := hbw8.trans (hb10.mono hbw8.size)
           have hw10 := fracsO_below hw8 hb10
           clear hb10)
        | (go_at_call 27; (with_reducible refine (qSm _ _ _ (fracsO_below hu3K.out hb310) hw10).mono ?_); rintro e w11 ⟨rfl, hb11⟩
           have hbw11 := hbw10.trans (hb11.mono hbw10.size)
           clear hb11)
        | (go_at_call 25; refine (awake_any _).mono ?_; rintro e w9 ⟨rfl, hb9⟩))
      go_ret
      exact ⟨rfl, hbw11.trans (hb9.mono hbw11.size)⟩
    · rw [if_neg ham] at qR1
      rw [decide_eq_false (fun h => ham h.symm)] at qSm
      clear ham
      go_enter Try.func3, Try.ntmps3
      go_wp2
      refine (wpIn_wide (n := 0)).1 ?_
      refine Many.region_many (Go.Proofs.Ytbocmbhinjkjlaa.Cb wB) mixed_ok (by kernel_rfl) (fun _ _ _ _ h => h) (fun s _ => Go.Proofs.Ytbocmbhinjkjlaa.Cb.start wB s) ?_
      refine Many.lex_want (by rfl) (rdb (v := .pointer (some ⟨w.heap.size, 0, none⟩)) (fun w hb => by (skip; go_simp; try rfl))) ?_
      simp only [Act.put, List.setIfInBounds_toArray, List.set_cons_succ, List.set_cons_zero, Nat.reduceAdd]
      refine Many.lex_want (by rfl) (rdb (v := .int .i64 (r : Nat)) (fun w hb => by (have c0 := cell_below hB0 hb; go_simp; try rfl))) ?_
      simp only [Act.put, List.setIfInBounds_toArray, List.set_cons_succ, List.set_cons_zero, Nat.reduceAdd]
      refine Many.lex_want (by rfl) (rdb (v := .pointer (some ⟨w.heap.size, 1, none⟩)) (fun w hb => by (skip; go_simp; try rfl))) ?_
      simp only [Act.put, List.setIfInBounds_toArray, List.set_cons_succ, List.set_cons_zero, Nat.reduceAdd]
      refine Many.lex_want (by rfl) (rdb (v := .int .i64 E) (fun w hb => by (have c0 := cell_below hB1 hb; go_simp; try rfl))) ?_
      simp only [Act.put, List.setIfInBounds_toArray, List.set_cons_succ, List.set_cons_zero, Nat.reduceAdd]
      refine Many.lex_want (by rfl) (rdb (fun w hb => by (go_simp; try rfl))) ?_
      simp only [Act.put, List.setIfInBounds_toArray, List.set_cons_succ, List.set_cons_zero, Nat.reduceAdd]
      refine Many.lex_want (by rfl) (rdb (fun w hb => by (go_simp; try rfl))) ?_
      simp only [Act.put, List.setIfInBounds_toArray, List.set_cons_succ, List.set_cons_zero, Nat.reduceAdd]
      refine Many.lex_nil fun s W1 hs hC => ?_
      have hC : Below wB.heap.size wB W1 := hC
      have hb1 := hC
      clear hC hs hB0 hB1
      go_wp2_with (first
        | (go_at_call 20; (with_reducible refine (q20 _ hb1).mono ?_); rintro e w2 ⟨v2, rfl, hown2, hb2⟩
           have hb12 := hb1.trans (hb2.mono hb1.size)
           have ho2 := own_ints hown2
           clear hown2 q20 hb2)
        | (go_at_call 21; (with_reducible refine (q21 _ hb12).mono ?_); rintro e w3 ⟨u3, rfl, hown3, hb3⟩
           have hb13 := hb12.trans (hb3.mono hb12.size)
           have ho3 := intsO_below ho2 hb3
           have hu3 := own_fracs hown3
           obtain ⟨A, ca, rfl, hx1⟩ := ho3
           obtain ⟨C, cu, rfl, hx2⟩ := hu3
           have ho3K := Keep.mk (show IntsO w3 (.slice A l.length ca) l from ⟨A, ca, rfl, hx1⟩)
           have hu3K := Keep.mk (show FracsO w3 (.slice C m.length cu) m from ⟨C, cu, rfl, hx2⟩)
           have hbw3 := hbB.trans (hb13.mono hbB.size)
           rw [hn.out] at ho3K ⊢
           rw [hp.out] at hu3K ⊢
           clear hown3 q21 hb3 ho2 hb12 hx1 hx2 hb13)
        | (go_at_call 22; (with_reducible refine (qA _ _ ho3K.out).mono ?_); rintro e w4 ⟨G, rfl, hr4, hb4⟩)
        | (go_at_call 23; (with_reducible refine (qR1 _ _ (intsO_below ho3K.out hb4) _ (fracsO_below hu3K.out hb4)).mono ?_); rintro e w5 ⟨rfl, hb5⟩
           have hb35 := hb4.trans (hb5.mono hb4.size)
           have hbw5 := hbw3.trans (hb35.mono hbw3.size)
           have hr5 := fracsO_below hr4 hb5
           clear hb4 hb5)
        | (go_at_call 24; (with_reducible refine (q24 (intsO_below ho3K.out hb35)).mono ?_); rintro e w6 ⟨rfl, hw6⟩; rw [hw6]; clear hw6)
        | (go_at_call 26; (with_reducible refine (qW _ _ (intsO_below ho3K.out hb35)).mono ?_); rintro e w7 ⟨v7, rfl, ho7, hb7⟩
           obtain ⟨CW, cw, rfl, hxw⟩ := hwant ho7
           have hw7 := Keep.mk (show FracsO w7 (.slice CW a.length cw) a from ⟨CW, cw, rfl, hxw⟩)
           have hb37 := hb35.trans (hb7.mono hb35.size)
           have hbw7 := hbw5.trans (hb7.mono hbw5.size)
           have hr7 := fracsO_below hr5 hb7
           rw [halK.out] at hw7 ⊢
           clear ho7 hxw hb7)
        | (go_at_call 27; (with_reducible refine (qS _ _ _ hr7 hw7.out).mono ?_); rintro e w8 ⟨rfl, hb8⟩
           have hb38 := hb37.trans (hb8.mono hb37.size)
           have hbw8 := hbw7.trans (hb8.mono hbw7.size)
           have hw8 := fracsO_below hw7.out hb8
           clear hb8)
        | (go_at_call 23; (with_reducible refine (qR2 _ _ (intsO_below ho3K.out hb38) _ hw8).mono ?_); rintro e w10 ⟨rfl, hb10⟩
           have hb310 := hb38.trans (hb10.mono hb38.size)
           have hbw10 := hbw8.trans (hb10.mono hbw8.size)
           have hw10 := fracsO_below hw8 hb10
           clear hb10)
        | (go_at_call 27; (with_reducible refine (qSm _ _ _ (fracsO_below hu3K.out hb310) hw10).mono ?_); rintro e w11 ⟨rfl, hb11⟩
           have hbw11 := hbw10.trans (hb11.mono hbw10.size)
           clear hb11)
        | (go_at_call 25; refine (awake_any _).mono ?_; rintro e w9 ⟨rfl, hb9⟩))
      go_ret
      exact ⟨rfl, hbw11.trans (hb9.mono hbw11.size)⟩
end Go.Proofs.Ytbocmbhinjkjlaa
