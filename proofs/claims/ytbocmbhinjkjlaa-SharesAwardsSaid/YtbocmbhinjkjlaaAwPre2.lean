/- Lists of fractions compared (slices.Equal of the program, Same of the reference), Award and Right of the program with all their answers. -/
import Derived.Test.YtbocmbhinjkjlaaTalPre
import Derived.Test.YtbocmbhinjkjlaaRefAwAll
set_option linter.unusedSimpArgs false
set_option linter.unusedVariables false
namespace Go.Proofs.Ytbocmbhinjkjlaa
open Go Go.Proofs Go.RowKit Go.Seq Go.Sort
theorem pts_ext {l m : Pts} (h : l.length = m.length) (he : ∀ i, i < l.length → l.getD i (0, 0) = m.getD i (0, 0)) : l = m := by
  refine List.ext_getElem h fun i h1 h2 => ?_
  have := he i h1
  rwa [List.getD_eq_getElem?_getD, List.getD_eq_getElem?_getD, List.getElem?_eq_getElem h1, List.getElem?_eq_getElem h2] at this
set_option maxHeartbeats 2000000 in
set_option maxRecDepth 100000 in
theorem equal64_any {a b : Value} {l m : Pts} {w : World} (ha : FracsO w a l) (hb : FracsO w b m) (hl : l.length ≤ 1000) (hm : m.length ≤ 1000) :
    Calls Try.prog 64 #[a, b] w fun e w' => e = .returned (.bool (decide (l = m))) ∧ Below w.heap.size w w' := by
  obtain ⟨D, hD⟩ : ∃ D, Keep (decide (l = m) = D) := ⟨_, ⟨rfl⟩⟩
  rw [hD.out]
  obtain ⟨A, ca, rfl, hca⟩ := ha
  obtain ⟨C, cc, rfl, hcc⟩ := hb
  by_cases hlm : l.length = m.length
  case neg =>
    have hDf : Keep (D = false) := ⟨by rw [← hD.out]; exact decide_eq_false fun h => hlm (by rw [h])⟩
    have hne : ¬ (l.length : Int) = (m.length : Int) := by omega
    generalize l.length = p at *
    generalize m.length = q at *
    clear hca hcc hD hlm
    go_enter Try.func64, Try.ntmps64
    go_wp2
    go_ret
    exact ⟨by rw [hDf.out]; rfl, Below.refl _ _⟩
  rw [← hlm]
  have haK := Keep.mk hca
  have hcK := Keep.mk hcc
  have hlmK := Keep.mk hlm
  clear hca hcc hlm
  obtain ⟨n, hn⟩ : ∃ n, Keep (l.length = n) := ⟨_, ⟨rfl⟩⟩
  rw [hn.out] at hl ⊢
  go_enter Try.func64, Try.ntmps64
  go_wp2
  go_loopw [13] (fun k wr => ∃ j : Nat, j ≤ n ∧ k = .int .i64 j ∧ Below w.heap.size w wr ∧ Keep (∀ i, i < j → l.getD i (0, 0) = m.getD i (0, 0))) (fun k _ => n - (intOf k).toNat)
  case atStart => exact ⟨0, by omega, rfl, Below.refl _ _, ⟨fun i hi => by omega⟩⟩
  case round =>
    obtain ⟨j, hj, rfl, hbw, hall⟩ := hrel
    by_cases hjn : j < n
    · have hjn' : (j : Int) < (n : Int) := by omega
      obtain ⟨ga, oa, rfl, ha1, ha2⟩ := haK.out j (by have := hn.out; omega)
      obtain ⟨gc, oc, rfl, hc1, hc2⟩ := hcK.out j (by have := hn.out; have := hlmK.out; omega)
      have ha1 := cell_below ha1 hbw
      have ha2 := cell_below ha2 hbw
      have hc1 := cell_below hc1 hbw
      have hc2 := cell_below hc2 hbw
      have hno : Keep (l.getD j (0, 0) ≠ m.getD j (0, 0) → D = false) := ⟨fun h => by rw [← hD.out]; exact decide_eq_false fun e => h (by rw [e])⟩
      have hyes : Keep (l.getD j (0, 0) = m.getD j (0, 0) → ∀ i, i < j + 1 → l.getD i (0, 0) = m.getD i (0, 0)) := ⟨fun h i hi => by
        rcases Nat.lt_or_ge i j with h' | h'
        · exact hall.out i h'
        · obtain rfl : i = j := by omega
          exact h⟩
      generalize l.getD j (0, 0) = z at ha1 ha2 hno hyes
      generalize m.getD j (0, 0) = y at hc1 hc2 hno hyes
      obtain ⟨z0, z1⟩ := z
      obtain ⟨y0, y1⟩ := y
      simp only at ha1 ha2 hc1 hc2
      have e := fun w => eq37 z0 z1 y0 y1 w
      cases hq : ((z0 == y0) && (z1 == y1)) with
      | false =>
        rw [hq] at e
        have hDf := Keep.mk (hno.out fun h => by
          injection h with h1 h2
          rw [h1, h2] at hq
          simp at hq)
        clear hq hno hyes hall
        go_wp2
        refine (wpIn_wide (n := 0)).1 ?_
        refine Many.region_many (Go.Proofs.Ytbocmbhinjkjlaa.Cb wr) mixed_ok (by kernel_rfl) (fun _ _ _ _ h => h) (fun s _ => Go.Proofs.Ytbocmbhinjkjlaa.Cb.start wr s) ?_
        refine Many.lex_want (by rfl) (rdb (fun w hb => by (go_simp; try rfl))) ?_
        simp only [Act.put, List.setIfInBounds_toArray, List.set_cons_succ, List.set_cons_zero, Nat.reduceAdd]
        refine Many.lex_want (by rfl) (rdb (fun w hb => by (go_simp; try rfl))) ?_
        simp only [Act.put, List.setIfInBounds_toArray, List.set_cons_succ, List.set_cons_zero, Nat.reduceAdd]
        refine Many.lex_want (by rfl) (rdb (v := .pointer (some ⟨ga, oa + j * 2, none⟩)) (fun w hb => by (skip; go_simp; try rfl))) ?_
        simp only [Act.put, List.setIfInBounds_toArray, List.set_cons_succ, List.set_cons_zero, Nat.reduceAdd]
        refine Many.lex_want (by rfl) (rdb (v := .agg #[.int .i64 z0, .int .i64 z1]) (fun w hb => by (have c0 := cell_below ha1 hb; have c1 := cell_below ha2 hb; go_simp; try rfl))) ?_
        simp only [Act.put, List.setIfInBounds_toArray, List.set_cons_succ, List.set_cons_zero, Nat.reduceAdd]
        refine Many.lex_want (by rfl) (rdb (fun w hb => by (go_simp; try rfl))) ?_
        simp only [Act.put, List.setIfInBounds_toArray, List.set_cons_succ, List.set_cons_zero, Nat.reduceAdd]
        refine Many.lex_want (by rfl) (rdb (fun w hb => by (go_simp; try rfl))) ?_
        simp only [Act.put, List.setIfInBounds_toArray, List.set_cons_succ, List.set_cons_zero, Nat.reduceAdd]
        refine Many.lex_want (by rfl) (rdb (v := .pointer (some ⟨gc, oc + j * 2, none⟩)) (fun w hb => by (skip; go_simp; try rfl))) ?_
        simp only [Act.put, List.setIfInBounds_toArray, List.set_cons_succ, List.set_cons_zero, Nat.reduceAdd]
        refine Many.lex_want (by rfl) (rdb (v := .agg #[.int .i64 y0, .int .i64 y1]) (fun w hb => by (have c0 := cell_below hc1 hb; have c1 := cell_below hc2 hb; go_simp; try rfl))) ?_
        simp only [Act.put, List.setIfInBounds_toArray, List.set_cons_succ, List.set_cons_zero, Nat.reduceAdd]
        refine Many.lex_want (by rfl) (rdb (v := .bool true) (fun w hb => by (have e := e; go_simp; try rfl))) ?_
        simp only [Act.put, List.setIfInBounds_toArray, List.set_cons_succ, List.set_cons_zero, Nat.reduceAdd]
        refine Many.lex_nil fun s W1 hs hC => ?_
        have hC : Below wr.heap.size wr W1 := hC
        have hbw2 := hbw.trans (hC.mono hbw.size)
        clear hC hs
        go_wp2
        go_ret
        exact ⟨by rw [hDf.out]; rfl, hbw2⟩
      | true =>
        rw [hq] at e
        have hy := Keep.mk (hyes.out (by
          rw [Bool.and_eq_true, beq_iff_eq, beq_iff_eq] at hq
          exact Prod.ext hq.1 hq.2))
        clear hq hno hyes hall
        go_wp2
        refine (wpIn_wide (n := 0)).1 ?_
        refine Many.region_many (Go.Proofs.Ytbocmbhinjkjlaa.Cb wr) mixed_ok (by kernel_rfl) (fun _ _ _ _ h => h) (fun s _ => Go.Proofs.Ytbocmbhinjkjlaa.Cb.start wr s) ?_
        refine Many.lex_want (by rfl) (rdb (fun w hb => by (go_simp; try rfl))) ?_
        simp only [Act.put, List.setIfInBounds_toArray, List.set_cons_succ, List.set_cons_zero, Nat.reduceAdd]
        refine Many.lex_want (by rfl) (rdb (fun w hb => by (go_simp; try rfl))) ?_
        simp only [Act.put, List.setIfInBounds_toArray, List.set_cons_succ, List.set_cons_zero, Nat.reduceAdd]
        refine Many.lex_want (by rfl) (rdb (v := .pointer (some ⟨ga, oa + j * 2, none⟩)) (fun w hb => by (skip; go_simp; try rfl))) ?_
        simp only [Act.put, List.setIfInBounds_toArray, List.set_cons_succ, List.set_cons_zero, Nat.reduceAdd]
        refine Many.lex_want (by rfl) (rdb (v := .agg #[.int .i64 z0, .int .i64 z1]) (fun w hb => by (have c0 := cell_below ha1 hb; have c1 := cell_below ha2 hb; go_simp; try rfl))) ?_
        simp only [Act.put, List.setIfInBounds_toArray, List.set_cons_succ, List.set_cons_zero, Nat.reduceAdd]
        refine Many.lex_want (by rfl) (rdb (fun w hb => by (go_simp; try rfl))) ?_
        simp only [Act.put, List.setIfInBounds_toArray, List.set_cons_succ, List.set_cons_zero, Nat.reduceAdd]
        refine Many.lex_want (by rfl) (rdb (fun w hb => by (go_simp; try rfl))) ?_
        simp only [Act.put, List.setIfInBounds_toArray, List.set_cons_succ, List.set_cons_zero, Nat.reduceAdd]
        refine Many.lex_want (by rfl) (rdb (v := .pointer (some ⟨gc, oc + j * 2, none⟩)) (fun w hb => by (skip; go_simp; try rfl))) ?_
        simp only [Act.put, List.setIfInBounds_toArray, List.set_cons_succ, List.set_cons_zero, Nat.reduceAdd]
        refine Many.lex_want (by rfl) (rdb (v := .agg #[.int .i64 y0, .int .i64 y1]) (fun w hb => by (have c0 := cell_below hc1 hb; have c1 := cell_below hc2 hb; go_simp; try rfl))) ?_
        simp only [Act.put, List.setIfInBounds_toArray, List.set_cons_succ, List.set_cons_zero, Nat.reduceAdd]
        refine Many.lex_want (by rfl) (rdb (v := .bool false) (fun w hb => by (have e := e; go_simp; try rfl))) ?_
        simp only [Act.put, List.setIfInBounds_toArray, List.set_cons_succ, List.set_cons_zero, Nat.reduceAdd]
        refine Many.lex_nil fun s W1 hs hC => ?_
        have hC : Below wr.heap.size wr W1 := hC
        have hbw2 := hbw.trans (hC.mono hbw.size)
        clear hC hs
        go_wp2
        exact ⟨⟨j + 1, by omega, by go_num, hbw2, hy⟩, by simp [intOf]; omega⟩
    · obtain rfl : n = j := by omega
      have hDt : Keep (D = true) := ⟨by rw [← hD.out]; exact decide_eq_true (pts_ext hlmK.out (by rw [hn.out]; exact hall.out))⟩
      go_wp2
      go_ret
      exact ⟨by rw [hDt.out]; rfl, hbw⟩
set_option maxHeartbeats 2000000 in
set_option maxRecDepth 100000 in
theorem same27_any {a b : Value} {l m : Pts} {w : World} (ha : FracsO w a l) (hb : FracsO w b m) (hl : l.length ≤ 1000) (hm : m.length ≤ 1000) :
    Calls Try.prog 27 #[a, b] w fun e w' => e = .returned (.bool (decide (l = m))) ∧ Below w.heap.size w w' := by
  obtain ⟨D, hD⟩ : ∃ D, Keep (decide (l = m) = D) := ⟨_, ⟨rfl⟩⟩
  rw [hD.out]
  obtain ⟨A, ca, rfl, hca⟩ := ha
  obtain ⟨C, cc, rfl, hcc⟩ := hb
  by_cases hlm : l.length = m.length
  case neg =>
    have hDf : Keep (D = false) := ⟨by rw [← hD.out]; exact decide_eq_false fun h => hlm (by rw [h])⟩
    have hne : ¬ (l.length : Int) = (m.length : Int) := by omega
    generalize l.length = p at *
    generalize m.length = q at *
    clear hca hcc hD hlm
    go_enter Try.func27, Try.ntmps27
    go_wp2
    go_ret
    exact ⟨by rw [hDf.out]; rfl, Below.refl _ _⟩
  rw [← hlm]
  have haK := Keep.mk hca
  have hcK := Keep.mk hcc
  have hlmK := Keep.mk hlm
  clear hca hcc hlm
  obtain ⟨n, hn⟩ : ∃ n, Keep (l.length = n) := ⟨_, ⟨rfl⟩⟩
  rw [hn.out] at hl ⊢
  go_enter Try.func27, Try.ntmps27
  go_wp2
  go_loopw [5] (fun k wr => ∃ j : Nat, j ≤ n ∧ k = .int .i64 j ∧ Below w.heap.size w wr ∧ Keep (∀ i, i < j → l.getD i (0, 0) = m.getD i (0, 0))) (fun k _ => n - (intOf k).toNat)
  case atStart => exact ⟨0, by omega, rfl, Below.refl _ _, ⟨fun i hi => by omega⟩⟩
  case round =>
    obtain ⟨j, hj, rfl, hbw, hall⟩ := hrel
    by_cases hjn : j < n
    · have hjn' : (j : Int) < (n : Int) := by omega
      obtain ⟨ga, oa, rfl, ha1, ha2⟩ := haK.out j (by have := hn.out; omega)
      obtain ⟨gc, oc, rfl, hc1, hc2⟩ := hcK.out j (by have := hn.out; have := hlmK.out; omega)
      have ha1 := cell_below ha1 hbw
      have ha2 := cell_below ha2 hbw
      have hc1 := cell_below hc1 hbw
      have hc2 := cell_below hc2 hbw
      have hno : Keep (l.getD j (0, 0) ≠ m.getD j (0, 0) → D = false) := ⟨fun h => by rw [← hD.out]; exact decide_eq_false fun e => h (by rw [e])⟩
      have hyes : Keep (l.getD j (0, 0) = m.getD j (0, 0) → ∀ i, i < j + 1 → l.getD i (0, 0) = m.getD i (0, 0)) := ⟨fun h i hi => by
        rcases Nat.lt_or_ge i j with h' | h'
        · exact hall.out i h'
        · obtain rfl : i = j := by omega
          exact h⟩
      generalize l.getD j (0, 0) = z at ha1 ha2 hno hyes
      generalize m.getD j (0, 0) = y at hc1 hc2 hno hyes
      obtain ⟨z0, z1⟩ := z
      obtain ⟨y0, y1⟩ := y
      simp only at ha1 ha2 hc1 hc2
      have e := fun w => eq37 z0 z1 y0 y1 w
      cases hq : ((z0 == y0) && (z1 == y1)) with
      | false =>
        rw [hq] at e
        have hDf := Keep.mk (hno.out fun h => by
          injection h with h1 h2
          rw [h1, h2] at hq
          simp at hq)
        clear hq hno hyes hall
        go_wp2
        refine (wpIn_wide (n := 0)).1 ?_
        refine Many.region_many (Go.Proofs.Ytbocmbhinjkjlaa.Cb wr) mixed_ok (by kernel_rfl) (fun _ _ _ _ h => h) (fun s _ => Go.Proofs.Ytbocmbhinjkjlaa.Cb.start wr s) ?_
        refine Many.lex_want (by rfl) (rdb (fun w hb => by (go_simp; try rfl))) ?_
        simp only [Act.put, List.setIfInBounds_toArray, List.set_cons_succ, List.set_cons_zero, Nat.reduceAdd]
        refine Many.lex_want (by rfl) (rdb (fun w hb => by (go_simp; try rfl))) ?_
        simp only [Act.put, List.setIfInBounds_toArray, List.set_cons_succ, List.set_cons_zero, Nat.reduceAdd]
        refine Many.lex_want (by rfl) (rdb (v := .pointer (some ⟨ga, oa + j * 2, none⟩)) (fun w hb => by (skip; go_simp; try rfl))) ?_
        simp only [Act.put, List.setIfInBounds_toArray, List.set_cons_succ, List.set_cons_zero, Nat.reduceAdd]
        refine Many.lex_want (by rfl) (rdb (v := .agg #[.int .i64 z0, .int .i64 z1]) (fun w hb => by (have c0 := cell_below ha1 hb; have c1 := cell_below ha2 hb; go_simp; try rfl))) ?_
        simp only [Act.put, List.setIfInBounds_toArray, List.set_cons_succ, List.set_cons_zero, Nat.reduceAdd]
        refine Many.lex_want (by rfl) (rdb (fun w hb => by (go_simp; try rfl))) ?_
        simp only [Act.put, List.setIfInBounds_toArray, List.set_cons_succ, List.set_cons_zero, Nat.reduceAdd]
        refine Many.lex_want (by rfl) (rdb (fun w hb => by (go_simp; try rfl))) ?_
        simp only [Act.put, List.setIfInBounds_toArray, List.set_cons_succ, List.set_cons_zero, Nat.reduceAdd]
        refine Many.lex_want (by rfl) (rdb (v := .pointer (some ⟨gc, oc + j * 2, none⟩)) (fun w hb => by (skip; go_simp; try rfl))) ?_
        simp only [Act.put, List.setIfInBounds_toArray, List.set_cons_succ, List.set_cons_zero, Nat.reduceAdd]
        refine Many.lex_want (by rfl) (rdb (v := .agg #[.int .i64 y0, .int .i64 y1]) (fun w hb => by (have c0 := cell_below hc1 hb; have c1 := cell_below hc2 hb; go_simp; try rfl))) ?_
        simp only [Act.put, List.setIfInBounds_toArray, List.set_cons_succ, List.set_cons_zero, Nat.reduceAdd]
        refine Many.lex_want (by rfl) (rdb (v := .bool true) (fun w hb => by (have e := e; go_simp; try rfl))) ?_
        simp only [Act.put, List.setIfInBounds_toArray, List.set_cons_succ, List.set_cons_zero, Nat.reduceAdd]
        refine Many.lex_nil fun s W1 hs hC => ?_
        have hC : Below wr.heap.size wr W1 := hC
        have hbw2 := hbw.trans (hC.mono hbw.size)
        clear hC hs
        go_wp2
        go_ret
        exact ⟨by rw [hDf.out]; rfl, hbw2⟩
      | true =>
        rw [hq] at e
        have hy := Keep.mk (hyes.out (by
          rw [Bool.and_eq_true, beq_iff_eq, beq_iff_eq] at hq
          exact Prod.ext hq.1 hq.2))
        clear hq hno hyes hall
        go_wp2
        refine (wpIn_wide (n := 0)).1 ?_
        refine Many.region_many (Go.Proofs.Ytbocmbhinjkjlaa.Cb wr) mixed_ok (by kernel_rfl) (fun _ _ _ _ h => h) (fun s _ => Go.Proofs.Ytbocmbhinjkjlaa.Cb.start wr s) ?_
        refine Many.lex_want (by rfl) (rdb (fun w hb => by (go_simp; try rfl))) ?_
        simp only [Act.put, List.setIfInBounds_toArray, List.set_cons_succ, List.set_cons_zero, Nat.reduceAdd]
        refine Many.lex_want (by rfl) (rdb (fun w hb => by (go_simp; try rfl))) ?_
        simp only [Act.put, List.setIfInBounds_toArray, List.set_cons_succ, List.set_cons_zero, Nat.reduceAdd]
        refine Many.lex_want (by rfl) (rdb (v := .pointer (some ⟨ga, oa + j * 2, none⟩)) (fun w hb => by (skip; go_simp; try rfl))) ?_
        simp only [Act.put, List.setIfInBounds_toArray, List.set_cons_succ, List.set_cons_zero, Nat.reduceAdd]
        refine Many.lex_want (by rfl) (rdb (v := .agg #[.int .i64 z0, .int .i64 z1]) (fun w hb => by (have c0 := cell_below ha1 hb; have c1 := cell_below ha2 hb; go_simp; try rfl))) ?_
        simp only [Act.put, List.setIfInBounds_toArray, List.set_cons_succ, List.set_cons_zero, Nat.reduceAdd]
        refine Many.lex_want (by rfl) (rdb (fun w hb => by (go_simp; try rfl))) ?_
        simp only [Act.put, List.setIfInBounds_toArray, List.set_cons_succ, List.set_cons_zero, Nat.reduceAdd]
        refine Many.lex_want (by rfl) (rdb (fun w hb => by (go_simp; try rfl))) ?_
        simp only [Act.put, List.setIfInBounds_toArray, List.set_cons_succ, List.set_cons_zero, Nat.reduceAdd]
        refine Many.lex_want (by rfl) (rdb (v := .pointer (some ⟨gc, oc + j * 2, none⟩)) (fun w hb => by (skip; go_simp; try rfl))) ?_
        simp only [Act.put, List.setIfInBounds_toArray, List.set_cons_succ, List.set_cons_zero, Nat.reduceAdd]
        refine Many.lex_want (by rfl) (rdb (v := .agg #[.int .i64 y0, .int .i64 y1]) (fun w hb => by (have c0 := cell_below hc1 hb; have c1 := cell_below hc2 hb; go_simp; try rfl))) ?_
        simp only [Act.put, List.setIfInBounds_toArray, List.set_cons_succ, List.set_cons_zero, Nat.reduceAdd]
        refine Many.lex_want (by rfl) (rdb (v := .bool false) (fun w hb => by (have e := e; go_simp; try rfl))) ?_
        simp only [Act.put, List.setIfInBounds_toArray, List.set_cons_succ, List.set_cons_zero, Nat.reduceAdd]
        refine Many.lex_nil fun s W1 hs hC => ?_
        have hC : Below wr.heap.size wr W1 := hC
        have hbw2 := hbw.trans (hC.mono hbw.size)
        clear hC hs
        go_wp2
        exact ⟨⟨j + 1, by omega, by go_num, hbw2, hy⟩, by simp [intOf]; omega⟩
    · obtain rfl : n = j := by omega
      have hDt : Keep (D = true) := ⟨by rw [← hD.out]; exact decide_eq_true (pts_ext hlmK.out (by rw [hn.out]; exact hall.out))⟩
      go_wp2
      go_ret
      exact ⟨by rw [hDt.out]; rfl, hbw⟩
theorem awL_same {r : Nat} {zs : List Int} {E N L M K : Int} (hr : r ≤ 4) (hV : Valid zs) (hE : 0 ≤ E ∧ E ≤ zs.sum) (h : LevR r zs E N L) (k : LevR r zs E M K) : awL r zs E N L = awL r zs E M K := by
  unfold awL
  refine List.map_congr_left fun i hi => ?_
  rw [List.mem_range] at hi
  have h1 := aw_grows hr h k (fun z hz => (hV.2.2 z hz).1) hE.1 (Int.le_refl _) hE.2 _ (getz (zs := zs) hi)
  have h2 := aw_grows hr k h (fun z hz => (hV.2.2 z hz).1) hE.1 (Int.le_refl _) hE.2 _ (getz (zs := zs) hi)
  have := red_same (a := awX r zs.sum E N L (zs.getD i 0)) (b := awD r zs.sum N) (c := awX r zs.sum E M K (zs.getD i 0)) (d := awD r zs.sum M) (awD_one h.n1) (awD_one k.n1) (by omega)
  unfold awF
  rw [this.1, this.2]
theorem refAward_any {r : Nat} {v : Value} {zs : List Int} {E N L : Int} {w : World} (hr : r ≤ 4) (hc : IntsO w v zs) (hV : Valid zs) (hE : 0 ≤ E ∧ E ≤ zs.sum) (hLR : LevR r zs E N L) :
    Calls Try.prog 26 #[.int .i64 (r : Nat), v, .int .i64 E] w fun e w' => ∃ v', e = .returned v' ∧ w'.ownsRow w.heap.size 37 2 v' zs.length (enc2 (awL r zs E N L)) ∧ Below w.heap.size w w' := by
  obtain rfl | rfl | rfl | rfl | rfl : r = 0 ∨ r = 1 ∨ r = 2 ∨ r = 3 ∨ r = 4 := by omega
  · by_cases h : 0 < zs.sum
    · exact refAward0p hc hV hE hLR h
    · exact refAward0z hc hV hE hLR h
  · exact refAward1 hc hV hE hLR
  · exact refAward2 hc hV hE hLR
  · by_cases h : 2 * E ≤ zs.sum
    · exact refAward3l hc hV hE hLR h
    · exact refAward3h hc hV hE hLR h
  · by_cases h : 2 * E ≤ zs.sum
    · exact refAward4l hc hV hE hLR h
    · exact refAward4h hc hV hE hLR h
/-- Award where there is nothing to divide. -/
theorem award_bad {R E : Int} {v : Value} {zs : List Int} {w : World} (hc : IntsO w v zs) (hD : decide (Valid zs ∧ 0 ≤ E ∧ E ≤ zs.sum) = false) : Calls Try.prog 22 #[.int .i64 R, v, .int .i64 E] w fun e w' => e = .returned (.tuple #[.slice none 0 0, .int .i64 2]) ∧ Below w.heap.size w w' := by
  have q62 : Calls Try.prog 62 #[v, .int .i64 E] w fun r w' => ∃ p, r = .returned (.tuple #[.pointer p, .bool false]) ∧ Below w.heap.size w w' := by
    by_cases hV : Valid zs
    · refine (readHeirs_any (e := E) hc hV).mono ?_
      rintro r w' ⟨rfl, hb, _⟩
      exact ⟨some ⟨w.heap.size, 0, none⟩, by rw [decide_eq_false (fun h => (of_decide_eq_false hD) ⟨hV, h⟩)], hb⟩
    · refine (readHeirs_no (e := E) hc hV).mono ?_
      rintro r w' ⟨rfl, hb⟩
      exact ⟨none, rfl, hb⟩
  obtain ⟨A, cap, rfl, hcell⟩ := hc
  generalize zs.length = n at *
  clear hcell hD
  go_enter Try.func22, Try.ntmps22
  go_wp2_with (go_at_call 62; (with_reducible refine q62.mono ?_); rintro e w2 ⟨p, rfl, hb2⟩)
  go_ret2
  exact ⟨rfl, hb2⟩
theorem find_no {H : Nat} {R : Int} (h : R < 0 ∨ 4 < R) : Instr.findNow (.int .i64) (.int .i64 R) (fiveM H).toList 0 = some none := by
  have e0 : (R == 0) = false := by rw [beq_eq_false_iff_ne]; omega
  have e1 : (R == 1) = false := by rw [beq_eq_false_iff_ne]; omega
  have e2 : (R == 2) = false := by rw [beq_eq_false_iff_ne]; omega
  have e3 : (R == 3) = false := by rw [beq_eq_false_iff_ne]; omega
  have e4 : (R == 4) = false := by rw [beq_eq_false_iff_ne]; omega
  simp [fiveM, Instr.findNow, Instr.sameNow, e0, e1, e2, e3, e4]
theorem award_none {R E : Int} {v : Value} {zs : List Int} {w : World} (hc : IntsO w v zs) (hV : Valid zs) (hE : 0 ≤ E ∧ E ≤ zs.sum) (hR : R < 0 ∨ 4 < R) : Calls Try.prog 22 #[.int .i64 R, v, .int .i64 E] w fun e w' => e = .returned (.tuple #[.slice none 0 0, .int .i64 2]) ∧ Below w.heap.size w w' := by
  have q62 := readHeirs_any (e := E) hc hV
  rw [decide_eq_true hE] at q62
  obtain ⟨H, hH⟩ : ∃ H, Keep (w.heap.size = H) := ⟨_, ⟨rfl⟩⟩
  rw [hH.out] at q62
  have q63 := fun w => rules_any (H := H) w
  obtain ⟨A, cap, rfl, hcell⟩ := hc
  generalize zs.length = n at *
  clear hcell hV hE
  go_enter Try.func22, Try.ntmps22
  go_wp2_with (first
    | (go_at_call 62; (with_reducible refine q62.mono ?_); rintro e w2 ⟨rfl, hb2, hg2⟩)
    | (go_at_call 63; (with_reducible refine (q63 _).mono ?_); rintro e w3 ⟨rfl, hm3, hb3⟩
       obtain ⟨z, hl⟩ := look98_no hm3 (find_no hR)
       have hb2 : Below w.heap.size w w2 := by rw [hH.out]; exact hb2
       have hb23 := hb2.trans (hb3.mono hb2.size)
       clear hb3 hm3))
  go_ret2
  exact ⟨rfl, hb23⟩
/-- Right where Award answers with an error. -/
theorem right_bad {R E : Int} {v u : Value} {w : World} (h : Calls Try.prog 22 #[.int .i64 R, v, .int .i64 E] w fun e w' => e = .returned (.tuple #[.slice none 0 0, .int .i64 2]) ∧ Below w.heap.size w w') :
    Calls Try.prog 23 #[.int .i64 R, v, .int .i64 E, u] w fun e w' => e = .returned (.int .i64 2) ∧ Below w.heap.size w w' := by
  go_enter Try.func23, Try.ntmps23
  go_wp2_with (go_at_call 22; (with_reducible refine h.mono ?_); rintro e w1 ⟨rfl, hb1⟩)
  go_ret
  exact ⟨rfl, hb1⟩
theorem right_any {r : Nat} {v u : Value} {zs : List Int} {E N L : Int} {m : Pts} {w : World} (hr : r ≤ 4) (hc : IntsO w v zs) (hV : Valid zs) (hE : 0 ≤ E ∧ E ≤ zs.sum) (hLR : LevR r zs E N L) (hu : FracsO w u m) (hm : m.length ≤ 1000) :
    Calls Try.prog 23 #[.int .i64 (r : Nat), v, .int .i64 E, u] w fun e w' => e = .returned (.int .i64 (if awL r zs E N L = m then 0 else 10)) ∧ Below w.heap.size w w' := by
  have qA := awardM hr hc hV hE
  have huK := Keep.mk hu
  have hl10 := hV.2.1
  have hsm := Keep.mk (fun N' L' h => awL_same (N := N') (L := L') hr hV hE h hLR)
  obtain ⟨C, cu, rfl, -⟩ := hu
  obtain ⟨p, hp⟩ : ∃ p, Keep (m.length = p) := ⟨_, ⟨rfl⟩⟩
  rw [hp.out] at huK ⊢
  have hlen := fun N L => awL_len r zs E N L
  obtain ⟨n, hn⟩ : ∃ n, Keep (zs.length = n) := ⟨_, ⟨rfl⟩⟩
  rw [hn.out] at qA
  by_cases hD : awL r zs E N L = m
  · rw [if_pos hD]
    go_enter Try.func23, Try.ntmps23
    go_wp2_with (first
      | (go_at_call 22; (with_reducible refine qA.mono ?_); rintro e w1 ⟨G, N', L', rfl, m1, hG, hb1⟩
         have q64 := equal64_any (b := .slice C p cu) m1.row (fracsO_below huK.out hb1) (by rw [awL_len]; omega) hm
         rw [decide_eq_true ((hsm.out _ _ m1.lev).trans hD)] at q64
         clear qA m1)
      | (go_at_call 64; (with_reducible refine q64.mono ?_); rintro e w2 ⟨rfl, hb2⟩))
    go_ret
    exact ⟨rfl, hb1.trans (hb2.mono hb1.size)⟩
  · rw [if_neg hD]
    go_enter Try.func23, Try.ntmps23
    go_wp2_with (first
      | (go_at_call 22; (with_reducible refine qA.mono ?_); rintro e w1 ⟨G, N', L', rfl, m1, hG, hb1⟩
         have q64 := equal64_any (b := .slice C p cu) m1.row (fracsO_below huK.out hb1) (by rw [awL_len]; omega) hm
         rw [decide_eq_false (fun h => hD ((hsm.out _ _ m1.lev).symm.trans h))] at q64
         clear qA m1)
      | (go_at_call 64; (with_reducible refine q64.mono ?_); rintro e w2 ⟨rfl, hb2⟩))
    go_ret
    exact ⟨rfl, hb1.trans (hb2.mono hb1.size)⟩
end Go.Proofs.Ytbocmbhinjkjlaa
