/- Awards: isAward of the program. -/
import Derived.Test.YtbocmbhinjkjlaaTerms
import Derived.Test.YtbocmbhinjkjlaaLawGarments
set_option linter.unusedSimpArgs false
set_option linter.unusedVariables false
namespace Go.Proofs.Ytbocmbhinjkjlaa
open Go Go.Proofs Go.RowKit Go.Seq
/-- A share of a claim. -/
def okA (c : Int) (z : Int × Int) : Bool := withinB z.1 z.2 0 20000 20 && decide (z.1 ≤ c * z.2)
def awB (zs : List Int) (E : Int) (l : Pts) : Bool := decide (l.length = zs.length ∧ (∀ i, i < l.length → okA (zs.getD i 0) (l.getD i (0, 0)) = true) ∧ redN (sumT l) MM = E ∧ redD (sumT l) MM = 1)
theorem okA_parts {c : Int} {z : Int × Int} (h : okA c z = true) : 1 ≤ z.2 ∧ z.2 ≤ 20 ∧ 0 ≤ z.1 ∧ z.1 ≤ 20000 ∧ Int.gcd z.1 z.2 = 1 ∧ z.1 ≤ c * z.2 := by
  unfold okA withinB at h
  simp only [Bool.and_eq_true, decide_eq_true_eq] at h
  exact ⟨h.1.1, h.1.2.1, h.1.2.2.1, h.1.2.2.2.1, h.1.2.2.2.2, h.2⟩
theorem okA_okT {c : Int} {z : Int × Int} (h : okA c z = true) : okT z = true := by
  obtain ⟨h1, h2, h3, h4, h5, _⟩ := okA_parts h
  exact decide_eq_true ⟨h1, h2, by omega, by omega, h5⟩
theorem okA_of {c : Int} {z : Int × Int} (hc : 0 ≤ c ∧ c ≤ 1000) (hV : validB z.1 z.2 = true) (h1 : ¬ z.1 < 0) (h2 : ¬ c * z.2 < z.1) (h3 : ¬ 20 < z.2) : okA c z = true := by
  obtain ⟨v1, v2⟩ := of_decide_eq_true hV
  have m : c * z.2 ≤ 1000 * z.2 := Int.mul_le_mul_of_nonneg_right hc.2 (by omega)
  unfold okA withinB
  rw [Bool.and_eq_true]
  exact ⟨decide_eq_true ⟨v1, by omega, by omega, by omega, v2⟩, decide_eq_true (by omega)⟩
structure Own3 (w : World) (g : Nat) (a b c : Value) : Prop where
  blk : BlkAt w g #[a, b, c] 122
theorem Own3.after {w w' : World} {g : Nat} {a b c : Value} (h : Own3 w g a b c) (hb : Below w.heap.size w w') : Own3 w' g a b c := ⟨h.blk.after hb⟩
theorem Own3.c0 {w : World} {g : Nat} {a b c : Value} (h : Own3 w g a b c) : w.cell? ⟨g, 0, none⟩ = some a := by rw [h.blk.cell]; rfl
theorem Own3.c1 {w : World} {g : Nat} {a b c : Value} (h : Own3 w g a b c) : w.cell? ⟨g, 1, none⟩ = some b := by rw [h.blk.cell]; rfl
set_option maxHeartbeats 8000000 in
set_option maxRecDepth 100000 in
theorem isAward_any {H : Nat} {sl v S : Value} {zs : List Int} {E : Int} {l : Pts} {w : World} (hg : Own3 w H sl (.int .i64 E) S) (hc : IntsO w sl zs) (hzb : ∀ z ∈ zs, 0 ≤ z ∧ z ≤ 1000) (hlz : zs.length ≤ 10) (hv : FracsO w v l) (hw : Wide l) (hlen : l.length ≤ 1000) :
    Calls Try.prog 70 #[.pointer (some ⟨H, 0, none⟩), v] w fun r w' => r = .returned (.bool (awB zs E l)) ∧ Below w.heap.size w w' := by
  obtain ⟨D, hD⟩ : ∃ D, Keep (awB zs E l = D) := ⟨_, ⟨rfl⟩⟩
  rw [hD.out]
  obtain ⟨A, cap, rfl, hcell⟩ := hv
  obtain ⟨Z, cz, rfl, hzell⟩ := hc
  by_cases hlz2 : l.length = zs.length
  case neg =>
    have hb : Keep (D = false) := ⟨by rw [← hD.out]; exact decide_eq_false fun h => hlz2 h.1⟩
    have hne : ¬ (l.length : Int) = (zs.length : Int) := by omega
    have h0 := hg.c0
    clear hlz2 hD hcell hzell hzb hw
    go_enter Try.func70, Try.ntmps70
    go_wp2
    go_ret
    exact ⟨by rw [hb.out]; rfl, Below.refl _ _⟩
  have h0 := hg.c0
  have q84 := fun w => whole_any 0 w
  have q84e := fun w => whole_any E w
  have e0 : redV (sumT (l.take 0)) MM = fracV 0 1 := redV_zero (by decide)
  unfold fracV at q84 e0 q84e
  have hle : (l.length : Int) = (zs.length : Int) := by omega
  go_enter Try.func70, Try.ntmps70
  go_wp2_with (go_at_call 84; (with_reducible refine (q84 _).mono ?_); rintro e w6 ⟨rfl, hb6⟩
               obtain ⟨w7, hw7⟩ : ∃ w7, w6.alloc (.cells #[.int .i64 0, .int .i64 1] 37) = w7 := ⟨_, rfl⟩
               have hb7 : Below w6.heap.size w6 w7 := by rw [← hw7]; exact (Below.refl _ _).alloc (Nat.le_refl _) _
               have o4 : BlkAt w7 w6.heap.size #[.int .i64 0, .int .i64 1] 37 := by rw [← hw7]; exact BlkAt.new _ _ _
               have hbw7 := hb6.trans (hb7.mono hb6.size)
               have hg4 := hb6.size
               clear hb6 hb7 q84)
  obtain ⟨G, hG⟩ : ∃ G, w6.heap.size = G := ⟨_, rfl⟩
  rw [hG] at o4 hg4 ⊢
  clear hG h0
  go_loopw [19] (fun i wr => ∃ k : Nat, k ≤ l.length ∧ i = .int .i64 k ∧ Below w.heap.size w wr ∧ BlkAt wr G #[.int .i64 (redN (sumT (l.take k)) MM), .int .i64 (redD (sumT (l.take k)) MM)] 37 ∧ Keep (∀ i, i < k → okA (zs.getD i 0) (l.getD i (0, 0)) = true)) (fun i _ => l.length - (intOf i).toNat)
  case atStart =>
    refine ⟨0, by omega, rfl, hbw7, ?_, ⟨fun i hi => by omega⟩⟩
    unfold redV fracV at e0
    injection e0 with e0
    rw [e0]; exact o4
  case round =>
    obtain ⟨k, hk, rfl, hbw, b4, hall⟩ := hrel
    have hbz := hbw.size
    have hgr := hg.after hbw
    by_cases hlt : k < l.length
    · obtain ⟨g', o', rfl, hz1, hz2⟩ := hcell k hlt
      obtain ⟨g, o, rfl, hzc⟩ := hzell k (by omega)
      have hltz : k < zs.length := by omega
      have hz1 := cell_below hz1 hbw
      have hz2 := cell_below hz2 hbw
      have hzc := cell_below hzc hbw
      obtain ⟨i1, i2⟩ := hw _ (getp hlt)
      have q := fun w => isValid_any i1 i2 w
      have hcb := hzb _ (getz hltz)
      have hs : -2327925600000000 ≤ sumT (l.take k) ∧ sumT (l.take k) ≤ 2327925600000000 := by
        have h : ∀ z ∈ l.take k, okT z = true := all_of_getp (l := l.take k) (p := fun z => okT z = true) fun i hi => by
          rw [List.length_take] at hi
          rw [take_getp (by omega)]; exact okA_okT (hall.out i (by omega))
        have := sumT_bound h k
        rw [List.take_take, Nat.min_self] at this
        omega
      have ht := Keep.mk (sumT_take hlt)
      have hok := fun hV h1 h2 h3 => okA_of (z := l.getD k (0, 0)) hcb hV h1 h2 h3
      have hall2 : okA (zs.getD k 0) (l.getD k (0, 0)) = true → Keep (∀ i, i < k + 1 → okA (zs.getD i 0) (l.getD i (0, 0)) = true) := fun h => ⟨fun i hi => by
        rcases Nat.lt_or_ge i k with h' | h'
        · exact hall.out i h'
        · obtain rfl : i = k := by omega
          exact h⟩
      have hbad : ¬ okA (zs.getD k 0) (l.getD k (0, 0)) = true → Keep (D = false) := fun h => ⟨by
        rw [← hD.out]
        exact decide_eq_false fun hh => h (hh.2.1 _ hlt)⟩
      generalize l.getD k (0, 0) = z at hz1 hz2 q hok hall2 hbad i1 i2 ht
      generalize zs.getD k 0 = c at hzc hok hall2 hbad hcb
      obtain ⟨n, d⟩ := z
      simp only at hz1 hz2 q hok i1 i2
      unfold fracV at q
      clear hall hcell hzell hw hzb hD e0
      obtain ⟨w8, hw8⟩ : ∃ w8, wr.alloc (.cells #[.int .i64 n, .int .i64 d] 37) = w8 := ⟨_, rfl⟩
      have hb8 : Below wr.heap.size wr w8 := by rw [← hw8]; exact (Below.refl _ _).alloc (Nat.le_refl _) _
      have o7 : Own2 w8 wr.heap.size (.int .i64 n) (.int .i64 d) := by rw [← hw8]; exact Own2.new _ _ _ _
      have hcc := cell_below hzc hb8
      have b48 := b4.after hb8
      have hbw8 := hbw.trans (hb8.mono hbz)
      have hg8 := hgr.after hb8
      clear hb8 hzc
      cases hV : validB n d with
      | false =>
        rw [hV] at q
        have hb := hbad fun h => by
          obtain ⟨h1, h2, h3, h4, h5, _⟩ := okA_parts h
          rw [show validB n d = true from decide_eq_true ⟨h1, h5⟩] at hV; cases hV
        clear hall2 hbad hok hV
        go_wp2
        try rw [hw8]
        refine (wpIn_wide (n := 0)).1 ?_
        refine Many.region_many (Cb w8) mixed_ok (by kernel_rfl) (fun _ _ _ _ h => h) (fun s _ => Cb.start w8 s) ?_
        refine Many.lex_want (by rfl) (rdb (v := .agg #[.int .i64 n, .int .i64 d]) (fun w hb => by (obtain ⟨c0, c1, f0, f1⟩ := o7.after hb; go_simp; try rfl))) ?_
        simp only [Act.put, List.setIfInBounds_toArray, List.set_cons_succ, List.set_cons_zero, Nat.reduceAdd]
        refine Many.lex_want (by rfl) (clb q (fun w hb => by (go_simp; try rfl))) ?_
        simp only [Act.put, List.setIfInBounds_toArray, List.set_cons_succ, List.set_cons_zero, Nat.reduceAdd]
        refine Many.lex_want (by rfl) (rdb (v := .bool true) (fun w hb => by (skip; go_simp; try rfl))) ?_
        simp only [Act.put, List.setIfInBounds_toArray, List.set_cons_succ, List.set_cons_zero, Nat.reduceAdd]
        refine Many.lex_want (by rfl) (rdb (v := .bool true) (fun w hb => by (skip; go_simp; try rfl))) ?_
        simp only [Act.put, List.setIfInBounds_toArray, List.set_cons_succ, List.set_cons_zero, Nat.reduceAdd]
        refine lex_skip (by rfl) Cb.keep ?_
        simp only [Act.put, List.setIfInBounds_toArray, List.set_cons_succ, List.set_cons_zero, Nat.reduceAdd]
        refine lex_skip (by rfl) Cb.keep ?_
        simp only [Act.put, List.setIfInBounds_toArray, List.set_cons_succ, List.set_cons_zero, Nat.reduceAdd]
        refine lex_skip (by rfl) Cb.keep ?_
        simp only [Act.put, List.setIfInBounds_toArray, List.set_cons_succ, List.set_cons_zero, Nat.reduceAdd]
        refine Many.lex_want (by rfl) (rdb (v := .bool true) (fun w hb => by (skip; go_simp; try rfl))) ?_
        simp only [Act.put, List.setIfInBounds_toArray, List.set_cons_succ, List.set_cons_zero, Nat.reduceAdd]
        refine Many.lex_want (by rfl) (rdb (v := .bool true) (fun w hb => by (skip; go_simp; try rfl))) ?_
        simp only [Act.put, List.setIfInBounds_toArray, List.set_cons_succ, List.set_cons_zero, Nat.reduceAdd]
        refine lex_skip (by rfl) Cb.keep ?_
        simp only [Act.put, List.setIfInBounds_toArray, List.set_cons_succ, List.set_cons_zero, Nat.reduceAdd]
        refine lex_skip (by rfl) Cb.keep ?_
        simp only [Act.put, List.setIfInBounds_toArray, List.set_cons_succ, List.set_cons_zero, Nat.reduceAdd]
        refine lex_skip (by rfl) Cb.keep ?_
        simp only [Act.put, List.setIfInBounds_toArray, List.set_cons_succ, List.set_cons_zero, Nat.reduceAdd]
        refine Many.lex_want (by rfl) (rdb (v := .bool true) (fun w hb => by (skip; go_simp; try rfl))) ?_
        simp only [Act.put, List.setIfInBounds_toArray, List.set_cons_succ, List.set_cons_zero, Nat.reduceAdd]
        refine Many.lex_want (by rfl) (rdb (v := .bool true) (fun w hb => by (skip; go_simp; try rfl))) ?_
        simp only [Act.put, List.setIfInBounds_toArray, List.set_cons_succ, List.set_cons_zero, Nat.reduceAdd]
        refine lex_skip (by rfl) Cb.keep ?_
        simp only [Act.put, List.setIfInBounds_toArray, List.set_cons_succ, List.set_cons_zero, Nat.reduceAdd]
        refine lex_skip (by rfl) Cb.keep ?_
        simp only [Act.put, List.setIfInBounds_toArray, List.set_cons_succ, List.set_cons_zero, Nat.reduceAdd]
        refine lex_skip (by rfl) Cb.keep ?_
        simp only [Act.put, List.setIfInBounds_toArray, List.set_cons_succ, List.set_cons_zero, Nat.reduceAdd]
        refine lex_skip (by rfl) Cb.keep ?_
        simp only [Act.put, List.setIfInBounds_toArray, List.set_cons_succ, List.set_cons_zero, Nat.reduceAdd]
        refine lex_skip (by rfl) Cb.keep ?_
        simp only [Act.put, List.setIfInBounds_toArray, List.set_cons_succ, List.set_cons_zero, Nat.reduceAdd]
        refine lex_skip (by rfl) Cb.keep ?_
        simp only [Act.put, List.setIfInBounds_toArray, List.set_cons_succ, List.set_cons_zero, Nat.reduceAdd]
        refine lex_skip (by rfl) Cb.keep ?_
        simp only [Act.put, List.setIfInBounds_toArray, List.set_cons_succ, List.set_cons_zero, Nat.reduceAdd]
        refine lex_skip (by rfl) Cb.keep ?_
        simp only [Act.put, List.setIfInBounds_toArray, List.set_cons_succ, List.set_cons_zero, Nat.reduceAdd]
        refine lex_skip (by rfl) Cb.keep ?_
        simp only [Act.put, List.setIfInBounds_toArray, List.set_cons_succ, List.set_cons_zero, Nat.reduceAdd]
        refine lex_skip (by rfl) Cb.keep ?_
        simp only [Act.put, List.setIfInBounds_toArray, List.set_cons_succ, List.set_cons_zero, Nat.reduceAdd]
        refine lex_skip (by rfl) Cb.keep ?_
        simp only [Act.put, List.setIfInBounds_toArray, List.set_cons_succ, List.set_cons_zero, Nat.reduceAdd]
        refine lex_skip (by rfl) Cb.keep ?_
        simp only [Act.put, List.setIfInBounds_toArray, List.set_cons_succ, List.set_cons_zero, Nat.reduceAdd]
        refine lex_skip (by rfl) Cb.keep ?_
        simp only [Act.put, List.setIfInBounds_toArray, List.set_cons_succ, List.set_cons_zero, Nat.reduceAdd]
        refine Many.lex_want (by rfl) (rdb (v := .bool true) (fun w hb => by (skip; go_simp; try rfl))) ?_
        simp only [Act.put, List.setIfInBounds_toArray, List.set_cons_succ, List.set_cons_zero, Nat.reduceAdd]
        refine Many.lex_nil fun s W1 hs hC => ?_
        have hC : Below w8.heap.size w8 W1 := hC
        have hbw9 := hbw8.trans (hC.mono hbw8.size)
        go_wp2
        go_ret
        exact ⟨by rw [hb.out]; rfl, hbw9⟩
      | true =>
        rw [hV] at q
        by_cases k3 : 20 < d
        · have hb := hbad fun h => by
            obtain ⟨h1, h2, h3, h4, h5, _⟩ := okA_parts h
            simp only at h2; omega
          clear hall2 hbad hok hV
          go_wp2
          try rw [hw8]
          refine (wpIn_wide (n := 0)).1 ?_
          refine Many.region_many (Cb w8) mixed_ok (by kernel_rfl) (fun _ _ _ _ h => h) (fun s _ => Cb.start w8 s) ?_
          refine Many.lex_want (by rfl) (rdb (v := .agg #[.int .i64 n, .int .i64 d]) (fun w hb => by (obtain ⟨c0, c1, f0, f1⟩ := o7.after hb; go_simp; try rfl))) ?_
          simp only [Act.put, List.setIfInBounds_toArray, List.set_cons_succ, List.set_cons_zero, Nat.reduceAdd]
          refine Many.lex_want (by rfl) (clb q (fun w hb => by (go_simp; try rfl))) ?_
          simp only [Act.put, List.setIfInBounds_toArray, List.set_cons_succ, List.set_cons_zero, Nat.reduceAdd]
          refine Many.lex_want (by rfl) (rdb (v := .bool false) (fun w hb => by (skip; go_simp; try rfl))) ?_
          simp only [Act.put, List.setIfInBounds_toArray, List.set_cons_succ, List.set_cons_zero, Nat.reduceAdd]
          refine Many.lex_want (by rfl) (rdb (v := .bool false) (fun w hb => by (skip; go_simp; try rfl))) ?_
          simp only [Act.put, List.setIfInBounds_toArray, List.set_cons_succ, List.set_cons_zero, Nat.reduceAdd]
          refine Many.lex_want (by rfl) (rdb (fun w hb => by (go_simp; try rfl))) ?_
          simp only [Act.put, List.setIfInBounds_toArray, List.set_cons_succ, List.set_cons_zero, Nat.reduceAdd]
          refine Many.lex_want (by rfl) (rdb (v := .int .i64 d) (fun w hb => by (obtain ⟨c0, c1, f0, f1⟩ := o7.after hb; go_simp; try rfl))) ?_
          simp only [Act.put, List.setIfInBounds_toArray, List.set_cons_succ, List.set_cons_zero, Nat.reduceAdd]
          refine Many.lex_want (by rfl) (rdb (v := .bool true) (fun w hb => by (have hx := k3; go_simp; try rfl))) ?_
          simp only [Act.put, List.setIfInBounds_toArray, List.set_cons_succ, List.set_cons_zero, Nat.reduceAdd]
          refine Many.lex_want (by rfl) (rdb (v := .bool true) (fun w hb => by (skip; go_simp; try rfl))) ?_
          simp only [Act.put, List.setIfInBounds_toArray, List.set_cons_succ, List.set_cons_zero, Nat.reduceAdd]
          refine Many.lex_want (by rfl) (rdb (v := .bool true) (fun w hb => by (skip; go_simp; try rfl))) ?_
          simp only [Act.put, List.setIfInBounds_toArray, List.set_cons_succ, List.set_cons_zero, Nat.reduceAdd]
          refine lex_skip (by rfl) Cb.keep ?_
          simp only [Act.put, List.setIfInBounds_toArray, List.set_cons_succ, List.set_cons_zero, Nat.reduceAdd]
          refine lex_skip (by rfl) Cb.keep ?_
          simp only [Act.put, List.setIfInBounds_toArray, List.set_cons_succ, List.set_cons_zero, Nat.reduceAdd]
          refine lex_skip (by rfl) Cb.keep ?_
          simp only [Act.put, List.setIfInBounds_toArray, List.set_cons_succ, List.set_cons_zero, Nat.reduceAdd]
          refine Many.lex_want (by rfl) (rdb (v := .bool true) (fun w hb => by (skip; go_simp; try rfl))) ?_
          simp only [Act.put, List.setIfInBounds_toArray, List.set_cons_succ, List.set_cons_zero, Nat.reduceAdd]
          refine Many.lex_want (by rfl) (rdb (v := .bool true) (fun w hb => by (skip; go_simp; try rfl))) ?_
          simp only [Act.put, List.setIfInBounds_toArray, List.set_cons_succ, List.set_cons_zero, Nat.reduceAdd]
          refine lex_skip (by rfl) Cb.keep ?_
          simp only [Act.put, List.setIfInBounds_toArray, List.set_cons_succ, List.set_cons_zero, Nat.reduceAdd]
          refine lex_skip (by rfl) Cb.keep ?_
          simp only [Act.put, List.setIfInBounds_toArray, List.set_cons_succ, List.set_cons_zero, Nat.reduceAdd]
          refine lex_skip (by rfl) Cb.keep ?_
          simp only [Act.put, List.setIfInBounds_toArray, List.set_cons_succ, List.set_cons_zero, Nat.reduceAdd]
          refine lex_skip (by rfl) Cb.keep ?_
          simp only [Act.put, List.setIfInBounds_toArray, List.set_cons_succ, List.set_cons_zero, Nat.reduceAdd]
          refine lex_skip (by rfl) Cb.keep ?_
          simp only [Act.put, List.setIfInBounds_toArray, List.set_cons_succ, List.set_cons_zero, Nat.reduceAdd]
          refine lex_skip (by rfl) Cb.keep ?_
          simp only [Act.put, List.setIfInBounds_toArray, List.set_cons_succ, List.set_cons_zero, Nat.reduceAdd]
          refine lex_skip (by rfl) Cb.keep ?_
          simp only [Act.put, List.setIfInBounds_toArray, List.set_cons_succ, List.set_cons_zero, Nat.reduceAdd]
          refine lex_skip (by rfl) Cb.keep ?_
          simp only [Act.put, List.setIfInBounds_toArray, List.set_cons_succ, List.set_cons_zero, Nat.reduceAdd]
          refine lex_skip (by rfl) Cb.keep ?_
          simp only [Act.put, List.setIfInBounds_toArray, List.set_cons_succ, List.set_cons_zero, Nat.reduceAdd]
          refine lex_skip (by rfl) Cb.keep ?_
          simp only [Act.put, List.setIfInBounds_toArray, List.set_cons_succ, List.set_cons_zero, Nat.reduceAdd]
          refine lex_skip (by rfl) Cb.keep ?_
          simp only [Act.put, List.setIfInBounds_toArray, List.set_cons_succ, List.set_cons_zero, Nat.reduceAdd]
          refine lex_skip (by rfl) Cb.keep ?_
          simp only [Act.put, List.setIfInBounds_toArray, List.set_cons_succ, List.set_cons_zero, Nat.reduceAdd]
          refine lex_skip (by rfl) Cb.keep ?_
          simp only [Act.put, List.setIfInBounds_toArray, List.set_cons_succ, List.set_cons_zero, Nat.reduceAdd]
          refine Many.lex_want (by rfl) (rdb (v := .bool true) (fun w hb => by (skip; go_simp; try rfl))) ?_
          simp only [Act.put, List.setIfInBounds_toArray, List.set_cons_succ, List.set_cons_zero, Nat.reduceAdd]
          refine Many.lex_nil fun s W1 hs hC => ?_
          have hC : Below w8.heap.size w8 W1 := hC
          have hbw9 := hbw8.trans (hC.mono hbw8.size)
          go_wp2
          go_ret
          exact ⟨by rw [hb.out]; rfl, hbw9⟩
        by_cases k1 : n < 0
        · have hb := hbad fun h => by
            obtain ⟨h1, h2, h3, h4, h5, _⟩ := okA_parts h
            simp only at h3; omega
          clear hall2 hbad hok hV
          go_wp2
          try rw [hw8]
          refine (wpIn_wide (n := 0)).1 ?_
          refine Many.region_many (Cb w8) mixed_ok (by kernel_rfl) (fun _ _ _ _ h => h) (fun s _ => Cb.start w8 s) ?_
          refine Many.lex_want (by rfl) (rdb (v := .agg #[.int .i64 n, .int .i64 d]) (fun w hb => by (obtain ⟨c0, c1, f0, f1⟩ := o7.after hb; go_simp; try rfl))) ?_
          simp only [Act.put, List.setIfInBounds_toArray, List.set_cons_succ, List.set_cons_zero, Nat.reduceAdd]
          refine Many.lex_want (by rfl) (clb q (fun w hb => by (go_simp; try rfl))) ?_
          simp only [Act.put, List.setIfInBounds_toArray, List.set_cons_succ, List.set_cons_zero, Nat.reduceAdd]
          refine Many.lex_want (by rfl) (rdb (v := .bool false) (fun w hb => by (skip; go_simp; try rfl))) ?_
          simp only [Act.put, List.setIfInBounds_toArray, List.set_cons_succ, List.set_cons_zero, Nat.reduceAdd]
          refine Many.lex_want (by rfl) (rdb (v := .bool false) (fun w hb => by (skip; go_simp; try rfl))) ?_
          simp only [Act.put, List.setIfInBounds_toArray, List.set_cons_succ, List.set_cons_zero, Nat.reduceAdd]
          refine Many.lex_want (by rfl) (rdb (fun w hb => by (go_simp; try rfl))) ?_
          simp only [Act.put, List.setIfInBounds_toArray, List.set_cons_succ, List.set_cons_zero, Nat.reduceAdd]
          refine Many.lex_want (by rfl) (rdb (v := .int .i64 d) (fun w hb => by (obtain ⟨c0, c1, f0, f1⟩ := o7.after hb; go_simp; try rfl))) ?_
          simp only [Act.put, List.setIfInBounds_toArray, List.set_cons_succ, List.set_cons_zero, Nat.reduceAdd]
          refine Many.lex_want (by rfl) (rdb (v := .bool false) (fun w hb => by (have hx := k3; go_simp; try rfl))) ?_
          simp only [Act.put, List.setIfInBounds_toArray, List.set_cons_succ, List.set_cons_zero, Nat.reduceAdd]
          refine Many.lex_want (by rfl) (rdb (v := .bool false) (fun w hb => by (skip; go_simp; try rfl))) ?_
          simp only [Act.put, List.setIfInBounds_toArray, List.set_cons_succ, List.set_cons_zero, Nat.reduceAdd]
          refine Many.lex_want (by rfl) (rdb (v := .bool false) (fun w hb => by (skip; go_simp; try rfl))) ?_
          simp only [Act.put, List.setIfInBounds_toArray, List.set_cons_succ, List.set_cons_zero, Nat.reduceAdd]
          refine Many.lex_want (by rfl) (rdb (fun w hb => by (go_simp; try rfl))) ?_
          simp only [Act.put, List.setIfInBounds_toArray, List.set_cons_succ, List.set_cons_zero, Nat.reduceAdd]
          refine Many.lex_want (by rfl) (rdb (v := .int .i64 n) (fun w hb => by (obtain ⟨c0, c1, f0, f1⟩ := o7.after hb; go_simp; try rfl))) ?_
          simp only [Act.put, List.setIfInBounds_toArray, List.set_cons_succ, List.set_cons_zero, Nat.reduceAdd]
          refine Many.lex_want (by rfl) (rdb (v := .bool true) (fun w hb => by (have hx := k1; go_simp; try rfl))) ?_
          simp only [Act.put, List.setIfInBounds_toArray, List.set_cons_succ, List.set_cons_zero, Nat.reduceAdd]
          refine Many.lex_want (by rfl) (rdb (v := .bool true) (fun w hb => by (skip; go_simp; try rfl))) ?_
          simp only [Act.put, List.setIfInBounds_toArray, List.set_cons_succ, List.set_cons_zero, Nat.reduceAdd]
          refine Many.lex_want (by rfl) (rdb (v := .bool true) (fun w hb => by (skip; go_simp; try rfl))) ?_
          simp only [Act.put, List.setIfInBounds_toArray, List.set_cons_succ, List.set_cons_zero, Nat.reduceAdd]
          refine lex_skip (by rfl) Cb.keep ?_
          simp only [Act.put, List.setIfInBounds_toArray, List.set_cons_succ, List.set_cons_zero, Nat.reduceAdd]
          refine lex_skip (by rfl) Cb.keep ?_
          simp only [Act.put, List.setIfInBounds_toArray, List.set_cons_succ, List.set_cons_zero, Nat.reduceAdd]
          refine lex_skip (by rfl) Cb.keep ?_
          simp only [Act.put, List.setIfInBounds_toArray, List.set_cons_succ, List.set_cons_zero, Nat.reduceAdd]
          refine lex_skip (by rfl) Cb.keep ?_
          simp only [Act.put, List.setIfInBounds_toArray, List.set_cons_succ, List.set_cons_zero, Nat.reduceAdd]
          refine lex_skip (by rfl) Cb.keep ?_
          simp only [Act.put, List.setIfInBounds_toArray, List.set_cons_succ, List.set_cons_zero, Nat.reduceAdd]
          refine lex_skip (by rfl) Cb.keep ?_
          simp only [Act.put, List.setIfInBounds_toArray, List.set_cons_succ, List.set_cons_zero, Nat.reduceAdd]
          refine lex_skip (by rfl) Cb.keep ?_
          simp only [Act.put, List.setIfInBounds_toArray, List.set_cons_succ, List.set_cons_zero, Nat.reduceAdd]
          refine lex_skip (by rfl) Cb.keep ?_
          simp only [Act.put, List.setIfInBounds_toArray, List.set_cons_succ, List.set_cons_zero, Nat.reduceAdd]
          refine lex_skip (by rfl) Cb.keep ?_
          simp only [Act.put, List.setIfInBounds_toArray, List.set_cons_succ, List.set_cons_zero, Nat.reduceAdd]
          refine lex_skip (by rfl) Cb.keep ?_
          simp only [Act.put, List.setIfInBounds_toArray, List.set_cons_succ, List.set_cons_zero, Nat.reduceAdd]
          refine lex_skip (by rfl) Cb.keep ?_
          simp only [Act.put, List.setIfInBounds_toArray, List.set_cons_succ, List.set_cons_zero, Nat.reduceAdd]
          refine lex_skip (by rfl) Cb.keep ?_
          simp only [Act.put, List.setIfInBounds_toArray, List.set_cons_succ, List.set_cons_zero, Nat.reduceAdd]
          refine lex_skip (by rfl) Cb.keep ?_
          simp only [Act.put, List.setIfInBounds_toArray, List.set_cons_succ, List.set_cons_zero, Nat.reduceAdd]
          refine Many.lex_want (by rfl) (rdb (v := .bool true) (fun w hb => by (skip; go_simp; try rfl))) ?_
          simp only [Act.put, List.setIfInBounds_toArray, List.set_cons_succ, List.set_cons_zero, Nat.reduceAdd]
          refine Many.lex_nil fun s W1 hs hC => ?_
          have hC : Below w8.heap.size w8 W1 := hC
          have hbw9 := hbw8.trans (hC.mono hbw8.size)
          go_wp2
          go_ret
          exact ⟨by rw [hb.out]; rfl, hbw9⟩
        have hd1 : 1 ≤ d := (of_decide_eq_true hV).1
        have m1 : c * d ≤ 1000 * d := Int.mul_le_mul_of_nonneg_right hcb.2 (by omega)
        have m2 : 0 ≤ c * d := Int.mul_nonneg hcb.1 (by omega)
        have hPQ : IntKind.i64.wrap (c * d) = c * d := IntWalk.i64_in _ (by omega)
        by_cases k2 : c * d < n
        · have hb := hbad fun h => by
            obtain ⟨h1, h2, h3, h4, h5, h6⟩ := okA_parts h
            simp only at h6; omega
          obtain ⟨P, hP2⟩ : ∃ P, Keep (c * d = P) := ⟨_, ⟨rfl⟩⟩
          rw [hP2.out] at k2
          have hPP : IntKind.i64.wrap (c * d) = P := by rw [← hP2.out]; exact hPQ
          clear hall2 hbad hok hV m1 m2 hPQ
          go_wp2
          try rw [hw8]
          refine (wpIn_wide (n := 0)).1 ?_
          refine Many.region_many (Cb w8) mixed_ok (by kernel_rfl) (fun _ _ _ _ h => h) (fun s _ => Cb.start w8 s) ?_
          refine Many.lex_want (by rfl) (rdb (v := .agg #[.int .i64 n, .int .i64 d]) (fun w hb => by (obtain ⟨c0, c1, f0, f1⟩ := o7.after hb; go_simp; try rfl))) ?_
          simp only [Act.put, List.setIfInBounds_toArray, List.set_cons_succ, List.set_cons_zero, Nat.reduceAdd]
          refine Many.lex_want (by rfl) (clb q (fun w hb => by (go_simp; try rfl))) ?_
          simp only [Act.put, List.setIfInBounds_toArray, List.set_cons_succ, List.set_cons_zero, Nat.reduceAdd]
          refine Many.lex_want (by rfl) (rdb (v := .bool false) (fun w hb => by (skip; go_simp; try rfl))) ?_
          simp only [Act.put, List.setIfInBounds_toArray, List.set_cons_succ, List.set_cons_zero, Nat.reduceAdd]
          refine Many.lex_want (by rfl) (rdb (v := .bool false) (fun w hb => by (skip; go_simp; try rfl))) ?_
          simp only [Act.put, List.setIfInBounds_toArray, List.set_cons_succ, List.set_cons_zero, Nat.reduceAdd]
          refine Many.lex_want (by rfl) (rdb (fun w hb => by (go_simp; try rfl))) ?_
          simp only [Act.put, List.setIfInBounds_toArray, List.set_cons_succ, List.set_cons_zero, Nat.reduceAdd]
          refine Many.lex_want (by rfl) (rdb (v := .int .i64 d) (fun w hb => by (obtain ⟨c0, c1, f0, f1⟩ := o7.after hb; go_simp; try rfl))) ?_
          simp only [Act.put, List.setIfInBounds_toArray, List.set_cons_succ, List.set_cons_zero, Nat.reduceAdd]
          refine Many.lex_want (by rfl) (rdb (v := .bool false) (fun w hb => by (have hx := k3; go_simp; try rfl))) ?_
          simp only [Act.put, List.setIfInBounds_toArray, List.set_cons_succ, List.set_cons_zero, Nat.reduceAdd]
          refine Many.lex_want (by rfl) (rdb (v := .bool false) (fun w hb => by (skip; go_simp; try rfl))) ?_
          simp only [Act.put, List.setIfInBounds_toArray, List.set_cons_succ, List.set_cons_zero, Nat.reduceAdd]
          refine Many.lex_want (by rfl) (rdb (v := .bool false) (fun w hb => by (skip; go_simp; try rfl))) ?_
          simp only [Act.put, List.setIfInBounds_toArray, List.set_cons_succ, List.set_cons_zero, Nat.reduceAdd]
          refine Many.lex_want (by rfl) (rdb (fun w hb => by (go_simp; try rfl))) ?_
          simp only [Act.put, List.setIfInBounds_toArray, List.set_cons_succ, List.set_cons_zero, Nat.reduceAdd]
          refine Many.lex_want (by rfl) (rdb (v := .int .i64 n) (fun w hb => by (obtain ⟨c0, c1, f0, f1⟩ := o7.after hb; go_simp; try rfl))) ?_
          simp only [Act.put, List.setIfInBounds_toArray, List.set_cons_succ, List.set_cons_zero, Nat.reduceAdd]
          refine Many.lex_want (by rfl) (rdb (v := .bool false) (fun w hb => by (have hx := k1; go_simp; try rfl))) ?_
          simp only [Act.put, List.setIfInBounds_toArray, List.set_cons_succ, List.set_cons_zero, Nat.reduceAdd]
          refine Many.lex_want (by rfl) (rdb (v := .bool false) (fun w hb => by (skip; go_simp; try rfl))) ?_
          simp only [Act.put, List.setIfInBounds_toArray, List.set_cons_succ, List.set_cons_zero, Nat.reduceAdd]
          refine Many.lex_want (by rfl) (rdb (v := .bool false) (fun w hb => by (skip; go_simp; try rfl))) ?_
          simp only [Act.put, List.setIfInBounds_toArray, List.set_cons_succ, List.set_cons_zero, Nat.reduceAdd]
          refine Many.lex_want (by rfl) (rdb (fun w hb => by (go_simp; try rfl))) ?_
          simp only [Act.put, List.setIfInBounds_toArray, List.set_cons_succ, List.set_cons_zero, Nat.reduceAdd]
          refine Many.lex_want (by rfl) (rdb (v := .int .i64 n) (fun w hb => by (obtain ⟨c0, c1, f0, f1⟩ := o7.after hb; go_simp; try rfl))) ?_
          simp only [Act.put, List.setIfInBounds_toArray, List.set_cons_succ, List.set_cons_zero, Nat.reduceAdd]
          refine Many.lex_want (by rfl) (rdb (fun w hb => by (go_simp; try rfl))) ?_
          simp only [Act.put, List.setIfInBounds_toArray, List.set_cons_succ, List.set_cons_zero, Nat.reduceAdd]
          refine Many.lex_want (by rfl) (rdb (fun w hb => by (go_simp; try rfl))) ?_
          simp only [Act.put, List.setIfInBounds_toArray, List.set_cons_succ, List.set_cons_zero, Nat.reduceAdd]
          refine Many.lex_want (by rfl) (rdb (fun w hb => by (go_simp; try rfl))) ?_
          simp only [Act.put, List.setIfInBounds_toArray, List.set_cons_succ, List.set_cons_zero, Nat.reduceAdd]
          refine Many.lex_want (by rfl) (rdb (v := .slice (some ⟨g, o, none⟩) zs.length cz) (fun w hb => by (have h0 := (hg8.after hb).c0; go_simp; try rfl))) ?_
          simp only [Act.put, List.setIfInBounds_toArray, List.set_cons_succ, List.set_cons_zero, Nat.reduceAdd]
          refine Many.lex_want (by rfl) (rdb (fun w hb => by (go_simp; try rfl))) ?_
          simp only [Act.put, List.setIfInBounds_toArray, List.set_cons_succ, List.set_cons_zero, Nat.reduceAdd]
          refine Many.lex_want (by rfl) (rdb (v := .pointer (some ⟨g, o + k, none⟩)) (fun w hb => by (have hk := hltz; go_simp; try rfl))) ?_
          simp only [Act.put, List.setIfInBounds_toArray, List.set_cons_succ, List.set_cons_zero, Nat.reduceAdd]
          refine Many.lex_want (by rfl) (rdb (v := .int .i64 c) (fun w hb => by (have hc := cell_below hcc hb; go_simp; try rfl))) ?_
          simp only [Act.put, List.setIfInBounds_toArray, List.set_cons_succ, List.set_cons_zero, Nat.reduceAdd]
          refine Many.lex_want (by rfl) (rdb (fun w hb => by (go_simp; try rfl))) ?_
          simp only [Act.put, List.setIfInBounds_toArray, List.set_cons_succ, List.set_cons_zero, Nat.reduceAdd]
          refine Many.lex_want (by rfl) (rdb (v := .int .i64 d) (fun w hb => by (obtain ⟨c0, c1, f0, f1⟩ := o7.after hb; go_simp; try rfl))) ?_
          simp only [Act.put, List.setIfInBounds_toArray, List.set_cons_succ, List.set_cons_zero, Nat.reduceAdd]
          refine Many.lex_want (by rfl) (rdb (v := .int .i64 P) (fun w hb => by (have hP := hPP; go_simp; try rfl))) ?_
          simp only [Act.put, List.setIfInBounds_toArray, List.set_cons_succ, List.set_cons_zero, Nat.reduceAdd]
          refine Many.lex_want (by rfl) (rdb (v := .bool true) (fun w hb => by (have hx := k2; go_simp; try rfl))) ?_
          simp only [Act.put, List.setIfInBounds_toArray, List.set_cons_succ, List.set_cons_zero, Nat.reduceAdd]
          refine Many.lex_want (by rfl) (rdb (v := .bool true) (fun w hb => by (skip; go_simp; try rfl))) ?_
          simp only [Act.put, List.setIfInBounds_toArray, List.set_cons_succ, List.set_cons_zero, Nat.reduceAdd]
          refine Many.lex_nil fun s W1 hs hC => ?_
          have hC : Below w8.heap.size w8 W1 := hC
          have hbw9 := hbw8.trans (hC.mono hbw8.size)
          go_wp2
          go_ret
          exact ⟨by rw [hb.out]; rfl, hbw9⟩
        have hzt := hok hV k1 k2 k3
        have hb := hall2 hzt
        have qs := fun w => sum_step (S := sumT (l.take k)) (n := n) (d := d) hs (okA_okT hzt) w
        simp only at ht
        rw [← ht.out] at qs
        obtain ⟨S1, hS1⟩ : ∃ S1, Keep (sumT (l.take (k + 1)) = S1) := ⟨_, ⟨rfl⟩⟩
        rw [hS1.out] at qs
        generalize sumT (l.take k) = S0 at *
        unfold redV fracV at qs
        obtain ⟨y0, hy0⟩ : ∃ y0, Keep (redN S1 MM = y0) := ⟨_, ⟨rfl⟩⟩
        obtain ⟨y1, hy1⟩ : ∃ y1, Keep (redD S1 MM = y1) := ⟨_, ⟨rfl⟩⟩
        rw [hy0.out, hy1.out] at qs
        generalize redN S0 MM = x0 at *
        generalize redD S0 MM = x1 at *
        obtain ⟨P, hP2⟩ : ∃ P, Keep (c * d = P) := ⟨_, ⟨rfl⟩⟩
        rw [hP2.out] at k2
        have hPP : IntKind.i64.wrap (c * d) = P := by rw [← hP2.out]; exact hPQ
        clear hall2 hbad hok hV m1 m2 hPQ ht hzt hs
        go_wp2
        try rw [hw8]
        refine (wpIn_wide (n := 0)).1 ?_
        refine Many.region_many (Cb w8) mixed_ok (by kernel_rfl) (fun _ _ _ _ h => h) (fun s _ => Cb.start w8 s) ?_
        refine Many.lex_want (by rfl) (rdb (v := .agg #[.int .i64 n, .int .i64 d]) (fun w hb => by (obtain ⟨c0, c1, f0, f1⟩ := o7.after hb; go_simp; try rfl))) ?_
        simp only [Act.put, List.setIfInBounds_toArray, List.set_cons_succ, List.set_cons_zero, Nat.reduceAdd]
        refine Many.lex_want (by rfl) (clb q (fun w hb => by (go_simp; try rfl))) ?_
        simp only [Act.put, List.setIfInBounds_toArray, List.set_cons_succ, List.set_cons_zero, Nat.reduceAdd]
        refine Many.lex_want (by rfl) (rdb (v := .bool false) (fun w hb => by (skip; go_simp; try rfl))) ?_
        simp only [Act.put, List.setIfInBounds_toArray, List.set_cons_succ, List.set_cons_zero, Nat.reduceAdd]
        refine Many.lex_want (by rfl) (rdb (v := .bool false) (fun w hb => by (skip; go_simp; try rfl))) ?_
        simp only [Act.put, List.setIfInBounds_toArray, List.set_cons_succ, List.set_cons_zero, Nat.reduceAdd]
        refine Many.lex_want (by rfl) (rdb (fun w hb => by (go_simp; try rfl))) ?_
        simp only [Act.put, List.setIfInBounds_toArray, List.set_cons_succ, List.set_cons_zero, Nat.reduceAdd]
        refine Many.lex_want (by rfl) (rdb (v := .int .i64 d) (fun w hb => by (obtain ⟨c0, c1, f0, f1⟩ := o7.after hb; go_simp; try rfl))) ?_
        simp only [Act.put, List.setIfInBounds_toArray, List.set_cons_succ, List.set_cons_zero, Nat.reduceAdd]
        refine Many.lex_want (by rfl) (rdb (v := .bool false) (fun w hb => by (have hx := k3; go_simp; try rfl))) ?_
        simp only [Act.put, List.setIfInBounds_toArray, List.set_cons_succ, List.set_cons_zero, Nat.reduceAdd]
        refine Many.lex_want (by rfl) (rdb (v := .bool false) (fun w hb => by (skip; go_simp; try rfl))) ?_
        simp only [Act.put, List.setIfInBounds_toArray, List.set_cons_succ, List.set_cons_zero, Nat.reduceAdd]
        refine Many.lex_want (by rfl) (rdb (v := .bool false) (fun w hb => by (skip; go_simp; try rfl))) ?_
        simp only [Act.put, List.setIfInBounds_toArray, List.set_cons_succ, List.set_cons_zero, Nat.reduceAdd]
        refine Many.lex_want (by rfl) (rdb (fun w hb => by (go_simp; try rfl))) ?_
        simp only [Act.put, List.setIfInBounds_toArray, List.set_cons_succ, List.set_cons_zero, Nat.reduceAdd]
        refine Many.lex_want (by rfl) (rdb (v := .int .i64 n) (fun w hb => by (obtain ⟨c0, c1, f0, f1⟩ := o7.after hb; go_simp; try rfl))) ?_
        simp only [Act.put, List.setIfInBounds_toArray, List.set_cons_succ, List.set_cons_zero, Nat.reduceAdd]
        refine Many.lex_want (by rfl) (rdb (v := .bool false) (fun w hb => by (have hx := k1; go_simp; try rfl))) ?_
        simp only [Act.put, List.setIfInBounds_toArray, List.set_cons_succ, List.set_cons_zero, Nat.reduceAdd]
        refine Many.lex_want (by rfl) (rdb (v := .bool false) (fun w hb => by (skip; go_simp; try rfl))) ?_
        simp only [Act.put, List.setIfInBounds_toArray, List.set_cons_succ, List.set_cons_zero, Nat.reduceAdd]
        refine Many.lex_want (by rfl) (rdb (v := .bool false) (fun w hb => by (skip; go_simp; try rfl))) ?_
        simp only [Act.put, List.setIfInBounds_toArray, List.set_cons_succ, List.set_cons_zero, Nat.reduceAdd]
        refine Many.lex_want (by rfl) (rdb (fun w hb => by (go_simp; try rfl))) ?_
        simp only [Act.put, List.setIfInBounds_toArray, List.set_cons_succ, List.set_cons_zero, Nat.reduceAdd]
        refine Many.lex_want (by rfl) (rdb (v := .int .i64 n) (fun w hb => by (obtain ⟨c0, c1, f0, f1⟩ := o7.after hb; go_simp; try rfl))) ?_
        simp only [Act.put, List.setIfInBounds_toArray, List.set_cons_succ, List.set_cons_zero, Nat.reduceAdd]
        refine Many.lex_want (by rfl) (rdb (fun w hb => by (go_simp; try rfl))) ?_
        simp only [Act.put, List.setIfInBounds_toArray, List.set_cons_succ, List.set_cons_zero, Nat.reduceAdd]
        refine Many.lex_want (by rfl) (rdb (fun w hb => by (go_simp; try rfl))) ?_
        simp only [Act.put, List.setIfInBounds_toArray, List.set_cons_succ, List.set_cons_zero, Nat.reduceAdd]
        refine Many.lex_want (by rfl) (rdb (fun w hb => by (go_simp; try rfl))) ?_
        simp only [Act.put, List.setIfInBounds_toArray, List.set_cons_succ, List.set_cons_zero, Nat.reduceAdd]
        refine Many.lex_want (by rfl) (rdb (v := .slice (some ⟨g, o, none⟩) zs.length cz) (fun w hb => by (have h0 := (hg8.after hb).c0; go_simp; try rfl))) ?_
        simp only [Act.put, List.setIfInBounds_toArray, List.set_cons_succ, List.set_cons_zero, Nat.reduceAdd]
        refine Many.lex_want (by rfl) (rdb (fun w hb => by (go_simp; try rfl))) ?_
        simp only [Act.put, List.setIfInBounds_toArray, List.set_cons_succ, List.set_cons_zero, Nat.reduceAdd]
        refine Many.lex_want (by rfl) (rdb (v := .pointer (some ⟨g, o + k, none⟩)) (fun w hb => by (have hk := hltz; go_simp; try rfl))) ?_
        simp only [Act.put, List.setIfInBounds_toArray, List.set_cons_succ, List.set_cons_zero, Nat.reduceAdd]
        refine Many.lex_want (by rfl) (rdb (v := .int .i64 c) (fun w hb => by (have hc := cell_below hcc hb; go_simp; try rfl))) ?_
        simp only [Act.put, List.setIfInBounds_toArray, List.set_cons_succ, List.set_cons_zero, Nat.reduceAdd]
        refine Many.lex_want (by rfl) (rdb (fun w hb => by (go_simp; try rfl))) ?_
        simp only [Act.put, List.setIfInBounds_toArray, List.set_cons_succ, List.set_cons_zero, Nat.reduceAdd]
        refine Many.lex_want (by rfl) (rdb (v := .int .i64 d) (fun w hb => by (obtain ⟨c0, c1, f0, f1⟩ := o7.after hb; go_simp; try rfl))) ?_
        simp only [Act.put, List.setIfInBounds_toArray, List.set_cons_succ, List.set_cons_zero, Nat.reduceAdd]
        refine Many.lex_want (by rfl) (rdb (v := .int .i64 P) (fun w hb => by (have hP := hPP; go_simp; try rfl))) ?_
        simp only [Act.put, List.setIfInBounds_toArray, List.set_cons_succ, List.set_cons_zero, Nat.reduceAdd]
        refine Many.lex_want (by rfl) (rdb (v := .bool false) (fun w hb => by (have hx := k2; go_simp; try rfl))) ?_
        simp only [Act.put, List.setIfInBounds_toArray, List.set_cons_succ, List.set_cons_zero, Nat.reduceAdd]
        refine Many.lex_want (by rfl) (rdb (v := .bool false) (fun w hb => by (skip; go_simp; try rfl))) ?_
        simp only [Act.put, List.setIfInBounds_toArray, List.set_cons_succ, List.set_cons_zero, Nat.reduceAdd]
        refine Many.lex_nil fun s W1 hs hC => ?_
        have hC : Below w8.heap.size w8 W1 := hC
        have hbw9 := hbw8.trans (hC.mono hbw8.size)
        have b49 := b48.after hC
        have hGl := b49.lt
        obtain ⟨c40, c41, f40, f41⟩ := Own2.of b49
        obtain ⟨c70, c71, f70, f71⟩ := o7.after hC
        go_wp2_with (go_at_call 85; (with_reducible refine (qs _).mono ?_); rintro e w10 ⟨rfl, hb10⟩
                     have b4' := b49.after hb10
                     have hbw10 : Below w.heap.size w w10 := hbw9.trans (hb10.mono hbw9.size)
                     obtain ⟨c80, c81, f80, f81⟩ := Own2.of b4'
                     clear hb10)
        refine ⟨⟨k + 1, by omega, by go_num, (hbw10.setCell (p := ⟨G, 0, none⟩) hg4 _).setCell (p := ⟨G, 1, none⟩) hg4 _, ?_, hb⟩, by simp [intOf]; omega⟩
        rw [hS1.out, hy0.out, hy1.out]
        exact (b4'.set 0 _).set 1 _
    · obtain rfl : k = l.length := by omega
      rw [List.take_length] at b4
      have hDG : Keep ((redN (sumT l) MM == E && redD (sumT l) MM == 1) = D) := ⟨by
        rw [← hD.out]
        unfold awB
        rw [Bool.eq_iff_iff, decide_eq_true_eq]
        simp only [Bool.and_eq_true, beq_iff_eq]
        exact ⟨fun h => ⟨hlz2, hall.out, h.1, h.2⟩, fun h => h.2.2⟩⟩
      generalize redN (sumT l) MM = y0 at b4 hDG
      generalize redD (sumT l) MM = y1 at b4 hDG
      have b5 := b4
      clear hall hcell hzell hD hw hzb e0
      go_wp2
      refine (wpIn_wide (n := 0)).1 ?_
      refine Many.region_many (Cb wr) mixed_ok (by kernel_rfl) (fun _ _ _ _ h => h) (fun s _ => Cb.start wr s) ?_
      refine Many.lex_want (by rfl) (rdb (v := .agg #[.int .i64 y0, .int .i64 y1]) (fun w hb => by (obtain ⟨c0, c1, f0, f1⟩ := (Own2.of b5).after hb; go_simp; try rfl))) ?_
      simp only [Act.put, List.setIfInBounds_toArray, List.set_cons_succ, List.set_cons_zero, Nat.reduceAdd]
      refine Many.lex_want (by rfl) (rdb (fun w hb => by (go_simp; try rfl))) ?_
      simp only [Act.put, List.setIfInBounds_toArray, List.set_cons_succ, List.set_cons_zero, Nat.reduceAdd]
      refine Many.lex_want (by rfl) (rdb (fun w hb => by (go_simp; try rfl))) ?_
      simp only [Act.put, List.setIfInBounds_toArray, List.set_cons_succ, List.set_cons_zero, Nat.reduceAdd]
      refine Many.lex_want (by rfl) (rdb (fun w hb => by (go_simp; try rfl))) ?_
      simp only [Act.put, List.setIfInBounds_toArray, List.set_cons_succ, List.set_cons_zero, Nat.reduceAdd]
      refine Many.lex_want (by rfl) (rdb (v := .int .i64 E) (fun w hb => by (have h1 := (hgr.after hb).c1; go_simp; try rfl))) ?_
      simp only [Act.put, List.setIfInBounds_toArray, List.set_cons_succ, List.set_cons_zero, Nat.reduceAdd]
      refine Many.lex_want (by rfl) (clb q84e (fun w hb => by (go_simp; try rfl))) ?_
      simp only [Act.put, List.setIfInBounds_toArray, List.set_cons_succ, List.set_cons_zero, Nat.reduceAdd]
      refine Many.lex_want (by rfl) (rdb (v := .bool (y0 == E && y1 == 1)) (fun w hb => by (have e := eq37 y0 y1 E 1; go_simp; try rfl))) ?_
      simp only [Act.put, List.setIfInBounds_toArray, List.set_cons_succ, List.set_cons_zero, Nat.reduceAdd]
      refine Many.lex_want (by rfl) (rdb (v := .bool (y0 == E && y1 == 1)) (fun w hb => by (skip; go_simp; try rfl))) ?_
      simp only [Act.put, List.setIfInBounds_toArray, List.set_cons_succ, List.set_cons_zero, Nat.reduceAdd]
      refine Many.lex_nil fun s W1 hs hC => ?_
      have hC : Below wr.heap.size wr W1 := hC
      have hbw9 := hbw.trans (hC.mono hbz)
      go_wp2
      go_ret
      exact ⟨by rw [← hDG.out]; rfl, hbw9⟩
end Go.Proofs.Ytbocmbhinjkjlaa
