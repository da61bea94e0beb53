/- What remains of an estate behind a claim, in the reference. -/
import Derived.Test.YtbocmbhinjkjlaaRefGar0
set_option linter.unusedSimpArgs false
set_option linter.unusedVariables false
namespace Go.Proofs.Ytbocmbhinjkjlaa
open Go Go.Proofs Go.RowKit Go.Seq
set_option maxHeartbeats 2000000 in
set_option maxRecDepth 100000 in
theorem rest_any {n d c : Int} (h : Bd n d) (hc : 0 ≤ c ∧ c ≤ 1000000) (w : World) :
    Calls Try.prog 69 #[redV n d, .int .i64 c] w fun e w' => e = .returned (restV n d c) ∧ Below w.heap.size w w' := by
  have hcd : Bd c 1 := ⟨by omega, by omega, by omega, by omega⟩
  have q29 := fun w => refWhole_any c w
  have q290 := fun w => refWhole_any 0 w
  have q53 := fun w => refLess_red hcd h w
  have q58 := fun w => refSub_red h hcd w
  simp only [redV_one, Int.mul_one] at q53 q58
  have hlt : c * d < n ↔ 0 < n - c * d := by omega
  unfold restV over
  obtain ⟨D, hD⟩ : ∃ D, Keep (decide (c * d < n) = D) := ⟨_, ⟨rfl⟩⟩
  rw [hD.out] at q53
  have hz := redV_zero h.q1
  have start : ∀ (x0 x1 : Int), Keep (∃ wb, (w.alloc (.cells #[.int .i64 x0, .int .i64 x1] 37)).alloc (.cells #[.int .i64 0, .int .i64 0] 37) = wb ∧ Own2 wb w.heap.size (.int .i64 x0) (.int .i64 x1) ∧ BlkAt wb (w.heap.size + 1) #[.int .i64 0, .int .i64 0] 37 ∧ Below w.heap.size w wb) := fun x0 x1 =>
    ⟨_, rfl, (Own2.new _ _ _ _).after ((Below.refl _ _).alloc (Nat.le_refl _) _), BlkAt.at (by simp) _ _, ((Below.refl _ w).alloc (Nat.le_refl _) _).alloc (by simp) _⟩
  cases D with
  | true =>
    have k := of_decide_eq_true hD.out
    rw [if_pos (hlt.1 k)]
    clear hlt k hD hz
    unfold redV fracV at *
    generalize redN n d = x0 at *
    generalize redD n d = x1 at *
    generalize redN (n - c * d) d = y0 at *
    generalize redD (n - c * d) d = y1 at *
    obtain ⟨wb, hwb, o2, b4, hbw⟩ := (start x0 x1).out
    go_enter Try.func69, Try.ntmps69
    go_wp2
    try rw [hwb]
    refine (wpIn_wide (n := 0)).1 ?_
    refine Many.region_many (Cb wb) mixed_ok (by kernel_rfl) (fun _ _ _ _ h => h) (fun s _ => Cb.start wb s) ?_
    refine Many.lex_want (by rfl) (rdb (fun w hb => by (go_simp; try rfl))) ?_
    simp only [Act.put, List.setIfInBounds_toArray, List.set_cons_succ, List.set_cons_zero, Nat.reduceAdd]
    refine Many.lex_want (by rfl) (clb q29 (fun w hb => by (go_simp; try rfl))) ?_
    simp only [Act.put, List.setIfInBounds_toArray, List.set_cons_succ, List.set_cons_zero, Nat.reduceAdd]
    refine Many.lex_want (by rfl) (rdb (v := .agg #[.int .i64 x0, .int .i64 x1]) (fun w hb => by (obtain ⟨c0, c1, f0, f1⟩ := o2.after hb; go_simp; try rfl))) ?_
    simp only [Act.put, List.setIfInBounds_toArray, List.set_cons_succ, List.set_cons_zero, Nat.reduceAdd]
    refine Many.lex_want (by rfl) (clb q53 (fun w hb => by (go_simp; try rfl))) ?_
    simp only [Act.put, List.setIfInBounds_toArray, List.set_cons_succ, List.set_cons_zero, Nat.reduceAdd]
    refine Many.lex_nil fun s W1 hs hC => ?_
    go_wp2
    have hC : Below wb.heap.size wb W1 := hC
    have o2' := o2.after hC
    have b4 := b4.after hC
    have hbw' := hbw.trans (Below.mono hC hbw.size)
    refine (wpIn_wide (n := 0)).1 ?_
    refine Many.region_many (C1 W1 (w.heap.size + 1) 4 #[.int .i64 0, .int .i64 0] #[.int .i64 y0, .int .i64 y1] 37) mixed_ok (by kernel_rfl) C1.ext (C1.start (b4) (by decide)) ?_
    refine Many.lex_want (by rfl) (rd1 (v := .agg #[.int .i64 x0, .int .i64 x1]) (by rfl) (fun w hk => by (obtain ⟨c0, c1, f0, f1⟩ := hk.own (by omega) o2'; go_simp; try rfl))) ?_
    simp only [Act.put, List.setIfInBounds_toArray, List.set_cons_succ, List.set_cons_zero, Nat.reduceAdd]
    refine Many.lex_want (by rfl) (rd1 (by rfl) (fun w hk => by (go_simp; try rfl))) ?_
    simp only [Act.put, List.setIfInBounds_toArray, List.set_cons_succ, List.set_cons_zero, Nat.reduceAdd]
    refine Many.lex_want (by rfl) (cl1 (by rfl) q29 (fun w hk => by (go_simp; try rfl))) ?_
    simp only [Act.put, List.setIfInBounds_toArray, List.set_cons_succ, List.set_cons_zero, Nat.reduceAdd]
    refine Many.lex_want (by rfl) (cl1 (by rfl) q58 (fun w hk => by (go_simp; try rfl))) ?_
    simp only [Act.put, List.setIfInBounds_toArray, List.set_cons_succ, List.set_cons_zero, Nat.reduceAdd]
    refine Many.lex_want (by rfl) (st1 (by rfl) (fun w hk ho => by (obtain ⟨c0, c1, f0, f1⟩ := ho; go_simp; try rfl))) ?_
    simp only [Act.put, List.setIfInBounds_toArray, List.set_cons_succ, List.set_cons_zero, Nat.reduceAdd]
    refine Many.lex_nil fun s W' hs hC => ?_
    obtain ⟨hV, hB⟩ := hC; rw [if_pos (hs 4 (by decide))] at hB
    obtain ⟨c0, c1, f0, f1⟩ := Own2.of hB
    go_wp2
    refine bodyPost_ret (v := .agg #[.int .i64 y0, .int .i64 y1]) (by simp [results, Try.results69, go_sem]; go_simp) rfl ?_
    exact ⟨rfl, hbw'.trans (hV.below (by omega) hbw'.size)⟩
  | false =>
    have k := of_decide_eq_false hD.out
    rw [if_neg (fun h => k (hlt.2 h))]
    rw [hz]
    clear hlt k hD hz q58
    unfold redV fracV at *
    generalize redN n d = x0 at *
    generalize redD n d = x1 at *
    obtain ⟨wb, hwb, o2, b4, hbw⟩ := (start x0 x1).out
    go_enter Try.func69, Try.ntmps69
    go_wp2
    try rw [hwb]
    refine (wpIn_wide (n := 0)).1 ?_
    refine Many.region_many (Cb wb) mixed_ok (by kernel_rfl) (fun _ _ _ _ h => h) (fun s _ => Cb.start wb s) ?_
    refine Many.lex_want (by rfl) (rdb (fun w hb => by (go_simp; try rfl))) ?_
    simp only [Act.put, List.setIfInBounds_toArray, List.set_cons_succ, List.set_cons_zero, Nat.reduceAdd]
    refine Many.lex_want (by rfl) (clb q29 (fun w hb => by (go_simp; try rfl))) ?_
    simp only [Act.put, List.setIfInBounds_toArray, List.set_cons_succ, List.set_cons_zero, Nat.reduceAdd]
    refine Many.lex_want (by rfl) (rdb (v := .agg #[.int .i64 x0, .int .i64 x1]) (fun w hb => by (obtain ⟨c0, c1, f0, f1⟩ := o2.after hb; go_simp; try rfl))) ?_
    simp only [Act.put, List.setIfInBounds_toArray, List.set_cons_succ, List.set_cons_zero, Nat.reduceAdd]
    refine Many.lex_want (by rfl) (clb q53 (fun w hb => by (go_simp; try rfl))) ?_
    simp only [Act.put, List.setIfInBounds_toArray, List.set_cons_succ, List.set_cons_zero, Nat.reduceAdd]
    refine Many.lex_nil fun s W1 hs hC => ?_
    have hC : Below wb.heap.size wb W1 := hC
    have b4 := b4.after hC
    have hbw' := hbw.trans (Below.mono hC hbw.size)
    go_wp2_with (go_at_call 29; refine (q290 _).mono ?_; rintro e w5 ⟨rfl, hb5⟩
                 have o5 := Own2.of (b4.after hb5)
                 have hbw5 := hbw'.trans (hb5.mono hbw'.size)
                 obtain ⟨c0, c1, f0, f1⟩ := o5
                 clear hb5)
    refine bodyPost_ret (v := .agg #[.int .i64 0, .int .i64 1]) (by simp [results, Try.results69, go_sem]; go_simp) rfl ?_
    exact ⟨rfl, (hbw5.setCell (p := ⟨w.heap.size + 1, 0, none⟩) (by simp) _).setCell (p := ⟨w.heap.size + 1, 1, none⟩) (by simp) _⟩
end Go.Proofs.Ytbocmbhinjkjlaa
