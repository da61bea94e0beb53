/-
  SpreadSums: the walk. The three fractions are made in a drawing region each; then seven sums.
-/
import Derived.Test.YtifbiamfandjnabSumMath
import Derived.Test.YtifbiamfandjnabTame
import Derived.Test.YtifbiamfandjnabAwake
import Derived.Test.YtifbiamfandjnabOpenArgs
import Derived.Test.YtifbiamfandjnabSeqE
import Derived.WalkKit
set_option linter.unusedSimpArgs false
set_option linter.unusedVariables false
namespace Go.Proofs.Ytifbiamfandjnab
open Go Go.Proofs Go.RowKit Go.Seq Sums
theorem eqT (a b : Int) (w : World) : (Op.equalIn 10000 35 (.agg #[.int .i64 a, .int .i64 b]) (.agg #[.int .i64 a, .int .i64 b])).run Try.prog w = .ok true w := by
  rw [eq25]; simp
theorem mod_val (x : Int) {m : Nat} (h1 : 1 ≤ m) (h2 : m ≤ 1000000000) : ∃ r : Nat, r < m ∧ ∀ w : World, Calls Try.prog 7 #[.int .i64 x, .int .i64 m] w fun e w' => e = .returned (.int .i64 r) ∧ w' = w := by
  obtain ⟨q, hq⟩ : ∃ q : Nat, IntKind.u64.wrap x = (q : Int) ∧ q < 18446744073709551616 := by
    have : IntKind.u64.wrap x = x % 18446744073709551616 := rfl
    exact ⟨(x % 18446744073709551616).toNat, by rw [this]; omega, by omega⟩
  obtain ⟨hq1, hq2⟩ := hq
  have e2 : IntKind.u64.wrap (m : Int) = (m : Int) := IntWalk.u64_in _ (by omega)
  have hm0 : ((m : Int) == 0) = false := by rw [beq_eq_false_iff_ne]; omega
  have hm : q % m < m := Nat.mod_lt _ (by omega)
  obtain ⟨r, hr⟩ : ∃ r, Keep (q % m = r) := ⟨_, ⟨rfl⟩⟩
  refine ⟨r, by rw [← hr.out]; exact hm, fun w => ?_⟩
  have hw : IntKind.u64.wrap ((q : Int).tmod (m : Int)) = (r : Int) := by
    rw [← hr.out, IntWalk.up_tmod rfl rfl, IntWalk.u64_in _ (by omega)]
  rw [hr.out] at hm
  have e4 : IntKind.i64.wrap (r : Int) = (r : Int) := IntWalk.i64_in _ (by omega)
  have e5 : wrap64 ((q : Int) % (m : Int)) = (r : Int) := by
    have : ((q : Int) % (m : Int)) = (r : Int) := by rw [← hr.out]; rfl
    rw [this]; unfold wrap64; omega
  have hmz : ¬ m = 0 := by omega
  clear hm h1 h2 hq2
  go_enter Try.func7, Try.ntmps7
  go_wp2
  go_ret
  exact ⟨by simp [e5], rfl⟩
abbrev six (a b c d e f : Int) : Array Value := #[.int .i64 a, .int .i64 b, .int .i64 c, .int .i64 d, .int .i64 e, .int .i64 f]
theorem ok_int {P : Program} {W : World} {r : Reach} {b0 : Nat} {t : TypeId} {c : Value} (ht : P.underlying t = some (.int .i64)) (h : Cell.okWide P W r b0 t c) : ∃ x, c = .int .i64 x :=
  Go.WideShapes.okWide_int ht (by unfold Value.okWide; rw [ht]; exact h)
theorem six_ext {cs : Array Value} {a b c d e f : Int} (hsz : cs.size = 6) (ha : cs[0]? = some (.int .i64 a)) (hb : cs[1]? = some (.int .i64 b)) (hc : cs[2]? = some (.int .i64 c)) (hd : cs[3]? = some (.int .i64 d))
    (he : cs[4]? = some (.int .i64 e)) (hf : cs[5]? = some (.int .i64 f)) : cs = six a b c d e f := by
  apply Array.ext_getElem?
  intro i
  by_cases hi : i < 6
  · rcases i with _ | _ | _ | _ | _ | _ | i
    · exact ha
    · exact hb
    · exact hc
    · exact hd
    · exact he
    · exact hf
    · omega
  · rw [Array.getElem?_eq_none (by omega), Array.getElem?_eq_none (by simp [six]; omega)]
theorem six_ints {P : Program} {W : World} {r : Reach} {b0 : Nat} {t k : TypeId} {n : Nat} {v : Value} (hu : P.underlying t = some (.array n k)) (hc : P.cellsOf t = 6) (ht : P.cellTypes P.depth t = some [3, 3, 3, 3, 3, 3])
    (h3 : P.underlying 3 = some (.int .i64)) (hval : Value.okWide P W r b0 t v) : ∃ a b c d e f : Int, v = .agg (six a b c d e f) := by
  unfold Value.okWide at hval
  rw [hu] at hval
  obtain ⟨cs, rfl, hsz, ts, hts, _, hall⟩ := hval
  rw [ht] at hts
  obtain rfl := Option.some.inj hts
  rw [hc] at hsz
  have hone : ∀ (i : Nat) (hi : i < 6), ∃ x : Int, cs[i]? = some (.int .i64 x) := fun i hi => by
    have hlt : i < cs.size := by rw [hsz]; exact hi
    obtain ⟨c, hci⟩ : ∃ c, cs[i]? = some c := ⟨cs[i]'hlt, Array.getElem?_eq_getElem hlt⟩
    obtain ⟨u, hu1, hu2⟩ := hall i c hci
    have hu3 : u = 3 := by
      have h6 : ∀ j, j < 6 → ([3, 3, 3, 3, 3, 3] : List TypeId)[j]? = some 3 := by decide
      have := h6 i hi
      rw [show i % ([3, 3, 3, 3, 3, 3] : List TypeId).length = i from Nat.mod_eq_of_lt hi] at hu1
      rw [hu1] at this
      exact Option.some.inj this
    rw [hu3] at hu2
    obtain ⟨x, hx⟩ := ok_int h3 hu2
    exact ⟨x, by rw [hci, hx]⟩
  obtain ⟨a, ha⟩ := hone 0 (by omega)
  obtain ⟨b, hb⟩ := hone 1 (by omega)
  obtain ⟨c, hc⟩ := hone 2 (by omega)
  obtain ⟨d, hd⟩ := hone 3 (by omega)
  obtain ⟨e, he⟩ := hone 4 (by omega)
  obtain ⟨f, hf⟩ := hone 5 (by omega)
  exact ⟨a, b, c, d, e, f, by rw [six_ext hsz ha hb hc hd he hf]⟩
set_option maxRecDepth 100000 in
/-- An argument of six ints. -/
theorem arg_six {W : World} {r : Reach} {b0 : Nat} {v : Value} (hval : Value.okWide Try.prog W r b0 33 v) : ∃ a b c d e f : Int, v = .agg (six a b c d e f) :=
  six_ints (n := 6) (k := 3) (by kernel_rfl) (by kernel_rfl) (by kernel_rfl) (by kernel_rfl) hval
/-- The world while a fraction is made: what is given stands; s 16: the fraction is stored. -/
structure CS (w : World) (B : Nat) (xs old new : Array Value) (s : Nat → Bool) (W : World) : Prop where
  h0 : W.heap[B]? = some (.cells xs 33 (0, 0))
  h1 : W.heap[B + 1]? = some (.cells (if s 16 = true then new else old) 36 (0, 0))
  sz : B + 1 < W.heap.size
  bl : Below B w W
section
variable {w W W' : World} {B : Nat} {xs old new : Array Value} {s : Nat → Bool}
theorem CS.read (h : CS w B xs old new s W) {k : Nat} (h1 : k ≠ 16) : CS w B xs old new (Many.upd s k) W := by
  have e1 : Many.upd s k 16 = s 16 := by simp [Many.upd, h1]
  exact ⟨h.h0, by rw [e1]; exact h.h1, h.sz, h.bl⟩
theorem CS.below (h : CS w B xs old new s W) (hb : Below W.heap.size W W') : CS w B xs old new s W' := by
  have h2 := h.sz
  exact ⟨(hb.block _ (by omega)).trans h.h0, (hb.block _ (by omega)).trans h.h1, Nat.lt_of_lt_of_le h.sz hb.size, h.bl.trans (hb.mono (by omega))⟩
theorem CS.store (h : CS w B xs old new s W) (hs : s 16 = false) {i j : Nat} {x y : Value} (hn : (old.setIfInBounds i x).setIfInBounds j y = new) :
    CS w B xs old new (Many.upd s 16) ((W.setCell ⟨B + 1, i, none⟩ x).setCell ⟨B + 1, j, none⟩ y) := by
  have e1 : Many.upd s 16 16 = true := by simp [Many.upd]
  have h1 := h.h1
  rw [hs] at h1
  refine ⟨put_other (put_other h.h0 (by omega) _) (by omega) _, ?_, by simpa [World.setCell] using h.sz, (h.bl.setCell (p := ⟨B + 1, i, none⟩) (by simp) _).setCell (p := ⟨B + 1, j, none⟩) (by simp) _⟩
  rw [e1, if_pos rfl, ← hn]
  exact heap_set (i := j) (heap_set (i := i) h1 x) y
end
/-- The world after k fractions. -/
structure At (w W : World) (B : Nat) (xs : Array Value) (k : Nat) (a b c d e f : Int) : Prop where
  h0 : W.heap[B]? = some (.cells xs 33 (0, 0))
  h1 : W.heap[B + 1]? = some (.cells (six a b c d e f) 36 (0, 0))
  sz : B + 1 < W.heap.size
  bl : Below B w W
  f0 : 1 ≤ k → Fr 500 500 a b
  f1 : 2 ≤ k → Fr 500 500 c d
  f2 : 3 ≤ k → Fr 500 500 e f
set_option maxHeartbeats 8000000 in
set_option maxRecDepth 100000 in
theorem sums_any (x0 x1 x2 x3 x4 x5 : Int) (w : World) :
    Calls Try.prog 4 #[.agg (six x0 x1 x2 x3 x4 x5)] w fun e w' => e = .returned (.bool true) ∧ Below w.heap.size w w' := by
  go_enter Try.func4, Try.ntmps4
  go_wp2
  obtain ⟨B, hB⟩ : ∃ B, Keep (w.heap.size = B) := ⟨_, ⟨rfl⟩⟩
  rw [hB.out]
  go_loopw [4] (fun i wr => ∃ k : Nat, k ≤ 3 ∧ i = .int .i64 k ∧ Keep (∃ a b c d e f, At w wr B (six x0 x1 x2 x3 x4 x5) k a b c d e f)) (fun i _ => 3 - (intOf i).toNat)
  case atStart =>
    refine ⟨0, by omega, rfl, ⟨0, 0, 0, 0, 0, 0, ?_, ?_, ?_, ?_, by omega, by omega, by omega⟩⟩
    · rw [← hB.out, Below.heap_alloc _ _ _ (by simp)]; exact World.alloc_heap_new w _
    · rw [← hB.out]
      have := World.alloc_heap_new (w.alloc (.cells (six x0 x1 x2 x3 x4 x5) 33)) (.cells (six 0 0 0 0 0 0) 36)
      simpa using this
    · rw [← hB.out]; simp
    · rw [← hB.out]; exact ((Below.refl _ w).alloc (Nat.le_refl _) _).alloc (by simp) _
  case round =>
    obtain ⟨k, hk, rfl, ha⟩ := hrel
    obtain ⟨a, b, c, d, e, f, hA⟩ := ha.out
    by_cases hlt : k < 3
    · obtain rfl | rfl | rfl : k = 0 ∨ k = 1 ∨ k = 2 := by omega
      · obtain ⟨r, hr, q7a⟩ := mod_val x0 (m := 1001) (by omega) (by omega)
        obtain ⟨q, hq, q7b⟩ := mod_val x1 (m := 500) (by omega) (by omega)
        obtain ⟨N, hN⟩ : ∃ N, Keep ((r : Int) - 500 = N) := ⟨_, ⟨rfl⟩⟩
        obtain ⟨D, hD⟩ : ∃ D, Keep (1 + (q : Int) = D) := ⟨_, ⟨rfl⟩⟩
        have hNb : -500 ≤ N ∧ N ≤ 500 := by rw [← hN.out]; omega
        have hDb : 1 ≤ D ∧ D ≤ 500 := by rw [← hD.out]; omega
        have eN : IntKind.i64.wrap ((r : Int) - 500) = N := by rw [hN.out]; exact IntWalk.i64_in _ (by omega)
        have eD : IntKind.i64.wrap (1 + (q : Int)) = D := by rw [hD.out]; exact IntWalk.i64_in _ (by omega)
        have hfr : Keep (Fr 500 500 (redN N D) (redD N D)) := ⟨fr_red hDb.1 hDb.2 hNb.1 hNb.2⟩
        have q12 := fun w => reduced_any N D (by omega) (by omega) (by omega) (by omega) w
        obtain ⟨X, hX⟩ : ∃ X, redN N D = X := ⟨_, rfl⟩
        obtain ⟨Y, hY⟩ : ∃ Y, redD N D = Y := ⟨_, rfl⟩
        rw [hX, hY] at q12 hfr
        clear hX hY
        unfold fracV at q12
        go_wp2
        have hmo : Try.prog.follows .mixedOrders = true := by kernel_rfl
        refine (wpIn_wide (n := 0)).1 ?_
        refine Many.region_many (CS w B (six x0 x1 x2 x3 x4 x5) (six a b c d e f) (six X Y c d e f)) hmo (by kernel_rfl) (fun s s' W' h hc => by rw [← show s = s' from funext h]; exact hc) (fun s hs => ?_) ?_
        · refine ⟨hA.h0, ?_, hA.sz, ⟨hA.bl.os, hA.bl.tape, hA.bl.output, hA.bl.size, hA.bl.block⟩⟩
          rw [hs 16 (by decide)]; exact hA.h1
        have rd : ∀ {k : Nat} {o : Oper} {a' : Act} {v : Value}, k ≠ 16 → (∀ W, (∃ s, CS w B (six x0 x1 x2 x3 x4 x5) (six a b c d e f) (six X Y c d e f) s W) → (execOp a'.eval o).run Try.prog W = .ok (.value v) W) → Many.Tr Try.prog (CS w B (six x0 x1 x2 x3 x4 x5) (six a b c d e f) (six X Y c d e f)) k o a' v :=
          fun h1 h => Many.tr_read (fun W => ∃ s, CS w B _ _ _ s W) (fun s W hC => ⟨s, hC⟩) (fun s W hC => hC.read h1) h
        refine Many.lex_want (by rfl) (rd (by decide) (fun W hC => by (go_simp; try rfl))) ?_
        simp only [Act.put, List.setIfInBounds_toArray, List.set_cons_succ, List.set_cons_zero, Nat.reduceAdd]
        refine Many.lex_want (by rfl) (rd (by decide) (fun W hC => by (go_simp; try rfl))) ?_
        simp only [Act.put, List.setIfInBounds_toArray, List.set_cons_succ, List.set_cons_zero, Nat.reduceAdd]
        refine Many.lex_want (by rfl) (rd (v := .int .i64 0) (by decide) (fun W hC => by (go_simp; try rfl))) ?_
        simp only [Act.put, List.setIfInBounds_toArray, List.set_cons_succ, List.set_cons_zero, Nat.reduceAdd]
        refine Many.lex_want (by rfl) (rd (v := .pointer (some ⟨B, 0, none⟩)) (by decide) (fun W hC => by (go_simp; try rfl))) ?_
        simp only [Act.put, List.setIfInBounds_toArray, List.set_cons_succ, List.set_cons_zero, Nat.reduceAdd]
        refine Many.lex_want (by rfl) (rd (v := .int .i64 x0) (by decide) (fun W hC => by (obtain ⟨s, hC⟩ := hC; have hc : W.cell? ⟨B, 0, none⟩ = some (.int .i64 x0) := (by simp [World.cell?, hC.h0]); go_simp; try rfl))) ?_
        simp only [Act.put, List.setIfInBounds_toArray, List.set_cons_succ, List.set_cons_zero, Nat.reduceAdd]
        refine Many.lex_want (by rfl) (Many.tr_call (f := 7) (args := #[.int .i64 x0, .int .i64 1001]) (v := .int .i64 r) (fun _ => True) (fun _ _ _ => trivial) (fun s W hC => (q7a W).mono fun e W' ⟨he, hb⟩ => ⟨he, by rw [hb]; exact hC.read (by decide)⟩) (fun W _ => by (go_simp; try rfl))) ?_
        simp only [Act.put, List.setIfInBounds_toArray, List.set_cons_succ, List.set_cons_zero, Nat.reduceAdd]
        refine Many.lex_want (by rfl) (rd (v := .int .i64 N) (by decide) (fun W hC => by (go_simp; try exact eN))) ?_
        simp only [Act.put, List.setIfInBounds_toArray, List.set_cons_succ, List.set_cons_zero, Nat.reduceAdd]
        refine Many.lex_want (by rfl) (rd (by decide) (fun W hC => by (go_simp; try rfl))) ?_
        simp only [Act.put, List.setIfInBounds_toArray, List.set_cons_succ, List.set_cons_zero, Nat.reduceAdd]
        refine Many.lex_want (by rfl) (rd (v := .int .i64 0) (by decide) (fun W hC => by (go_simp; try rfl))) ?_
        simp only [Act.put, List.setIfInBounds_toArray, List.set_cons_succ, List.set_cons_zero, Nat.reduceAdd]
        refine Many.lex_want (by rfl) (rd (v := .int .i64 1) (by decide) (fun W hC => by (go_simp; try rfl))) ?_
        simp only [Act.put, List.setIfInBounds_toArray, List.set_cons_succ, List.set_cons_zero, Nat.reduceAdd]
        refine Many.lex_want (by rfl) (rd (v := .pointer (some ⟨B, 1, none⟩)) (by decide) (fun W hC => by (go_simp; try rfl))) ?_
        simp only [Act.put, List.setIfInBounds_toArray, List.set_cons_succ, List.set_cons_zero, Nat.reduceAdd]
        refine Many.lex_want (by rfl) (rd (v := .int .i64 x1) (by decide) (fun W hC => by (obtain ⟨s, hC⟩ := hC; have hc : W.cell? ⟨B, 1, none⟩ = some (.int .i64 x1) := (by simp [World.cell?, hC.h0]); go_simp; try rfl))) ?_
        simp only [Act.put, List.setIfInBounds_toArray, List.set_cons_succ, List.set_cons_zero, Nat.reduceAdd]
        refine Many.lex_want (by rfl) (Many.tr_call (f := 7) (args := #[.int .i64 x1, .int .i64 500]) (v := .int .i64 q) (fun _ => True) (fun _ _ _ => trivial) (fun s W hC => (q7b W).mono fun e W' ⟨he, hb⟩ => ⟨he, by rw [hb]; exact hC.read (by decide)⟩) (fun W _ => by (go_simp; try rfl))) ?_
        simp only [Act.put, List.setIfInBounds_toArray, List.set_cons_succ, List.set_cons_zero, Nat.reduceAdd]
        refine Many.lex_want (by rfl) (rd (v := .int .i64 D) (by decide) (fun W hC => by (go_simp; try exact eD))) ?_
        simp only [Act.put, List.setIfInBounds_toArray, List.set_cons_succ, List.set_cons_zero, Nat.reduceAdd]
        refine Many.lex_want (by rfl) (Many.tr_call (f := 12) (args := #[.int .i64 N, .int .i64 D]) (v := .agg #[.int .i64 X, .int .i64 Y]) (fun _ => True) (fun _ _ _ => trivial) (fun s W hC => (q12 W).mono fun e W' ⟨he, hb⟩ => ⟨he, (hC.below hb).read (by decide)⟩) (fun W _ => by (go_simp; try rfl))) ?_
        simp only [Act.put, List.setIfInBounds_toArray, List.set_cons_succ, List.set_cons_zero, Nat.reduceAdd]
        refine Many.lex_want (by rfl) (rd (v := .pointer (some ⟨B + 1, 0, none⟩)) (by decide) (fun W hC => by (go_simp; try rfl))) ?_
        simp only [Act.put, List.setIfInBounds_toArray, List.set_cons_succ, List.set_cons_zero, Nat.reduceAdd]
        refine Many.lex_want (by rfl) (Many.tr_step (v := undef) (fun s W h16 hC => ?_)) ?_
        · have h1 := hC.h1
          rw [h16] at h1
          have u0 : W.cell? ⟨B + 1, 0, none⟩ = some (.int .i64 a) := by simp [World.cell?, h1]
          have u1 : W.cell? ⟨B + 1, 1, none⟩ = some (.int .i64 b) := by simp [World.cell?, h1]
          have v0 : W.frozen? ⟨B + 1, 0, none⟩ = false := by simp [World.frozen?, h1]
          have v1 : W.frozen? ⟨B + 1, 1, none⟩ = false := by simp [World.frozen?, h1]
          have hst := hC.store h16 (i := 0) (j := 1) (x := .int .i64 X) (y := .int .i64 Y) rfl
          clear hA ha h1
          go_simp
          exact ⟨rfl, hst⟩
        simp only [Act.put, List.setIfInBounds_toArray, List.set_cons_succ, List.set_cons_zero, Nat.reduceAdd]
        refine Many.lex_nil fun s W' hs hC => ?_
        have h16 := hs 16 (by decide)
        have hnew : Keep (∃ a b c d e f, At w W' B (six x0 x1 x2 x3 x4 x5) (0 + 1) a b c d e f) := ⟨X, Y, c, d, e, f, hC.h0, by have := hC.h1; rw [h16] at this; exact this, hC.sz, hC.bl, fun _ => hfr.out, fun h => absurd h (by omega), fun h => absurd h (by omega)⟩
        clear hA ha hC hs rd q7a q7b q12
        go_wp2
        exact ⟨⟨0 + 1, by omega, by go_num, hnew⟩, by simp [intOf]⟩
      · obtain ⟨r, hr, q7a⟩ := mod_val x2 (m := 1001) (by omega) (by omega)
        obtain ⟨q, hq, q7b⟩ := mod_val x3 (m := 500) (by omega) (by omega)
        obtain ⟨N, hN⟩ : ∃ N, Keep ((r : Int) - 500 = N) := ⟨_, ⟨rfl⟩⟩
        obtain ⟨D, hD⟩ : ∃ D, Keep (1 + (q : Int) = D) := ⟨_, ⟨rfl⟩⟩
        have hNb : -500 ≤ N ∧ N ≤ 500 := by rw [← hN.out]; omega
        have hDb : 1 ≤ D ∧ D ≤ 500 := by rw [← hD.out]; omega
        have eN : IntKind.i64.wrap ((r : Int) - 500) = N := by rw [hN.out]; exact IntWalk.i64_in _ (by omega)
        have eD : IntKind.i64.wrap (1 + (q : Int)) = D := by rw [hD.out]; exact IntWalk.i64_in _ (by omega)
        have hfr : Keep (Fr 500 500 (redN N D) (redD N D)) := ⟨fr_red hDb.1 hDb.2 hNb.1 hNb.2⟩
        have q12 := fun w => reduced_any N D (by omega) (by omega) (by omega) (by omega) w
        obtain ⟨X, hX⟩ : ∃ X, redN N D = X := ⟨_, rfl⟩
        obtain ⟨Y, hY⟩ : ∃ Y, redD N D = Y := ⟨_, rfl⟩
        rw [hX, hY] at q12 hfr
        clear hX hY
        unfold fracV at q12
        go_wp2
        have hmo : Try.prog.follows .mixedOrders = true := by kernel_rfl
        refine (wpIn_wide (n := 0)).1 ?_
        refine Many.region_many (CS w B (six x0 x1 x2 x3 x4 x5) (six a b c d e f) (six a b X Y e f)) hmo (by kernel_rfl) (fun s s' W' h hc => by rw [← show s = s' from funext h]; exact hc) (fun s hs => ?_) ?_
        · refine ⟨hA.h0, ?_, hA.sz, ⟨hA.bl.os, hA.bl.tape, hA.bl.output, hA.bl.size, hA.bl.block⟩⟩
          rw [hs 16 (by decide)]; exact hA.h1
        have rd : ∀ {k : Nat} {o : Oper} {a' : Act} {v : Value}, k ≠ 16 → (∀ W, (∃ s, CS w B (six x0 x1 x2 x3 x4 x5) (six a b c d e f) (six a b X Y e f) s W) → (execOp a'.eval o).run Try.prog W = .ok (.value v) W) → Many.Tr Try.prog (CS w B (six x0 x1 x2 x3 x4 x5) (six a b c d e f) (six a b X Y e f)) k o a' v :=
          fun h1 h => Many.tr_read (fun W => ∃ s, CS w B _ _ _ s W) (fun s W hC => ⟨s, hC⟩) (fun s W hC => hC.read h1) h
        refine Many.lex_want (by rfl) (rd (by decide) (fun W hC => by (go_simp; try rfl))) ?_
        simp only [Act.put, List.setIfInBounds_toArray, List.set_cons_succ, List.set_cons_zero, Nat.reduceAdd]
        refine Many.lex_want (by rfl) (rd (by decide) (fun W hC => by (go_simp; try rfl))) ?_
        simp only [Act.put, List.setIfInBounds_toArray, List.set_cons_succ, List.set_cons_zero, Nat.reduceAdd]
        refine Many.lex_want (by rfl) (rd (v := .int .i64 2) (by decide) (fun W hC => by (go_simp; try rfl))) ?_
        simp only [Act.put, List.setIfInBounds_toArray, List.set_cons_succ, List.set_cons_zero, Nat.reduceAdd]
        refine Many.lex_want (by rfl) (rd (v := .pointer (some ⟨B, 2, none⟩)) (by decide) (fun W hC => by (go_simp; try rfl))) ?_
        simp only [Act.put, List.setIfInBounds_toArray, List.set_cons_succ, List.set_cons_zero, Nat.reduceAdd]
        refine Many.lex_want (by rfl) (rd (v := .int .i64 x2) (by decide) (fun W hC => by (obtain ⟨s, hC⟩ := hC; have hc : W.cell? ⟨B, 2, none⟩ = some (.int .i64 x2) := (by simp [World.cell?, hC.h0]); go_simp; try rfl))) ?_
        simp only [Act.put, List.setIfInBounds_toArray, List.set_cons_succ, List.set_cons_zero, Nat.reduceAdd]
        refine Many.lex_want (by rfl) (Many.tr_call (f := 7) (args := #[.int .i64 x2, .int .i64 1001]) (v := .int .i64 r) (fun _ => True) (fun _ _ _ => trivial) (fun s W hC => (q7a W).mono fun e W' ⟨he, hb⟩ => ⟨he, by rw [hb]; exact hC.read (by decide)⟩) (fun W _ => by (go_simp; try rfl))) ?_
        simp only [Act.put, List.setIfInBounds_toArray, List.set_cons_succ, List.set_cons_zero, Nat.reduceAdd]
        refine Many.lex_want (by rfl) (rd (v := .int .i64 N) (by decide) (fun W hC => by (go_simp; try exact eN))) ?_
        simp only [Act.put, List.setIfInBounds_toArray, List.set_cons_succ, List.set_cons_zero, Nat.reduceAdd]
        refine Many.lex_want (by rfl) (rd (by decide) (fun W hC => by (go_simp; try rfl))) ?_
        simp only [Act.put, List.setIfInBounds_toArray, List.set_cons_succ, List.set_cons_zero, Nat.reduceAdd]
        refine Many.lex_want (by rfl) (rd (v := .int .i64 2) (by decide) (fun W hC => by (go_simp; try rfl))) ?_
        simp only [Act.put, List.setIfInBounds_toArray, List.set_cons_succ, List.set_cons_zero, Nat.reduceAdd]
        refine Many.lex_want (by rfl) (rd (v := .int .i64 3) (by decide) (fun W hC => by (go_simp; try rfl))) ?_
        simp only [Act.put, List.setIfInBounds_toArray, List.set_cons_succ, List.set_cons_zero, Nat.reduceAdd]
        refine Many.lex_want (by rfl) (rd (v := .pointer (some ⟨B, 3, none⟩)) (by decide) (fun W hC => by (go_simp; try rfl))) ?_
        simp only [Act.put, List.setIfInBounds_toArray, List.set_cons_succ, List.set_cons_zero, Nat.reduceAdd]
        refine Many.lex_want (by rfl) (rd (v := .int .i64 x3) (by decide) (fun W hC => by (obtain ⟨s, hC⟩ := hC; have hc : W.cell? ⟨B, 3, none⟩ = some (.int .i64 x3) := (by simp [World.cell?, hC.h0]); go_simp; try rfl))) ?_
        simp only [Act.put, List.setIfInBounds_toArray, List.set_cons_succ, List.set_cons_zero, Nat.reduceAdd]
        refine Many.lex_want (by rfl) (Many.tr_call (f := 7) (args := #[.int .i64 x3, .int .i64 500]) (v := .int .i64 q) (fun _ => True) (fun _ _ _ => trivial) (fun s W hC => (q7b W).mono fun e W' ⟨he, hb⟩ => ⟨he, by rw [hb]; exact hC.read (by decide)⟩) (fun W _ => by (go_simp; try rfl))) ?_
        simp only [Act.put, List.setIfInBounds_toArray, List.set_cons_succ, List.set_cons_zero, Nat.reduceAdd]
        refine Many.lex_want (by rfl) (rd (v := .int .i64 D) (by decide) (fun W hC => by (go_simp; try exact eD))) ?_
        simp only [Act.put, List.setIfInBounds_toArray, List.set_cons_succ, List.set_cons_zero, Nat.reduceAdd]
        refine Many.lex_want (by rfl) (Many.tr_call (f := 12) (args := #[.int .i64 N, .int .i64 D]) (v := .agg #[.int .i64 X, .int .i64 Y]) (fun _ => True) (fun _ _ _ => trivial) (fun s W hC => (q12 W).mono fun e W' ⟨he, hb⟩ => ⟨he, (hC.below hb).read (by decide)⟩) (fun W _ => by (go_simp; try rfl))) ?_
        simp only [Act.put, List.setIfInBounds_toArray, List.set_cons_succ, List.set_cons_zero, Nat.reduceAdd]
        refine Many.lex_want (by rfl) (rd (v := .pointer (some ⟨B + 1, 2, none⟩)) (by decide) (fun W hC => by (go_simp; try rfl))) ?_
        simp only [Act.put, List.setIfInBounds_toArray, List.set_cons_succ, List.set_cons_zero, Nat.reduceAdd]
        refine Many.lex_want (by rfl) (Many.tr_step (v := undef) (fun s W h16 hC => ?_)) ?_
        · have h1 := hC.h1
          rw [h16] at h1
          have u0 : W.cell? ⟨B + 1, 2, none⟩ = some (.int .i64 c) := by simp [World.cell?, h1]
          have u1 : W.cell? ⟨B + 1, 3, none⟩ = some (.int .i64 d) := by simp [World.cell?, h1]
          have v0 : W.frozen? ⟨B + 1, 2, none⟩ = false := by simp [World.frozen?, h1]
          have v1 : W.frozen? ⟨B + 1, 3, none⟩ = false := by simp [World.frozen?, h1]
          have hst := hC.store h16 (i := 2) (j := 3) (x := .int .i64 X) (y := .int .i64 Y) rfl
          clear hA ha h1
          go_simp
          exact ⟨rfl, hst⟩
        simp only [Act.put, List.setIfInBounds_toArray, List.set_cons_succ, List.set_cons_zero, Nat.reduceAdd]
        refine Many.lex_nil fun s W' hs hC => ?_
        have h16 := hs 16 (by decide)
        have hnew : Keep (∃ a b c d e f, At w W' B (six x0 x1 x2 x3 x4 x5) (1 + 1) a b c d e f) := ⟨a, b, X, Y, e, f, hC.h0, by have := hC.h1; rw [h16] at this; exact this, hC.sz, hC.bl, fun _ => hA.f0 (by omega), fun _ => hfr.out, fun h => absurd h (by omega)⟩
        clear hA ha hC hs rd q7a q7b q12
        go_wp2
        exact ⟨⟨1 + 1, by omega, by go_num, hnew⟩, by simp [intOf]⟩
      · obtain ⟨r, hr, q7a⟩ := mod_val x4 (m := 1001) (by omega) (by omega)
        obtain ⟨q, hq, q7b⟩ := mod_val x5 (m := 500) (by omega) (by omega)
        obtain ⟨N, hN⟩ : ∃ N, Keep ((r : Int) - 500 = N) := ⟨_, ⟨rfl⟩⟩
        obtain ⟨D, hD⟩ : ∃ D, Keep (1 + (q : Int) = D) := ⟨_, ⟨rfl⟩⟩
        have hNb : -500 ≤ N ∧ N ≤ 500 := by rw [← hN.out]; omega
        have hDb : 1 ≤ D ∧ D ≤ 500 := by rw [← hD.out]; omega
        have eN : IntKind.i64.wrap ((r : Int) - 500) = N := by rw [hN.out]; exact IntWalk.i64_in _ (by omega)
        have eD : IntKind.i64.wrap (1 + (q : Int)) = D := by rw [hD.out]; exact IntWalk.i64_in _ (by omega)
        have hfr : Keep (Fr 500 500 (redN N D) (redD N D)) := ⟨fr_red hDb.1 hDb.2 hNb.1 hNb.2⟩
        have q12 := fun w => reduced_any N D (by omega) (by omega) (by omega) (by omega) w
        obtain ⟨X, hX⟩ : ∃ X, redN N D = X := ⟨_, rfl⟩
        obtain ⟨Y, hY⟩ : ∃ Y, redD N D = Y := ⟨_, rfl⟩
        rw [hX, hY] at q12 hfr
        clear hX hY
        unfold fracV at q12
        go_wp2
        have hmo : Try.prog.follows .mixedOrders = true := by kernel_rfl
        refine (wpIn_wide (n := 0)).1 ?_
        refine Many.region_many (CS w B (six x0 x1 x2 x3 x4 x5) (six a b c d e f) (six a b c d X Y)) hmo (by kernel_rfl) (fun s s' W' h hc => by rw [← show s = s' from funext h]; exact hc) (fun s hs => ?_) ?_
        · refine ⟨hA.h0, ?_, hA.sz, ⟨hA.bl.os, hA.bl.tape, hA.bl.output, hA.bl.size, hA.bl.block⟩⟩
          rw [hs 16 (by decide)]; exact hA.h1
        have rd : ∀ {k : Nat} {o : Oper} {a' : Act} {v : Value}, k ≠ 16 → (∀ W, (∃ s, CS w B (six x0 x1 x2 x3 x4 x5) (six a b c d e f) (six a b c d X Y) s W) → (execOp a'.eval o).run Try.prog W = .ok (.value v) W) → Many.Tr Try.prog (CS w B (six x0 x1 x2 x3 x4 x5) (six a b c d e f) (six a b c d X Y)) k o a' v :=
          fun h1 h => Many.tr_read (fun W => ∃ s, CS w B _ _ _ s W) (fun s W hC => ⟨s, hC⟩) (fun s W hC => hC.read h1) h
        refine Many.lex_want (by rfl) (rd (by decide) (fun W hC => by (go_simp; try rfl))) ?_
        simp only [Act.put, List.setIfInBounds_toArray, List.set_cons_succ, List.set_cons_zero, Nat.reduceAdd]
        refine Many.lex_want (by rfl) (rd (by decide) (fun W hC => by (go_simp; try rfl))) ?_
        simp only [Act.put, List.setIfInBounds_toArray, List.set_cons_succ, List.set_cons_zero, Nat.reduceAdd]
        refine Many.lex_want (by rfl) (rd (v := .int .i64 4) (by decide) (fun W hC => by (go_simp; try rfl))) ?_
        simp only [Act.put, List.setIfInBounds_toArray, List.set_cons_succ, List.set_cons_zero, Nat.reduceAdd]
        refine Many.lex_want (by rfl) (rd (v := .pointer (some ⟨B, 4, none⟩)) (by decide) (fun W hC => by (go_simp; try rfl))) ?_
        simp only [Act.put, List.setIfInBounds_toArray, List.set_cons_succ, List.set_cons_zero, Nat.reduceAdd]
        refine Many.lex_want (by rfl) (rd (v := .int .i64 x4) (by decide) (fun W hC => by (obtain ⟨s, hC⟩ := hC; have hc : W.cell? ⟨B, 4, none⟩ = some (.int .i64 x4) := (by simp [World.cell?, hC.h0]); go_simp; try rfl))) ?_
        simp only [Act.put, List.setIfInBounds_toArray, List.set_cons_succ, List.set_cons_zero, Nat.reduceAdd]
        refine Many.lex_want (by rfl) (Many.tr_call (f := 7) (args := #[.int .i64 x4, .int .i64 1001]) (v := .int .i64 r) (fun _ => True) (fun _ _ _ => trivial) (fun s W hC => (q7a W).mono fun e W' ⟨he, hb⟩ => ⟨he, by rw [hb]; exact hC.read (by decide)⟩) (fun W _ => by (go_simp; try rfl))) ?_
        simp only [Act.put, List.setIfInBounds_toArray, List.set_cons_succ, List.set_cons_zero, Nat.reduceAdd]
        refine Many.lex_want (by rfl) (rd (v := .int .i64 N) (by decide) (fun W hC => by (go_simp; try exact eN))) ?_
        simp only [Act.put, List.setIfInBounds_toArray, List.set_cons_succ, List.set_cons_zero, Nat.reduceAdd]
        refine Many.lex_want (by rfl) (rd (by decide) (fun W hC => by (go_simp; try rfl))) ?_
        simp only [Act.put, List.setIfInBounds_toArray, List.set_cons_succ, List.set_cons_zero, Nat.reduceAdd]
        refine Many.lex_want (by rfl) (rd (v := .int .i64 4) (by decide) (fun W hC => by (go_simp; try rfl))) ?_
        simp only [Act.put, List.setIfInBounds_toArray, List.set_cons_succ, List.set_cons_zero, Nat.reduceAdd]
        refine Many.lex_want (by rfl) (rd (v := .int .i64 5) (by decide) (fun W hC => by (go_simp; try rfl))) ?_
        simp only [Act.put, List.setIfInBounds_toArray, List.set_cons_succ, List.set_cons_zero, Nat.reduceAdd]
        refine Many.lex_want (by rfl) (rd (v := .pointer (some ⟨B, 5, none⟩)) (by decide) (fun W hC => by (go_simp; try rfl))) ?_
        simp only [Act.put, List.setIfInBounds_toArray, List.set_cons_succ, List.set_cons_zero, Nat.reduceAdd]
        refine Many.lex_want (by rfl) (rd (v := .int .i64 x5) (by decide) (fun W hC => by (obtain ⟨s, hC⟩ := hC; have hc : W.cell? ⟨B, 5, none⟩ = some (.int .i64 x5) := (by simp [World.cell?, hC.h0]); go_simp; try rfl))) ?_
        simp only [Act.put, List.setIfInBounds_toArray, List.set_cons_succ, List.set_cons_zero, Nat.reduceAdd]
        refine Many.lex_want (by rfl) (Many.tr_call (f := 7) (args := #[.int .i64 x5, .int .i64 500]) (v := .int .i64 q) (fun _ => True) (fun _ _ _ => trivial) (fun s W hC => (q7b W).mono fun e W' ⟨he, hb⟩ => ⟨he, by rw [hb]; exact hC.read (by decide)⟩) (fun W _ => by (go_simp; try rfl))) ?_
        simp only [Act.put, List.setIfInBounds_toArray, List.set_cons_succ, List.set_cons_zero, Nat.reduceAdd]
        refine Many.lex_want (by rfl) (rd (v := .int .i64 D) (by decide) (fun W hC => by (go_simp; try exact eD))) ?_
        simp only [Act.put, List.setIfInBounds_toArray, List.set_cons_succ, List.set_cons_zero, Nat.reduceAdd]
        refine Many.lex_want (by rfl) (Many.tr_call (f := 12) (args := #[.int .i64 N, .int .i64 D]) (v := .agg #[.int .i64 X, .int .i64 Y]) (fun _ => True) (fun _ _ _ => trivial) (fun s W hC => (q12 W).mono fun e W' ⟨he, hb⟩ => ⟨he, (hC.below hb).read (by decide)⟩) (fun W _ => by (go_simp; try rfl))) ?_
        simp only [Act.put, List.setIfInBounds_toArray, List.set_cons_succ, List.set_cons_zero, Nat.reduceAdd]
        refine Many.lex_want (by rfl) (rd (v := .pointer (some ⟨B + 1, 4, none⟩)) (by decide) (fun W hC => by (go_simp; try rfl))) ?_
        simp only [Act.put, List.setIfInBounds_toArray, List.set_cons_succ, List.set_cons_zero, Nat.reduceAdd]
        refine Many.lex_want (by rfl) (Many.tr_step (v := undef) (fun s W h16 hC => ?_)) ?_
        · have h1 := hC.h1
          rw [h16] at h1
          have u0 : W.cell? ⟨B + 1, 4, none⟩ = some (.int .i64 e) := by simp [World.cell?, h1]
          have u1 : W.cell? ⟨B + 1, 5, none⟩ = some (.int .i64 f) := by simp [World.cell?, h1]
          have v0 : W.frozen? ⟨B + 1, 4, none⟩ = false := by simp [World.frozen?, h1]
          have v1 : W.frozen? ⟨B + 1, 5, none⟩ = false := by simp [World.frozen?, h1]
          have hst := hC.store h16 (i := 4) (j := 5) (x := .int .i64 X) (y := .int .i64 Y) rfl
          clear hA ha h1
          go_simp
          exact ⟨rfl, hst⟩
        simp only [Act.put, List.setIfInBounds_toArray, List.set_cons_succ, List.set_cons_zero, Nat.reduceAdd]
        refine Many.lex_nil fun s W' hs hC => ?_
        have h16 := hs 16 (by decide)
        have hnew : Keep (∃ a b c d e f, At w W' B (six x0 x1 x2 x3 x4 x5) (2 + 1) a b c d e f) := ⟨a, b, c, d, X, Y, hC.h0, by have := hC.h1; rw [h16] at this; exact this, hC.sz, hC.bl, fun _ => hA.f0 (by omega), fun _ => hA.f1 (by omega), fun _ => hfr.out⟩
        clear hA ha hC hs rd q7a q7b q12
        go_wp2
        exact ⟨⟨2 + 1, by omega, by go_num, hnew⟩, by simp [intOf]⟩
    · obtain rfl : k = 3 := by omega
      obtain ⟨n1, d1, n2, d2, x, y, q1, q2, q3, q4, q5, q6, q7⟩ := sums_facts (hA.f0 (by omega)) (hA.f1 (by omega)) (hA.f2 (by omega))
      have hf0 := hA.f0 (by omega)
      have en : IntKind.i64.wrap (-a) = -a := by obtain ⟨_, _, h3, h4, _⟩ := hf0; exact IntWalk.i64_in _ (by omega)
      clear hf0
      have A0 : wr.cell? ⟨B + 1, 0, none⟩ = some (.int .i64 a) := by simp [World.cell?, hA.h1]
      have A1 : wr.cell? ⟨B + 1, 1, none⟩ = some (.int .i64 b) := by simp [World.cell?, hA.h1]
      have A2 : wr.cell? ⟨B + 1, 2, none⟩ = some (.int .i64 c) := by simp [World.cell?, hA.h1]
      have A3 : wr.cell? ⟨B + 1, 3, none⟩ = some (.int .i64 d) := by simp [World.cell?, hA.h1]
      have A4 : wr.cell? ⟨B + 1, 4, none⟩ = some (.int .i64 e) := by simp [World.cell?, hA.h1]
      have A5 : wr.cell? ⟨B + 1, 5, none⟩ = some (.int .i64 f) := by simp [World.cell?, hA.h1]
      have s0 := hA.sz
      have hbw0 := hA.bl
      have z1 := eqT n1 d1
      have z2 := eqT x y
      have z3 := eqT a b
      have z4 := eqT 0 1
      clear hA ha
      obtain ⟨G, hG⟩ : ∃ G, B + 1 = G := ⟨_, rfl⟩
      have hBG : B ≤ G := by omega
      rw [hG] at A0 A1 A2 A3 A4 A5 s0 ⊢
      clear hG
      unfold Adds fracV at q1 q2 q3 q4 q5 q6 q7
      go_wp2_with (first
        | (go_at_call 13; (with_reducible refine (q1 _).mono ?_); rintro e1 w1 ⟨rfl, hb1⟩
           have A0 : w1.cell? ⟨G, 0, none⟩ = some (.int .i64 a) := cell_below (by go_simp) hb1
           have A1 : w1.cell? ⟨G, 1, none⟩ = some (.int .i64 b) := cell_below (by go_simp) hb1
           have A2 : w1.cell? ⟨G, 2, none⟩ = some (.int .i64 c) := cell_below (by go_simp) hb1
           have A3 : w1.cell? ⟨G, 3, none⟩ = some (.int .i64 d) := cell_below (by go_simp) hb1
           have A4 : w1.cell? ⟨G, 4, none⟩ = some (.int .i64 e) := cell_below (by go_simp) hb1
           have A5 : w1.cell? ⟨G, 5, none⟩ = some (.int .i64 f) := cell_below (by go_simp) hb1
           have s1 : G < w1.heap.size := by have := hb1.size; (try simp at this); omega
           have hbw1 : Below B w w1 := hbw0.trans (hb1.mono (by omega))
           clear hb1 hbw0 q1)
        | (go_at_call 13; (with_reducible refine (q2 _).mono ?_); rintro e2 w2 ⟨rfl, hb2⟩
           have A0 : w2.cell? ⟨G, 0, none⟩ = some (.int .i64 a) := cell_below (by go_simp) hb2
           have A1 : w2.cell? ⟨G, 1, none⟩ = some (.int .i64 b) := cell_below (by go_simp) hb2
           have A2 : w2.cell? ⟨G, 2, none⟩ = some (.int .i64 c) := cell_below (by go_simp) hb2
           have A3 : w2.cell? ⟨G, 3, none⟩ = some (.int .i64 d) := cell_below (by go_simp) hb2
           have A4 : w2.cell? ⟨G, 4, none⟩ = some (.int .i64 e) := cell_below (by go_simp) hb2
           have A5 : w2.cell? ⟨G, 5, none⟩ = some (.int .i64 f) := cell_below (by go_simp) hb2
           have R10 : w2.cell? ⟨w1.heap.size, 0, none⟩ = some (.int .i64 n1) := cell_below (by go_simp) hb2
           have R11 : w2.cell? ⟨w1.heap.size, 1, none⟩ = some (.int .i64 d1) := cell_below (by go_simp) hb2
           have s2 : G < w2.heap.size := by have := hb2.size; (try simp at this); omega
           have s12 : w1.heap.size < w2.heap.size := by have := hb2.size; (try simp at this); omega
           have hbw2 : Below B w w2 := (hbw1.alloc (by omega) _).trans (hb2.mono (by simp; omega))
           clear hb2 hbw1 q2)
        | (go_at_call 13; (with_reducible refine (q3 _).mono ?_); rintro e3 w3 ⟨rfl, hb3⟩
           have A0 : w3.cell? ⟨G, 0, none⟩ = some (.int .i64 a) := cell_below (by go_simp) hb3
           have A1 : w3.cell? ⟨G, 1, none⟩ = some (.int .i64 b) := cell_below (by go_simp) hb3
           have A2 : w3.cell? ⟨G, 2, none⟩ = some (.int .i64 c) := cell_below (by go_simp) hb3
           have A3 : w3.cell? ⟨G, 3, none⟩ = some (.int .i64 d) := cell_below (by go_simp) hb3
           have A4 : w3.cell? ⟨G, 4, none⟩ = some (.int .i64 e) := cell_below (by go_simp) hb3
           have A5 : w3.cell? ⟨G, 5, none⟩ = some (.int .i64 f) := cell_below (by go_simp) hb3
           have R10 : w3.cell? ⟨w1.heap.size, 0, none⟩ = some (.int .i64 n1) := cell_below (by go_simp) hb3
           have R11 : w3.cell? ⟨w1.heap.size, 1, none⟩ = some (.int .i64 d1) := cell_below (by go_simp) hb3
           have R20 : w3.cell? ⟨w2.heap.size, 0, none⟩ = some (.int .i64 n1) := cell_below (by go_simp) hb3
           have R21 : w3.cell? ⟨w2.heap.size, 1, none⟩ = some (.int .i64 d1) := cell_below (by go_simp) hb3
           have s3 : G < w3.heap.size := by have := hb3.size; (try simp at this); omega
           have s13 : w1.heap.size < w3.heap.size := by have := hb3.size; (try simp at this); omega
           have s23 : w2.heap.size < w3.heap.size := by have := hb3.size; (try simp at this); omega
           have hbw3 : Below B w w3 := (hbw2.alloc (by omega) _).trans (hb3.mono (by simp; omega))
           clear hb3 hbw2 q3)
        | (go_at_call 13; (with_reducible refine (q4 _).mono ?_); rintro e4 w4 ⟨rfl, hb4⟩
           have A0 : w4.cell? ⟨G, 0, none⟩ = some (.int .i64 a) := cell_below (by go_simp) hb4
           have A1 : w4.cell? ⟨G, 1, none⟩ = some (.int .i64 b) := cell_below (by go_simp) hb4
           have A2 : w4.cell? ⟨G, 2, none⟩ = some (.int .i64 c) := cell_below (by go_simp) hb4
           have A3 : w4.cell? ⟨G, 3, none⟩ = some (.int .i64 d) := cell_below (by go_simp) hb4
           have A4 : w4.cell? ⟨G, 4, none⟩ = some (.int .i64 e) := cell_below (by go_simp) hb4
           have A5 : w4.cell? ⟨G, 5, none⟩ = some (.int .i64 f) := cell_below (by go_simp) hb4
           have R10 : w4.cell? ⟨w1.heap.size, 0, none⟩ = some (.int .i64 n1) := cell_below (by go_simp) hb4
           have R11 : w4.cell? ⟨w1.heap.size, 1, none⟩ = some (.int .i64 d1) := cell_below (by go_simp) hb4
           have R20 : w4.cell? ⟨w2.heap.size, 0, none⟩ = some (.int .i64 n1) := cell_below (by go_simp) hb4
           have R21 : w4.cell? ⟨w2.heap.size, 1, none⟩ = some (.int .i64 d1) := cell_below (by go_simp) hb4
           have R30 : w4.cell? ⟨w3.heap.size, 0, none⟩ = some (.int .i64 n2) := cell_below (by go_simp) hb4
           have R31 : w4.cell? ⟨w3.heap.size, 1, none⟩ = some (.int .i64 d2) := cell_below (by go_simp) hb4
           have s4 : G < w4.heap.size := by have := hb4.size; (try simp at this); omega
           have s14 : w1.heap.size < w4.heap.size := by have := hb4.size; (try simp at this); omega
           have s24 : w2.heap.size < w4.heap.size := by have := hb4.size; (try simp at this); omega
           have s34 : w3.heap.size < w4.heap.size := by have := hb4.size; (try simp at this); omega
           have hbw4 : Below B w w4 := (hbw3.alloc (by omega) _).trans (hb4.mono (by simp; omega))
           clear hb4 hbw3 q4)
        | (go_at_call 13; (with_reducible refine (q5 _).mono ?_); rintro e5 w5 ⟨rfl, hb5⟩
           have A0 : w5.cell? ⟨G, 0, none⟩ = some (.int .i64 a) := cell_below (by go_simp) hb5
           have A1 : w5.cell? ⟨G, 1, none⟩ = some (.int .i64 b) := cell_below (by go_simp) hb5
           have A2 : w5.cell? ⟨G, 2, none⟩ = some (.int .i64 c) := cell_below (by go_simp) hb5
           have A3 : w5.cell? ⟨G, 3, none⟩ = some (.int .i64 d) := cell_below (by go_simp) hb5
           have A4 : w5.cell? ⟨G, 4, none⟩ = some (.int .i64 e) := cell_below (by go_simp) hb5
           have A5 : w5.cell? ⟨G, 5, none⟩ = some (.int .i64 f) := cell_below (by go_simp) hb5
           have R10 : w5.cell? ⟨w1.heap.size, 0, none⟩ = some (.int .i64 n1) := cell_below (by go_simp) hb5
           have R11 : w5.cell? ⟨w1.heap.size, 1, none⟩ = some (.int .i64 d1) := cell_below (by go_simp) hb5
           have R20 : w5.cell? ⟨w2.heap.size, 0, none⟩ = some (.int .i64 n1) := cell_below (by go_simp) hb5
           have R21 : w5.cell? ⟨w2.heap.size, 1, none⟩ = some (.int .i64 d1) := cell_below (by go_simp) hb5
           have R30 : w5.cell? ⟨w3.heap.size, 0, none⟩ = some (.int .i64 n2) := cell_below (by go_simp) hb5
           have R31 : w5.cell? ⟨w3.heap.size, 1, none⟩ = some (.int .i64 d2) := cell_below (by go_simp) hb5
           have R40 : w5.cell? ⟨w4.heap.size, 0, none⟩ = some (.int .i64 x) := cell_below (by go_simp) hb5
           have R41 : w5.cell? ⟨w4.heap.size, 1, none⟩ = some (.int .i64 y) := cell_below (by go_simp) hb5
           have s5 : G < w5.heap.size := by have := hb5.size; (try simp at this); omega
           have s15 : w1.heap.size < w5.heap.size := by have := hb5.size; (try simp at this); omega
           have s25 : w2.heap.size < w5.heap.size := by have := hb5.size; (try simp at this); omega
           have s35 : w3.heap.size < w5.heap.size := by have := hb5.size; (try simp at this); omega
           have s45 : w4.heap.size < w5.heap.size := by have := hb5.size; (try simp at this); omega
           have hbw5 : Below B w w5 := (hbw4.alloc (by omega) _).trans (hb5.mono (by simp; omega))
           clear hb5 hbw4 q5)
        | (go_at_call 13; (with_reducible refine (q6 _).mono ?_); rintro e6 w6 ⟨rfl, hb6⟩
           have A0 : w6.cell? ⟨G, 0, none⟩ = some (.int .i64 a) := cell_below (by go_simp) hb6
           have A1 : w6.cell? ⟨G, 1, none⟩ = some (.int .i64 b) := cell_below (by go_simp) hb6
           have A2 : w6.cell? ⟨G, 2, none⟩ = some (.int .i64 c) := cell_below (by go_simp) hb6
           have A3 : w6.cell? ⟨G, 3, none⟩ = some (.int .i64 d) := cell_below (by go_simp) hb6
           have A4 : w6.cell? ⟨G, 4, none⟩ = some (.int .i64 e) := cell_below (by go_simp) hb6
           have A5 : w6.cell? ⟨G, 5, none⟩ = some (.int .i64 f) := cell_below (by go_simp) hb6
           have R10 : w6.cell? ⟨w1.heap.size, 0, none⟩ = some (.int .i64 n1) := cell_below (by go_simp) hb6
           have R11 : w6.cell? ⟨w1.heap.size, 1, none⟩ = some (.int .i64 d1) := cell_below (by go_simp) hb6
           have R20 : w6.cell? ⟨w2.heap.size, 0, none⟩ = some (.int .i64 n1) := cell_below (by go_simp) hb6
           have R21 : w6.cell? ⟨w2.heap.size, 1, none⟩ = some (.int .i64 d1) := cell_below (by go_simp) hb6
           have R30 : w6.cell? ⟨w3.heap.size, 0, none⟩ = some (.int .i64 n2) := cell_below (by go_simp) hb6
           have R31 : w6.cell? ⟨w3.heap.size, 1, none⟩ = some (.int .i64 d2) := cell_below (by go_simp) hb6
           have R40 : w6.cell? ⟨w4.heap.size, 0, none⟩ = some (.int .i64 x) := cell_below (by go_simp) hb6
           have R41 : w6.cell? ⟨w4.heap.size, 1, none⟩ = some (.int .i64 y) := cell_below (by go_simp) hb6
           have R50 : w6.cell? ⟨w5.heap.size, 0, none⟩ = some (.int .i64 x) := cell_below (by go_simp) hb6
           have R51 : w6.cell? ⟨w5.heap.size, 1, none⟩ = some (.int .i64 y) := cell_below (by go_simp) hb6
           have s6 : G < w6.heap.size := by have := hb6.size; (try simp at this); omega
           have s16 : w1.heap.size < w6.heap.size := by have := hb6.size; (try simp at this); omega
           have s26 : w2.heap.size < w6.heap.size := by have := hb6.size; (try simp at this); omega
           have s36 : w3.heap.size < w6.heap.size := by have := hb6.size; (try simp at this); omega
           have s46 : w4.heap.size < w6.heap.size := by have := hb6.size; (try simp at this); omega
           have s56 : w5.heap.size < w6.heap.size := by have := hb6.size; (try simp at this); omega
           have hbw6 : Below B w w6 := (hbw5.alloc (by omega) _).trans (hb6.mono (by simp; omega))
           clear hb6 hbw5 q6)
        | (go_at_call 13; (with_reducible refine (q7 _).mono ?_); rintro e7 w7 ⟨rfl, hb7⟩
           have A0 : w7.cell? ⟨G, 0, none⟩ = some (.int .i64 a) := cell_below (by go_simp) hb7
           have A1 : w7.cell? ⟨G, 1, none⟩ = some (.int .i64 b) := cell_below (by go_simp) hb7
           have A2 : w7.cell? ⟨G, 2, none⟩ = some (.int .i64 c) := cell_below (by go_simp) hb7
           have A3 : w7.cell? ⟨G, 3, none⟩ = some (.int .i64 d) := cell_below (by go_simp) hb7
           have A4 : w7.cell? ⟨G, 4, none⟩ = some (.int .i64 e) := cell_below (by go_simp) hb7
           have A5 : w7.cell? ⟨G, 5, none⟩ = some (.int .i64 f) := cell_below (by go_simp) hb7
           have R10 : w7.cell? ⟨w1.heap.size, 0, none⟩ = some (.int .i64 n1) := cell_below (by go_simp) hb7
           have R11 : w7.cell? ⟨w1.heap.size, 1, none⟩ = some (.int .i64 d1) := cell_below (by go_simp) hb7
           have R20 : w7.cell? ⟨w2.heap.size, 0, none⟩ = some (.int .i64 n1) := cell_below (by go_simp) hb7
           have R21 : w7.cell? ⟨w2.heap.size, 1, none⟩ = some (.int .i64 d1) := cell_below (by go_simp) hb7
           have R30 : w7.cell? ⟨w3.heap.size, 0, none⟩ = some (.int .i64 n2) := cell_below (by go_simp) hb7
           have R31 : w7.cell? ⟨w3.heap.size, 1, none⟩ = some (.int .i64 d2) := cell_below (by go_simp) hb7
           have R40 : w7.cell? ⟨w4.heap.size, 0, none⟩ = some (.int .i64 x) := cell_below (by go_simp) hb7
           have R41 : w7.cell? ⟨w4.heap.size, 1, none⟩ = some (.int .i64 y) := cell_below (by go_simp) hb7
           have R50 : w7.cell? ⟨w5.heap.size, 0, none⟩ = some (.int .i64 x) := cell_below (by go_simp) hb7
           have R51 : w7.cell? ⟨w5.heap.size, 1, none⟩ = some (.int .i64 y) := cell_below (by go_simp) hb7
           have R60 : w7.cell? ⟨w6.heap.size, 0, none⟩ = some (.int .i64 a) := cell_below (by go_simp) hb7
           have R61 : w7.cell? ⟨w6.heap.size, 1, none⟩ = some (.int .i64 b) := cell_below (by go_simp) hb7
           have s7 : G < w7.heap.size := by have := hb7.size; (try simp at this); omega
           have s17 : w1.heap.size < w7.heap.size := by have := hb7.size; (try simp at this); omega
           have s27 : w2.heap.size < w7.heap.size := by have := hb7.size; (try simp at this); omega
           have s37 : w3.heap.size < w7.heap.size := by have := hb7.size; (try simp at this); omega
           have s47 : w4.heap.size < w7.heap.size := by have := hb7.size; (try simp at this); omega
           have s57 : w5.heap.size < w7.heap.size := by have := hb7.size; (try simp at this); omega
           have s67 : w6.heap.size < w7.heap.size := by have := hb7.size; (try simp at this); omega
           have hbw7 : Below B w w7 := (hbw6.alloc (by omega) _).trans (hb7.mono (by simp; omega))
           clear hb7 hbw6 q7)
        | (go_at_call 11; refine (awake_any _).mono ?_; rintro e9 w9 ⟨rfl, hb9⟩))
      all_goals go_ret
      all_goals exact ⟨rfl, by rw [hB.out]; exact (hbw7.alloc (by omega) _).trans (hb9.mono (by simp; omega))⟩
end Go.Proofs.Ytifbiamfandjnab
