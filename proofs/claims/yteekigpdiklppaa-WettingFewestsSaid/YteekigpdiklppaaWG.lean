import Derived.Test.YteekigpdiklppaaWF
import Derived.Test.YteekigpdiklppaaWD
import Derived.Test.YteekigpdiklppaaWE
import Derived.OpenShut
import Derived.Lib.SmallJoins
set_option linter.unusedSimpArgs false
set_option linter.unusedVariables false
namespace Go.Proofs.Yteekigpdiklppaa
open Go Go.Proofs Go.RowKit Go.Seq
attribute [local go_sem] Oper.semAt_some
set_option maxHeartbeats 2000000 in
set_option maxRecDepth 100000 in
/-- A list of pairs one of which is no edge. -/
theorem readGraph_bad {n : Nat} {v : Value} {ps : Pts} {w : World} {k0 : Nat} (hv : PairsOf w v ps) (n1 : 1 ≤ n) (n12 : n ≤ 12) (hl : ps.length ≤ 200) (hk0 : k0 < ps.length) (hed : ∀ k, k < k0 → EdgeOk n (ps.take k) (ps.getD k (0, 0))) (hbad : ¬ EdgeOk n (ps.take k0) (ps.getD k0 (0, 0))) :
    Calls Try.prog 69 #[.int .i64 n, v] w fun e w' => e = .returned (.tuple #[.pointer none, .bool false]) ∧ Below w.heap.size w w' := by
  have hmx : Try.prog.follows .mixedOrders = true := by kernel_rfl
  obtain ⟨A, cap, rfl, hc⟩ := hv
  have hck := Keep.mk hc
  have h5k := Keep.mk hed
  have hbk := Keep.mk hbad
  obtain ⟨m, hm⟩ : ∃ m, Keep (ps.length = m) := ⟨_, ⟨rfl⟩⟩
  rw [hm.out] at hl hck hk0 ⊢
  have g1 : ¬ (n : Int) < 1 := by omega
  have g2 : ¬ (n : Int) > 12 := by omega
  obtain ⟨wa, hwa⟩ : ∃ wa, w.alloc (.cells (Try.zeroCells118.setIfInBounds 0 (.int .i64 n)) 118) = wa := ⟨_, rfl⟩
  have ba : Below w.heap.size w wa := by rw [← hwa]; exact (Below.refl _ _).alloc (Nat.le_refl _) _
  have ga : GraphH wa w.heap.size n (adjOf []) := by rw [← hwa, gz_eq]; exact graph_new w n
  have hI : Keep (GraphH wa w.heap.size n (adjOf (ps.take 0)) ∧ Below w.heap.size w wa) := ⟨by simpa using ga, ba⟩
  clear hc hed hbad ga ba
  go_enter Try.func69, Try.ntmps69
  go_wp2
  try rw [hwa]
  clear hwa
  go_loopw [22] (fun i wr => ∃ k : Nat, k ≤ k0 ∧ i = .int .i64 k ∧ Keep (GraphH wr w.heap.size n (adjOf (ps.take k)) ∧ Below w.heap.size w wr)) (fun i _ => m - (intOf i).toNat)
  case atStart => exact ⟨0, by omega, rfl, hI⟩
  case round =>
    obtain ⟨k, hk, rfl, hI⟩ := hrel
    have hw1 : IntKind.i64.wrap ((k : Int) + 1) = (k : Int) + 1 := IntWalk.i64_in _ (by omega)
    by_cases hlt : k < k0
    · have hlt' : (k : Int) < (m : Int) := by omega
      obtain ⟨g, rfl, c0, c1⟩ := hck.out k (by omega)
      have hbz := hI.out.2.size
      have c0 := cell_below c0 hI.out.2
      have c1 := cell_below c1 hI.out.2
      have hed := h5k.out k hlt
      have hpush := takep (ps := ps) (k := k) (by rw [hm.out]; omega)
      generalize ps.getD k (0, 0) = p at c0 c1 hed hpush
      obtain ⟨x, y⟩ := p
      obtain ⟨e1, e2, e3, e4, e5, e6⟩ := hed
      simp only at c0 c1 e1 e2 e3 e4 e5 e6
      obtain ⟨a, ha⟩ : ∃ a : Nat, (a : Int) = x := ⟨x.toNat, by omega⟩
      obtain ⟨c, hc⟩ : ∃ c : Nat, (c : Int) = y := ⟨y.toNat, by omega⟩
      subst ha hc
      simp only [Int.toNat_natCast] at e6
      have han : a < n := by omega
      have hcn : c < n := by omega
      have hac : ¬ ((a : Int) ≥ (c : Int)) := by omega
      have ha12 : (a : Int) < 12 := by omega
      have hc12 : (c : Int) < 12 := by omega
      have ha0 : ¬ (a : Int) < 0 := by omega
      have hc0 : ¬ (c : Int) < 0 := by omega
      obtain ⟨W1, hW1⟩ : ∃ W1, wr.alloc (.cells #[.int .i64 a, .int .i64 c] 63) = W1 := ⟨_, rfl⟩
      have b1 : Below wr.heap.size wr W1 := by rw [← hW1]; exact (Below.refl _ _).alloc (Nat.le_refl _) _
      have h8 : W1.heap[wr.heap.size]? = some (.cells #[.int .i64 a, .int .i64 c] 63 (0, 0)) := by rw [← hW1]; exact World.alloc_heap_new wr _
      have hI1 : Keep (GraphH W1 w.heap.size n (adjOf (ps.take k)) ∧ Below w.heap.size w W1) := ⟨hI.out.1.below b1 hI.out.1.lt, hI.out.2.trans (b1.mono hI.out.2.size)⟩
      have r0 : W1.cell? ⟨wr.heap.size, 0, none⟩ = some (.int .i64 a) := by simp [World.cell?, h8]
      have r1 : W1.cell? ⟨wr.heap.size, 1, none⟩ = some (.int .i64 c) := by simp [World.cell?, h8]
      clear hI b1 h8
      go_wp2
      try rw [hW1]
      clear hW1
      refine (wpIn_wide (n := 0)).1 ?_
      refine Many.region_many (Cq W1) hmx (by kernel_rfl) (fun s s' W' h hc => hc) (fun s hs => ⟨1, rfl⟩) ?_
      refine Many.lex_want (by rfl) (rd (v := .pointer (some ⟨wr.heap.size, 0, none⟩)) (fun q => by (go_simp; try rfl))) ?_
      simp only [Act.put, List.setIfInBounds_toArray, List.set_cons_succ, List.set_cons_zero, Nat.reduceAdd]
      refine Many.lex_want (by rfl) (rd (v := .int .i64 a) (fun q => by (go_simp; try rfl))) ?_
      simp only [Act.put, List.setIfInBounds_toArray, List.set_cons_succ, List.set_cons_zero, Nat.reduceAdd]
      refine Many.lex_want (by rfl) (rd (v := .pointer (some ⟨wr.heap.size, 1, none⟩)) (fun q => by (go_simp; try rfl))) ?_
      simp only [Act.put, List.setIfInBounds_toArray, List.set_cons_succ, List.set_cons_zero, Nat.reduceAdd]
      refine Many.lex_want (by rfl) (rd (v := .int .i64 c) (fun q => by (go_simp; try rfl))) ?_
      simp only [Act.put, List.setIfInBounds_toArray, List.set_cons_succ, List.set_cons_zero, Nat.reduceAdd]
      refine Many.lex_want (by rfl) (rd (v := .int .i64 a) (fun q => by (go_simp; try rfl))) ?_
      simp only [Act.put, List.setIfInBounds_toArray, List.set_cons_succ, List.set_cons_zero, Nat.reduceAdd]
      refine Many.lex_want (by rfl) (rd (v := .int .i64 c) (fun q => by (go_simp; try rfl))) ?_
      simp only [Act.put, List.setIfInBounds_toArray, List.set_cons_succ, List.set_cons_zero, Nat.reduceAdd]
      refine Many.lex_nil fun s9 W2 hs9 hS9 => ?_
      have hI2 : Keep (GraphH W2 w.heap.size n (adjOf (ps.take k)) ∧ Below w.heap.size w W2) := by
        obtain ⟨q, rfl⟩ := hS9
        have hb := below_dn W1 q
        exact ⟨hI1.out.1.below hb hI1.out.1.lt, hI1.out.2.trans (hb.mono hI1.out.2.size)⟩
      clear hI1 hS9 hs9 r0 r1 c0 c1
      have qa := has_any hI2.out.1.at (a : Int)
      have qc := has_any hI2.out.1.at (c : Int)
      rw [decide_eq_true (by omega)] at qa qc
      have hadj := (hI2.out.1.at).at_ a c (by omega) (by omega)
      rw [e6] at hadj
      go_wp2_with (first
        | (go_at_call 80; (with_reducible refine qa.mono ?_); rintro e w5 ⟨rfl, he5⟩; rw [he5]; clear he5 w5)
        | (go_at_call 80; (with_reducible refine qc.mono ?_); rintro e w5 ⟨rfl, he5⟩; rw [he5]; clear he5 w5))
      clear hadj qa qc
      obtain ⟨A0, hA0⟩ : ∃ A0, adjOf (ps.take k) = A0 := ⟨_, rfl⟩
      have hA2e : ∀ i j, adjOf (ps.take (k + 1)) i j = AX A0 a c true true i j := fun i j => by
        rw [hpush, ← hA0, adjOf_push]
        simp only [AX, Bool.true_and, Bool.or_assoc]
      rw [hA0] at hI2
      obtain ⟨CX, hCXd⟩ : ∃ CX : (Nat → Bool) → World → Prop, CX = fun s0 W => GraphH W w.heap.size n (AX A0 a c (s0 10) (s0 15)) ∧ Below w.heap.size w W := ⟨_, rfl⟩
      have hCk : ∀ i, i ≠ 10 → i ≠ 15 → ∀ s0 W, CX s0 W → CX (Many.upd s0 i) W := fun i h1 h2 s0 W h => by
        rw [hCXd] at h ⊢
        simp only at h ⊢
        rw [show Many.upd s0 i 10 = s0 10 by simp [Many.upd, h1], show Many.upd s0 i 15 = s0 15 by simp [Many.upd, h2]]; exact h
      have hs10 : ∀ s0 W, s0 10 = false → CX s0 W → ((∃ u, W.cell? ⟨w.heap.size, 1 + a * 12 + c, none⟩ = some (.bool u)) ∧ W.frozen? ⟨w.heap.size, 1 + a * 12 + c, none⟩ = false) ∧ CX (Many.upd s0 10) (W.setCell ⟨w.heap.size, 1 + a * 12 + c, none⟩ (.bool true)) := fun s0 W hs h => by
        rw [hCXd] at h ⊢
        simp only at h ⊢
        rw [show Many.upd s0 10 10 = true by simp [Many.upd], show Many.upd s0 10 15 = s0 15 by simp [Many.upd]]
        rw [hs] at h
        refine ⟨⟨⟨_, h.1.at.at_ a c (by omega) (by omega)⟩, h.1.free _⟩, h.1.set (by omega) (by omega) (by simp [AX]) (fun i j _ _ hij => ?_), h.2.setCell (p := ⟨w.heap.size, _, none⟩) (Nat.le_refl _) _⟩
        have hx : (i == a && j == c) = false := by rw [Bool.and_eq_false_iff, beq_eq_false_iff_ne, beq_eq_false_iff_ne]; omega
        simp [AX, hx]
      have hs15 : ∀ s0 W, s0 15 = false → CX s0 W → ((∃ u, W.cell? ⟨w.heap.size, 1 + c * 12 + a, none⟩ = some (.bool u)) ∧ W.frozen? ⟨w.heap.size, 1 + c * 12 + a, none⟩ = false) ∧ CX (Many.upd s0 15) (W.setCell ⟨w.heap.size, 1 + c * 12 + a, none⟩ (.bool true)) := fun s0 W hs h => by
        rw [hCXd] at h ⊢
        simp only at h ⊢
        rw [show Many.upd s0 15 10 = s0 10 by simp [Many.upd], show Many.upd s0 15 15 = true by simp [Many.upd]]
        rw [hs] at h
        refine ⟨⟨⟨_, h.1.at.at_ c a (by omega) (by omega)⟩, h.1.free _⟩, h.1.set (by omega) (by omega) (by simp [AX]) (fun i j _ _ hij => ?_), h.2.setCell (p := ⟨w.heap.size, _, none⟩) (Nat.le_refl _) _⟩
        have hx : (i == c && j == a) = false := by rw [Bool.and_eq_false_iff, beq_eq_false_iff_ne, beq_eq_false_iff_ne]; omega
        simp [AX, hx]
      have hC0 : ∀ s0 : Nat → Bool, s0 10 = false → s0 15 = false → CX s0 W2.drew := fun s0 h1 h2 => by
        rw [hCXd]
        simp only [h1, h2]
        have hb := (Below.refl W2.heap.size W2).drew
        rw [show AX A0 a c false false = A0 by funext i j; simp [AX]]
        exact ⟨hI2.out.1.below hb hI2.out.1.lt, hI2.out.2.trans (hb.mono hI2.out.2.size)⟩
      have hCe : ∀ s0 s1 W, (∀ j, s0 j = s1 j) → CX s0 W → CX s1 W := fun s0 s1 W h hc => by
        rw [hCXd] at hc ⊢; simp only at hc ⊢; rw [← h, ← h]; exact hc
      have hfin : ∀ s0 W, s0 10 = true → s0 15 = true → CX s0 W → Keep (GraphH W w.heap.size n (adjOf (ps.take (k + 1))) ∧ Below w.heap.size w W) := fun s0 W h1 h2 h => by
        rw [hCXd] at h; simp only [h1, h2] at h
        exact ⟨by rw [show adjOf (ps.take (k + 1)) = AX A0 a c true true from funext fun i => funext fun j => hA2e i j]; exact h.1, h.2⟩
      clear hCXd hA2e hI2 hA0
      refine (wpIn_wide (n := 0)).1 ?_
      refine Many.region_many CX hmx (by kernel_rfl) hCe (fun s0 hs => hC0 s0 (hs 10 (by decide)) (hs 15 (by decide))) ?_
      refine Many.lex_want (by rfl) (Many.tr_read (v := .pointer (some ⟨w.heap.size, 0, none⟩)) (fun _ => True) (fun _ _ _ => trivial) (hCk 0 (by decide) (by decide)) (fun W h => by clear h; go_simp; (try rfl); (try (intro hneg; omega)))) ?_
      simp only [Act.put, List.setIfInBounds_toArray, List.set_cons_succ, List.set_cons_zero, Nat.reduceAdd]
      refine Many.lex_want (by rfl) (Many.tr_read (v := .int .i64 a) (fun _ => True) (fun _ _ _ => trivial) (hCk 1 (by decide) (by decide)) (fun W h => by clear h; go_simp; (try rfl); (try (intro hneg; omega)))) ?_
      simp only [Act.put, List.setIfInBounds_toArray, List.set_cons_succ, List.set_cons_zero, Nat.reduceAdd]
      refine Many.lex_want (by rfl) (Many.tr_read (v := .int .i64 c) (fun _ => True) (fun _ _ _ => trivial) (hCk 2 (by decide) (by decide)) (fun W h => by clear h; go_simp; (try rfl); (try (intro hneg; omega)))) ?_
      simp only [Act.put, List.setIfInBounds_toArray, List.set_cons_succ, List.set_cons_zero, Nat.reduceAdd]
      refine Many.lex_want (by rfl) (Many.tr_read (v := .pointer (some ⟨w.heap.size, 0, none⟩)) (fun _ => True) (fun _ _ _ => trivial) (hCk 3 (by decide) (by decide)) (fun W h => by clear h; go_simp; (try rfl); (try (intro hneg; omega)))) ?_
      simp only [Act.put, List.setIfInBounds_toArray, List.set_cons_succ, List.set_cons_zero, Nat.reduceAdd]
      refine Many.lex_want (by rfl) (Many.tr_read (v := .int .i64 c) (fun _ => True) (fun _ _ _ => trivial) (hCk 4 (by decide) (by decide)) (fun W h => by clear h; go_simp; (try rfl); (try (intro hneg; omega)))) ?_
      simp only [Act.put, List.setIfInBounds_toArray, List.set_cons_succ, List.set_cons_zero, Nat.reduceAdd]
      refine Many.lex_want (by rfl) (Many.tr_read (v := .int .i64 a) (fun _ => True) (fun _ _ _ => trivial) (hCk 5 (by decide) (by decide)) (fun W h => by clear h; go_simp; (try rfl); (try (intro hneg; omega)))) ?_
      simp only [Act.put, List.setIfInBounds_toArray, List.set_cons_succ, List.set_cons_zero, Nat.reduceAdd]
      refine Many.lex_want (by rfl) (Many.tr_read (v := .pointer (some ⟨w.heap.size, 0, none⟩)) (fun _ => True) (fun _ _ _ => trivial) (hCk 6 (by decide) (by decide)) (fun W h => by clear h; go_simp; (try rfl); (try (intro hneg; omega)))) ?_
      simp only [Act.put, List.setIfInBounds_toArray, List.set_cons_succ, List.set_cons_zero, Nat.reduceAdd]
      refine Many.lex_want (by rfl) (Many.tr_read (v := .pointer (some ⟨w.heap.size, 1, none⟩)) (fun _ => True) (fun _ _ _ => trivial) (hCk 7 (by decide) (by decide)) (fun W h => by clear h; go_simp; (try rfl); (try (intro hneg; omega)))) ?_
      simp only [Act.put, List.setIfInBounds_toArray, List.set_cons_succ, List.set_cons_zero, Nat.reduceAdd]
      refine Many.lex_want (by rfl) (Many.tr_read (v := .pointer (some ⟨w.heap.size, 1 + a * 12, none⟩)) (fun _ => True) (fun _ _ _ => trivial) (hCk 8 (by decide) (by decide)) (fun W h => by clear h; go_simp; (try rfl); (try (intro hneg; omega)))) ?_
      simp only [Act.put, List.setIfInBounds_toArray, List.set_cons_succ, List.set_cons_zero, Nat.reduceAdd]
      refine Many.lex_want (by rfl) (Many.tr_read (v := .pointer (some ⟨w.heap.size, 1 + a * 12 + c, none⟩)) (fun _ => True) (fun _ _ _ => trivial) (hCk 9 (by decide) (by decide)) (fun W h => by clear h; go_simp; (try rfl); (try (intro hneg; omega)))) ?_
      simp only [Act.put, List.setIfInBounds_toArray, List.set_cons_succ, List.set_cons_zero, Nat.reduceAdd]
      refine Many.lex_want (by rfl) (Many.tr_step (v := undef) (fun s0 W hs hC => ?_)) ?_
      · obtain ⟨⟨⟨u, cz⟩, fz⟩, h2⟩ := hs10 s0 W hs hC
        have h2k := Keep.mk h2
        clear hC h2
        go_simp
        exact ⟨rfl, h2k.out⟩
      simp only [Act.put, List.setIfInBounds_toArray, List.set_cons_succ, List.set_cons_zero, Nat.reduceAdd]
      refine Many.lex_want (by rfl) (Many.tr_read (v := .pointer (some ⟨w.heap.size, 0, none⟩)) (fun _ => True) (fun _ _ _ => trivial) (hCk 11 (by decide) (by decide)) (fun W h => by clear h; go_simp; (try rfl); (try (intro hneg; omega)))) ?_
      simp only [Act.put, List.setIfInBounds_toArray, List.set_cons_succ, List.set_cons_zero, Nat.reduceAdd]
      refine Many.lex_want (by rfl) (Many.tr_read (v := .pointer (some ⟨w.heap.size, 1, none⟩)) (fun _ => True) (fun _ _ _ => trivial) (hCk 12 (by decide) (by decide)) (fun W h => by clear h; go_simp; (try rfl); (try (intro hneg; omega)))) ?_
      simp only [Act.put, List.setIfInBounds_toArray, List.set_cons_succ, List.set_cons_zero, Nat.reduceAdd]
      refine Many.lex_want (by rfl) (Many.tr_read (v := .pointer (some ⟨w.heap.size, 1 + c * 12, none⟩)) (fun _ => True) (fun _ _ _ => trivial) (hCk 13 (by decide) (by decide)) (fun W h => by clear h; go_simp; (try rfl); (try (intro hneg; omega)))) ?_
      simp only [Act.put, List.setIfInBounds_toArray, List.set_cons_succ, List.set_cons_zero, Nat.reduceAdd]
      refine Many.lex_want (by rfl) (Many.tr_read (v := .pointer (some ⟨w.heap.size, 1 + c * 12 + a, none⟩)) (fun _ => True) (fun _ _ _ => trivial) (hCk 14 (by decide) (by decide)) (fun W h => by clear h; go_simp; (try rfl); (try (intro hneg; omega)))) ?_
      simp only [Act.put, List.setIfInBounds_toArray, List.set_cons_succ, List.set_cons_zero, Nat.reduceAdd]
      refine Many.lex_want (by rfl) (Many.tr_step (v := undef) (fun s0 W hs hC => ?_)) ?_
      · obtain ⟨⟨⟨u, cz⟩, fz⟩, h2⟩ := hs15 s0 W hs hC
        have h2k := Keep.mk h2
        clear hC h2
        go_simp
        exact ⟨rfl, h2k.out⟩
      simp only [Act.put, List.setIfInBounds_toArray, List.set_cons_succ, List.set_cons_zero, Nat.reduceAdd]
      refine Many.lex_nil fun s9 W4 hs9 hS4 => ?_
      have hI4 := hfin s9 W4 (hs9 10 (by decide)) (hs9 15 (by decide)) hS4
      clear hS4 hs9
      go_wp2
      exact ⟨⟨k + 1, by omega, by go_num, hI4⟩, by simp [intOf]; omega⟩
    · obtain rfl : k = k0 := by omega
      have hlt' : (k : Int) < (m : Int) := by omega
      obtain ⟨g, rfl, c0, c1⟩ := hck.out k (by omega)
      have hbz := hI.out.2.size
      have c0 := cell_below c0 hI.out.2
      have c1 := cell_below c1 hI.out.2
      have hed := hbk.out
      generalize ps.getD k (0, 0) = p at c0 c1 hed
      obtain ⟨x, y⟩ := p
      simp only at c0 c1
      obtain ⟨W1, hW1⟩ : ∃ W1, wr.alloc (.cells #[.int .i64 x, .int .i64 y] 63) = W1 := ⟨_, rfl⟩
      have b1 : Below wr.heap.size wr W1 := by rw [← hW1]; exact (Below.refl _ _).alloc (Nat.le_refl _) _
      have h8 : W1.heap[wr.heap.size]? = some (.cells #[.int .i64 x, .int .i64 y] 63 (0, 0)) := by rw [← hW1]; exact World.alloc_heap_new wr _
      have hI1 : Keep (GraphH W1 w.heap.size n (adjOf (ps.take k)) ∧ Below w.heap.size w W1) := ⟨hI.out.1.below b1 hI.out.1.lt, hI.out.2.trans (b1.mono hI.out.2.size)⟩
      have r0 : W1.cell? ⟨wr.heap.size, 0, none⟩ = some (.int .i64 x) := by simp [World.cell?, h8]
      have r1 : W1.cell? ⟨wr.heap.size, 1, none⟩ = some (.int .i64 y) := by simp [World.cell?, h8]
      have hedk := Keep.mk hed
      clear hI b1 h8 hed
      go_wp2
      try rw [hW1]
      clear hW1
      refine (wpIn_wide (n := 0)).1 ?_
      refine Many.region_many (Cq W1) hmx (by kernel_rfl) (fun s s' W' h hc => hc) (fun s hs => ⟨1, rfl⟩) ?_
      refine Many.lex_want (by rfl) (rd (v := .pointer (some ⟨wr.heap.size, 0, none⟩)) (fun q => by (go_simp; try rfl))) ?_
      simp only [Act.put, List.setIfInBounds_toArray, List.set_cons_succ, List.set_cons_zero, Nat.reduceAdd]
      refine Many.lex_want (by rfl) (rd (v := .int .i64 x) (fun q => by (go_simp; try rfl))) ?_
      simp only [Act.put, List.setIfInBounds_toArray, List.set_cons_succ, List.set_cons_zero, Nat.reduceAdd]
      refine Many.lex_want (by rfl) (rd (v := .pointer (some ⟨wr.heap.size, 1, none⟩)) (fun q => by (go_simp; try rfl))) ?_
      simp only [Act.put, List.setIfInBounds_toArray, List.set_cons_succ, List.set_cons_zero, Nat.reduceAdd]
      refine Many.lex_want (by rfl) (rd (v := .int .i64 y) (fun q => by (go_simp; try rfl))) ?_
      simp only [Act.put, List.setIfInBounds_toArray, List.set_cons_succ, List.set_cons_zero, Nat.reduceAdd]
      refine Many.lex_want (by rfl) (rd (v := .int .i64 x) (fun q => by (go_simp; try rfl))) ?_
      simp only [Act.put, List.setIfInBounds_toArray, List.set_cons_succ, List.set_cons_zero, Nat.reduceAdd]
      refine Many.lex_want (by rfl) (rd (v := .int .i64 y) (fun q => by (go_simp; try rfl))) ?_
      simp only [Act.put, List.setIfInBounds_toArray, List.set_cons_succ, List.set_cons_zero, Nat.reduceAdd]
      refine Many.lex_nil fun s9 W2 hs9 hS9 => ?_
      have hI2 : Keep (GraphH W2 w.heap.size n (adjOf (ps.take k)) ∧ Below w.heap.size w W2) := by
        obtain ⟨q, rfl⟩ := hS9
        have hb := below_dn W1 q
        exact ⟨hI1.out.1.below hb hI1.out.1.lt, hI1.out.2.trans (hb.mono hI1.out.2.size)⟩
      clear hI1 hS9 hs9 r0 r1 c0 c1
      have qa := has_any hI2.out.1.at x
      have qc := has_any hI2.out.1.at y
      by_cases hx : 0 ≤ x ∧ x < (n : Int)
      · rw [decide_eq_true hx] at qa
        obtain ⟨a, ha⟩ : ∃ a : Nat, (a : Int) = x := ⟨x.toNat, by omega⟩
        subst ha
        by_cases hy : 0 ≤ y ∧ y < (n : Int)
        · rw [decide_eq_true hy] at qc
          obtain ⟨c, hc⟩ : ∃ c : Nat, (c : Int) = y := ⟨y.toNat, by omega⟩
          subst hc
          by_cases hac : (a : Int) ≥ (c : Int)
          · clear hedk hx hy
            go_wp2_with (first
              | (go_at_call 80; (with_reducible refine qa.mono ?_); rintro e w5 ⟨rfl, he5⟩; rw [he5]; clear he5 w5)
              | (go_at_call 80; (with_reducible refine qc.mono ?_); rintro e w5 ⟨rfl, he5⟩; rw [he5]; clear he5 w5))
            refine bodyPost_ret (v := .tuple #[.pointer none, .bool false]) (by simp [results, Try.results69, go_sem]) rfl ?_
            exact ⟨rfl, hI2.out.2⟩
          · have hadj := (hI2.out.1.at).at_ a c (by omega) (by omega)
            have hA : adjOf (ps.take k) a c = true := by
              cases e : adjOf (ps.take k) a c with
              | true => rfl
              | false => exact absurd ⟨hx.1, hx.2, hy.1, hy.2, by show (a : Int) < (c : Int); omega, by simpa using e⟩ hedk.out
            rw [hA] at hadj
            have ha12 : (a : Int) < 12 := by omega
            have hc12 : (c : Int) < 12 := by omega
            have ha0 : ¬ (a : Int) < 0 := by omega
            have hc0 : ¬ (c : Int) < 0 := by omega
            clear hedk hA
            go_wp2_with (first
              | (go_at_call 80; (with_reducible refine qa.mono ?_); rintro e w5 ⟨rfl, he5⟩; rw [he5]; clear he5 w5)
              | (go_at_call 80; (with_reducible refine qc.mono ?_); rintro e w5 ⟨rfl, he5⟩; rw [he5]; clear he5 w5))
            refine bodyPost_ret (v := .tuple #[.pointer none, .bool false]) (by simp [results, Try.results69, go_sem]) rfl ?_
            exact ⟨rfl, hI2.out.2⟩
        · rw [decide_eq_false hy] at qc
          clear hedk
          go_wp2_with (first
            | (go_at_call 80; (with_reducible refine qa.mono ?_); rintro e w5 ⟨rfl, he5⟩; rw [he5]; clear he5 w5)
            | (go_at_call 80; (with_reducible refine qc.mono ?_); rintro e w5 ⟨rfl, he5⟩; rw [he5]; clear he5 w5))
          refine bodyPost_ret (v := .tuple #[.pointer none, .bool false]) (by simp [results, Try.results69, go_sem]) rfl ?_
          exact ⟨rfl, hI2.out.2⟩
      · rw [decide_eq_false hx] at qa
        clear hedk qc
        go_wp2_with (first
          | (go_at_call 80; (with_reducible refine qa.mono ?_); rintro e w5 ⟨rfl, he5⟩; rw [he5]; clear he5 w5))
        refine bodyPost_ret (v := .tuple #[.pointer none, .bool false]) (by simp [results, Try.results69, go_sem]) rfl ?_
        exact ⟨rfl, hI2.out.2⟩
theorem firstBad {P : Nat → Prop} : ∀ m, (∃ k, k < m ∧ ¬ P k) → ∃ k, k < m ∧ ¬ P k ∧ ∀ j, j < k → P j
  | 0, h => by obtain ⟨k, hk, _⟩ := h; omega
  | m + 1, h => by
    by_cases e : ∃ k, k < m ∧ ¬ P k
    · obtain ⟨k, h1, h2, h3⟩ := firstBad m e; exact ⟨k, by omega, h2, h3⟩
    · obtain ⟨k, h1, h2⟩ := h
      have hk : k = m := by
        rcases Nat.lt_or_ge k m with h' | h'
        · exact absurd ⟨k, h', h2⟩ e
        · omega
      subst hk
      refine ⟨k, by omega, h2, fun j hj => ?_⟩
      rcases Classical.em (P j) with h' | h'
      · exact h'
      · exact absurd ⟨j, hj, h'⟩ e
theorem readGraph_no {n : Int} {v : Value} {ps : Pts} {w : World} (hv : PairsOf w v ps) (hl : ps.length ≤ 200) (hno : ¬ GrOk n ps) :
    Calls Try.prog 69 #[.int .i64 n, v] w fun e w' => e = .returned (.tuple #[.pointer none, .bool false]) ∧ Below w.heap.size w w' := by
  by_cases h1 : n < 1
  · exact readGraph_n (.inl h1)
  · by_cases h2 : 12 < n
    · exact readGraph_n (.inr h2)
    · obtain ⟨m, rfl⟩ : ∃ m : Nat, n = m := ⟨n.toNat, by omega⟩
      have : ∃ k, k < ps.length ∧ ¬ EdgeOk m (ps.take k) (ps.getD k (0, 0)) := by
        rcases Classical.em (∃ k, k < ps.length ∧ ¬ EdgeOk m (ps.take k) (ps.getD k (0, 0))) with h | h
        · exact h
        · refine absurd ⟨by omega, by omega, fun k hk => ?_⟩ hno
          rcases Classical.em (EdgeOk m (ps.take k) (ps.getD k (0, 0))) with h' | h'
          · exact h'
          · exact absurd ⟨k, hk, h'⟩ h
      obtain ⟨k, h3, h4, h5⟩ := firstBad ps.length this
      exact readGraph_bad hv (by omega) (by omega) hl h3 h5 h4
end Go.Proofs.Yteekigpdiklppaa
set_option linter.unusedSimpArgs false
set_option linter.unusedVariables false
namespace Go.Proofs.Yteekigpdiklppaa
open Go Go.Proofs Go.RowKit Go.Seq
attribute [local go_sem] Oper.semAt_some
set_option maxHeartbeats 2000000 in
set_option maxRecDepth 100000 in
theorem readSet_bad {n : Nat} {v v2 : Value} {ps : Pts} {zs : List Int} {w : World} {k0 : Nat} (hv : PairsOf w v ps) (hok : GrOk n ps) (hl : ps.length ≤ 200) (hv2 : IntsO w v2 zs) (hl2 : zs.length ≤ 100) (hk0 : k0 < zs.length)
    (hed : ∀ k, k < k0 → 0 ≤ zs.getD k 0 ∧ zs.getD k 0 < n ∧ lastZ (zs.take k) < zs.getD k 0) (hbad : ¬ (0 ≤ zs.getD k0 0 ∧ zs.getD k0 0 < n ∧ lastZ (zs.take k0) < zs.getD k0 0)) :
    Calls Try.prog 57 #[.int .i64 n, v, v2] w fun e w' => e = .returned (.tuple #[.pointer none, setV (fun _ => false), .bool false]) ∧ Below w.heap.size w w' := by
  have hmx : Try.prog.follows .mixedOrders = true := by kernel_rfl
  obtain ⟨wa, hwa⟩ : ∃ wa, w.alloc (.cells (sc (fun _ => false)) 79) = wa := ⟨_, rfl⟩
  have ba : Below w.heap.size w wa := by rw [← hwa]; exact (Below.refl _ _).alloc (Nat.le_refl _) _
  have sa : wa.heap.size = w.heap.size + 1 := by rw [← hwa]; simp
  have fa : SetAt wa w.heap.size (fun _ => false) := by rw [← hwa]; exact SetAt.new _ _
  have q69 := readGraph_yes (pairsOf_below hv ba) hok hl
  obtain ⟨A, cap, rfl, hc⟩ := hv2
  have hck := Keep.mk hc
  have n12 := hok.n12
  have h5k := Keep.mk hed
  have hbk := Keep.mk hbad
  obtain ⟨m, hm⟩ : ∃ m, Keep (zs.length = m) := ⟨_, ⟨rfl⟩⟩
  rw [hm.out] at hl2 hck hk0 ⊢
  obtain ⟨adj, hadj⟩ : ∃ adj, adjOf ps = adj := ⟨_, rfl⟩
  rw [hadj] at q69
  have hfk := Keep.mk (And.intro fa ba)
  clear hv hc hok hed hbad fa ba hadj
  unfold setV
  unfold sc at hwa ⊢
  go_enter Try.func57, Try.ntmps57
  go_wp2_with (first
    | (go_at_call 69; (with_reducible refine q69.mono ?_); rintro e w5 ⟨rfl, hg5, hb5⟩
       obtain ⟨w6, hw6⟩ : ∃ w6, w5.alloc (.cells (sc (fun _ => false)) 79) = w6 := ⟨_, rfl⟩
       have hb6 : Below w5.heap.size w5 w6 := by rw [← hw6]; exact (Below.refl _ _).alloc (Nat.le_refl _) _
       have hf6 : SetAt w6 w5.heap.size (fun _ => false) := by rw [← hw6]; exact SetAt.new _ _
       have hz5 := hg5.lt
       have hI : Keep (RsI w (w.heap.size + 1) w5.heap.size n adj (setOf (zs.take 0)) (fun _ => false) w6) := ⟨⟨by rw [← sa]; exact hg5.below hb6 hg5.lt, (hfk.out.1.after hb5).after hb6, by rw [show setOf (zs.take 0) = fun _ => false by funext j; simp [setOf]]; exact hf6, hfk.out.2.trans ((hb5.trans (hb6.mono hb5.size)).mono hfk.out.2.size), by omega, by omega, by omega⟩⟩
       clear hg5 hb5 hb6 hf6
       unfold sc at hw6))
  try rw [hw6]
  clear hw6 q69
  go_loopw [26, 12] (fun i bf wr => ∃ k : Nat, k ≤ k0 ∧ i = .int .i64 k ∧ bf = .int .i64 (lastZ (zs.take k)) ∧ Keep (RsI w (w.heap.size + 1) w5.heap.size n adj (setOf (zs.take k)) (fun _ => false) wr)) (fun i _ _ => m - (intOf i).toNat)
  case atStart => exact ⟨0, by omega, rfl, by simp [lastZ], hI⟩
  case round =>
    obtain ⟨k, hk, rfl, rfl, hI⟩ := hrel
    have hw1 : IntKind.i64.wrap ((k : Int) + 1) = (k : Int) + 1 := IntWalk.i64_in _ (by omega)
    by_cases hlt : k < k0
    · have hlt' : (k : Int) < (m : Int) := by omega
      obtain ⟨g, o, rfl, c0⟩ := hck.out k (by omega)
      have c0 := cell_below c0 hI.out.bw
      obtain ⟨e1, e2, e3⟩ := h5k.out k hlt
      have hpush := takez (zs := zs) (k := k) (by rw [hm.out]; omega)
      generalize zs.getD k 0 = z at c0 e1 e2 e3 hpush
      obtain ⟨u, hu⟩ : ∃ u : Nat, (u : Int) = z := ⟨z.toNat, by omega⟩
      subst hu
      have hu12 : (u : Int) < 12 := by omega
      have hu0 : ¬ (u : Int) < 0 := by omega
      have hlst : lastZ (zs.take (k + 1)) = (u : Int) := by rw [hpush]; simp [lastZ]
      obtain ⟨bz, hbz⟩ : ∃ bz, lastZ (zs.take k) = bz := ⟨_, rfl⟩
      rw [hbz] at e3
      have hle : ¬ (u : Int) ≤ bz := by omega
      have hI2 := hI.out.put (u := u) (s' := setOf (zs.take (k + 1))) (by omega) (by rw [hpush, setOf_push]; simp) (fun j _ hj => by rw [hpush, setOf_push]; simp [hj])
      obtain ⟨cu, fu⟩ := hI.out.s11.cell (k := u) (by omega)
      have qa := has_any hI.out.gr.at (u : Int)
      rw [decide_eq_true (by omega)] at qa
      have hI2k := Keep.mk hI2
      have hpk := Keep.mk (And.intro hlst hpush)
      rw [hbz]
      clear hI2 hI hlst hpush hbz
      go_wp2_with (first
        | (go_at_call 80; (with_reducible refine qa.mono ?_); rintro e w7 ⟨rfl, he7⟩; rw [he7]; clear he7 w7))
      exact ⟨⟨k + 1, by omega, by go_num, by rw [hpk.out.1], hI2k⟩, by simp [intOf]; omega⟩
    · obtain rfl : k = k0 := by omega
      have hlt' : (k : Int) < (m : Int) := by omega
      obtain ⟨g, o, rfl, c0⟩ := hck.out k (by omega)
      have c0 := cell_below c0 hI.out.bw
      have hed := hbk.out
      generalize zs.getD k 0 = z at c0 hed
      obtain ⟨bz, hbz⟩ : ∃ bz, lastZ (zs.take k) = bz := ⟨_, rfl⟩
      rw [hbz] at hed ⊢
      have qa := has_any hI.out.gr.at z
      by_cases hz : 0 ≤ z ∧ z < (n : Int)
      · rw [decide_eq_true hz] at qa
        have hle : z ≤ bz := by
          rcases Int.lt_or_le bz z with h' | h'
          · exact absurd ⟨hz.1, hz.2, h'⟩ hed
          · exact h'
        clear hed hbz
        obtain ⟨x0, x1, x2, x3, x4, x5, x6, x7, x8, x9, x10, x11⟩ := hI.out.t7.c12
        obtain ⟨f0, f1, f2, f3, f4, f5, f6, f7, f8, f9, f10, f11⟩ := hI.out.t7.f12
        have hn := (Keep.mk (hI.out.res (fun _ => false)))
        obtain ⟨V9, hV9⟩ : ∃ V9, st12 wr w.heap.size (fun _ => false) = V9 := ⟨_, rfl⟩
        rw [hV9] at hn
        obtain ⟨y0, y1, y2, y3, y4, y5, y6, y7, y8, y9, y10, y11⟩ := hn.out.t7.c12
        clear hI
        unfold st12 at hV9
        go_wp2_with (first
          | (go_at_call 80; (with_reducible refine qa.mono ?_); rintro e w7 ⟨rfl, he7⟩; rw [he7]; clear he7 w7))
        try rw [hV9]
        refine bodyPost_ret (v := .tuple #[.pointer none, .agg #[.bool false, .bool false, .bool false, .bool false, .bool false, .bool false, .bool false, .bool false, .bool false, .bool false, .bool false, .bool false], .bool false]) (by simp [results, Try.results57, go_sem]; try go_simp) rfl ?_
        exact ⟨rfl, hn.out.bw⟩
      · rw [decide_eq_false hz] at qa
        clear hed hbz
        obtain ⟨x0, x1, x2, x3, x4, x5, x6, x7, x8, x9, x10, x11⟩ := hI.out.t7.c12
        obtain ⟨f0, f1, f2, f3, f4, f5, f6, f7, f8, f9, f10, f11⟩ := hI.out.t7.f12
        have hn := (Keep.mk (hI.out.res (fun _ => false)))
        obtain ⟨V9, hV9⟩ : ∃ V9, st12 wr w.heap.size (fun _ => false) = V9 := ⟨_, rfl⟩
        rw [hV9] at hn
        obtain ⟨y0, y1, y2, y3, y4, y5, y6, y7, y8, y9, y10, y11⟩ := hn.out.t7.c12
        clear hI
        unfold st12 at hV9
        go_wp2_with (first
          | (go_at_call 80; (with_reducible refine qa.mono ?_); rintro e w7 ⟨rfl, he7⟩; rw [he7]; clear he7 w7))
        try rw [hV9]
        refine bodyPost_ret (v := .tuple #[.pointer none, .agg #[.bool false, .bool false, .bool false, .bool false, .bool false, .bool false, .bool false, .bool false, .bool false, .bool false, .bool false, .bool false], .bool false]) (by simp [results, Try.results57, go_sem]; try go_simp) rfl ?_
        exact ⟨rfl, hn.out.bw⟩
set_option maxHeartbeats 2000000 in
set_option maxRecDepth 100000 in
theorem readSet_graph {n : Int} {v v2 : Value} {ps : Pts} {w : World} (hv : PairsOf w v ps) (hl : ps.length ≤ 200) (hno : ¬ GrOk n ps) :
    Calls Try.prog 57 #[.int .i64 n, v, v2] w fun e w' => e = .returned (.tuple #[.pointer none, setV (fun _ => false), .bool false]) ∧ Below w.heap.size w w' := by
  obtain ⟨wa, hwa⟩ : ∃ wa, w.alloc (.cells (sc (fun _ => false)) 79) = wa := ⟨_, rfl⟩
  have ba : Below w.heap.size w wa := by rw [← hwa]; exact (Below.refl _ _).alloc (Nat.le_refl _) _
  have sa : wa.heap.size = w.heap.size + 1 := by rw [← hwa]; simp
  have fa : SetAt wa w.heap.size (fun _ => false) := by rw [← hwa]; exact SetAt.new _ _
  have q69 := readGraph_no (pairsOf_below hv ba) hl hno
  have hfk := Keep.mk (And.intro fa (And.intro ba sa))
  clear hv hno fa ba sa
  unfold setV
  unfold sc at hwa ⊢
  go_enter Try.func57, Try.ntmps57
  go_wp2_with (first
    | (go_at_call 69; (with_reducible refine q69.mono ?_); rintro e w5 ⟨rfl, hb5⟩
       have f7 := hfk.out.1.after hb5
       have b7 := hfk.out.2.1.trans (hb5.mono (by rw [hfk.out.2.2]; omega))
       obtain ⟨x0, x1, x2, x3, x4, x5, x6, x7, x8, x9, x10, x11⟩ := f7.c12
       obtain ⟨f0, f1, f2, f3, f4, f5, f6, f7', f8, f9, f10, f11⟩ := f7.f12
       have hn := Keep.mk (And.intro (st12_set (F := fun _ => false) f7) (st12_below (F := fun _ => false) b7 (Nat.le_refl _)))
       obtain ⟨V9, hV9⟩ : ∃ V9, st12 w5 w.heap.size (fun _ => false) = V9 := ⟨_, rfl⟩
       rw [hV9] at hn
       obtain ⟨y0, y1, y2, y3, y4, y5, y6, y7, y8, y9, y10, y11⟩ := hn.out.1.c12
       clear hb5 f7 b7 q69
       unfold st12 at hV9))
  try rw [hV9]
  refine bodyPost_ret (v := .tuple #[.pointer none, .agg #[.bool false, .bool false, .bool false, .bool false, .bool false, .bool false, .bool false, .bool false, .bool false, .bool false, .bool false, .bool false], .bool false]) (by simp [results, Try.results57, go_sem]; try go_simp) rfl ?_
  exact ⟨rfl, hn.out.2⟩
theorem readSet_no {n : Int} {v v2 : Value} {ps : Pts} {zs : List Int} {w : World} (hv : PairsOf w v ps) (hl : ps.length ≤ 200) (hv2 : IntsO w v2 zs) (hl2 : zs.length ≤ 100) (hno : ¬ (GrOk n ps ∧ ListOk n zs)) :
    Calls Try.prog 57 #[.int .i64 n, v, v2] w fun e w' => e = .returned (.tuple #[.pointer none, setV (fun _ => false), .bool false]) ∧ Below w.heap.size w w' := by
  by_cases h1 : GrOk n ps
  · obtain ⟨m, rfl⟩ : ∃ m : Nat, n = m := ⟨n.toNat, by have := h1.n1; omega⟩
    have : ∃ k, k < zs.length ∧ ¬ (0 ≤ zs.getD k 0 ∧ zs.getD k 0 < m ∧ lastZ (zs.take k) < zs.getD k 0) := by
      rcases Classical.em (∃ k, k < zs.length ∧ ¬ (0 ≤ zs.getD k 0 ∧ zs.getD k 0 < m ∧ lastZ (zs.take k) < zs.getD k 0)) with h | h
      · exact h
      · refine absurd ⟨h1, ⟨fun k hk => ?_⟩⟩ hno
        rcases Classical.em (0 ≤ zs.getD k 0 ∧ zs.getD k 0 < m ∧ lastZ (zs.take k) < zs.getD k 0) with h' | h'
        · exact h'
        · exact absurd ⟨k, hk, h'⟩ h
    obtain ⟨k, h3, h4, h5⟩ := firstBad zs.length this
    exact readSet_bad hv h1 hl hv2 hl2 h3 h5 h4
  · exact readSet_graph hv hl h1
end Go.Proofs.Yteekigpdiklppaa
set_option linter.unusedSimpArgs false
set_option linter.unusedVariables false
namespace Go.Proofs.Yteekigpdiklppaa
open Go Go.Proofs Go.RowKit Go.Seq
attribute [local go_sem] Oper.semAt_some
set_option maxRecDepth 100000 in
theorem Close_no {n : Int} {v v2 : Value} {ps : Pts} {zs : List Int} {w : World} (hv : PairsOf w v ps) (hl : ps.length ≤ 200) (hv2 : IntsO w v2 zs) (hl2 : zs.length ≤ 100) (hno : ¬ (GrOk n ps ∧ ListOk n zs)) :
    Calls Try.prog 19 #[.int .i64 n, v, v2] w fun e w' => e = .returned (.tuple #[.slice none 0 0, .int .i64 0, .int .i64 2]) ∧ Below w.heap.size w w' := by
  have q57 := readSet_no hv hl hv2 hl2 hno
  clear hv hv2 hno
  unfold setV sc at q57
  go_enter Try.func19, Try.ntmps19
  go_wp2_with (first
    | (go_at_call 57; (with_reducible refine q57.mono ?_); rintro e w5 ⟨rfl, hb5⟩
       obtain ⟨w6, hw6⟩ : ∃ w6, w5.alloc (.cells (sc (fun _ => false)) 79) = w6 := ⟨_, rfl⟩
       have hb6 : Below w5.heap.size w5 w6 := by rw [← hw6]; exact (Below.refl _ _).alloc (Nat.le_refl _) _
       have hf6 : SetAt w6 w5.heap.size (fun _ => false) := by rw [← hw6]; exact SetAt.new _ _
       obtain ⟨x0, x1, x2, x3, x4, x5, x6, x7, x8, x9, x10, x11⟩ := hf6.c12
       obtain ⟨f0, f1, f2, f3, f4, f5, f6, f7, f8, f9, f10, f11⟩ := hf6.f12
       obtain ⟨V9, hV9⟩ : ∃ V9, st12 w6 w5.heap.size (fun _ => false) = V9 := ⟨_, rfl⟩
       have hb9 : Below w5.heap.size w5 V9 := by rw [← hV9]; exact st12_below hb6 (Nat.le_refl _)
       have hbk := Keep.mk (hb5.trans (hb9.mono hb5.size))
       clear hb5 hb6 hf6 hb9
       unfold sc at hw6
       unfold st12 at hV9))
  try rw [hV9]
  refine bodyPost_ret (v := .tuple #[.slice none 0 0, .int .i64 0, .int .i64 2]) (by simp [results, Try.results19, go_sem]) rfl ?_
  exact ⟨rfl, hbk.out⟩
set_option maxRecDepth 100000 in
theorem Rounds_no {n : Int} {v v2 : Value} {ps : Pts} {zs : List Int} {w : World} (hv : PairsOf w v ps) (hl : ps.length ≤ 200) (hv2 : IntsO w v2 zs) (hl2 : zs.length ≤ 100) (hno : ¬ (GrOk n ps ∧ ListOk n zs)) :
    Calls Try.prog 20 #[.int .i64 n, v, v2] w fun e w' => e = .returned (.tuple #[.slice none 0 0, .int .i64 2]) ∧ Below w.heap.size w w' := by
  have q57 := readSet_no hv hl hv2 hl2 hno
  clear hv hv2 hno
  unfold setV sc at q57
  go_enter Try.func20, Try.ntmps20
  go_wp2_with (first
    | (go_at_call 57; (with_reducible refine q57.mono ?_); rintro e w5 ⟨rfl, hb5⟩
       obtain ⟨w6, hw6⟩ : ∃ w6, w5.alloc (.cells (sc (fun _ => false)) 79) = w6 := ⟨_, rfl⟩
       have hb6 : Below w5.heap.size w5 w6 := by rw [← hw6]; exact (Below.refl _ _).alloc (Nat.le_refl _) _
       have hf6 : SetAt w6 w5.heap.size (fun _ => false) := by rw [← hw6]; exact SetAt.new _ _
       obtain ⟨x0, x1, x2, x3, x4, x5, x6, x7, x8, x9, x10, x11⟩ := hf6.c12
       obtain ⟨f0, f1, f2, f3, f4, f5, f6, f7, f8, f9, f10, f11⟩ := hf6.f12
       obtain ⟨V9, hV9⟩ : ∃ V9, st12 w6 w5.heap.size (fun _ => false) = V9 := ⟨_, rfl⟩
       have hb9 : Below w5.heap.size w5 V9 := by rw [← hV9]; exact st12_below hb6 (Nat.le_refl _)
       have hbk := Keep.mk (hb5.trans (hb9.mono hb5.size))
       clear hb5 hb6 hf6 hb9
       unfold sc at hw6
       unfold st12 at hV9))
  try rw [hV9]
  refine bodyPost_ret (v := .tuple #[.slice none 0 0, .int .i64 2]) (by simp [results, Try.results20, go_sem]) rfl ?_
  exact ⟨rfl, hbk.out⟩
set_option maxRecDepth 100000 in
theorem Fort_no {n : Int} {v v2 : Value} {ps : Pts} {zs : List Int} {w : World} (hv : PairsOf w v ps) (hl : ps.length ≤ 200) (hv2 : IntsO w v2 zs) (hl2 : zs.length ≤ 100) (hno : ¬ (GrOk n ps ∧ ListOk n zs)) :
    Calls Try.prog 21 #[.int .i64 n, v, v2] w fun e w' => e = .returned (.tuple #[.slice none 0 0, .int .i64 2]) ∧ Below w.heap.size w w' := by
  have q57 := readSet_no hv hl hv2 hl2 hno
  clear hv hv2 hno
  unfold setV sc at q57
  go_enter Try.func21, Try.ntmps21
  go_wp2_with (first
    | (go_at_call 57; (with_reducible refine q57.mono ?_); rintro e w5 ⟨rfl, hb5⟩
       obtain ⟨w6, hw6⟩ : ∃ w6, w5.alloc (.cells (sc (fun _ => false)) 79) = w6 := ⟨_, rfl⟩
       have hb6 : Below w5.heap.size w5 w6 := by rw [← hw6]; exact (Below.refl _ _).alloc (Nat.le_refl _) _
       have hf6 : SetAt w6 w5.heap.size (fun _ => false) := by rw [← hw6]; exact SetAt.new _ _
       obtain ⟨x0, x1, x2, x3, x4, x5, x6, x7, x8, x9, x10, x11⟩ := hf6.c12
       obtain ⟨f0, f1, f2, f3, f4, f5, f6, f7, f8, f9, f10, f11⟩ := hf6.f12
       obtain ⟨V9, hV9⟩ : ∃ V9, st12 w6 w5.heap.size (fun _ => false) = V9 := ⟨_, rfl⟩
       have hb9 : Below w5.heap.size w5 V9 := by rw [← hV9]; exact st12_below hb6 (Nat.le_refl _)
       have hbk := Keep.mk (hb5.trans (hb9.mono hb5.size))
       clear hb5 hb6 hf6 hb9
       unfold sc at hw6
       unfold st12 at hV9))
  try rw [hV9]
  refine bodyPost_ret (v := .tuple #[.slice none 0 0, .int .i64 2]) (by simp [results, Try.results21, go_sem]) rfl ?_
  exact ⟨rfl, hbk.out⟩
set_option maxRecDepth 100000 in
theorem Soak_no {r : Int} {n : Int} {v v2 : Value} {ps : Pts} {zs : List Int} {w : World} (hv : PairsOf w v ps) (hl : ps.length ≤ 200) (hv2 : IntsO w v2 zs) (hl2 : zs.length ≤ 100) (hno : ¬ (GrOk n ps ∧ ListOk n zs)) :
    Calls Try.prog 30 #[.int .i64 n, v, v2, .int .i64 r] w fun e w' => e = .returned (.tuple #[.slice none 0 0, .int .i64 0, .int .i64 2]) ∧ Below w.heap.size w w' := by
  have q57 := readSet_no hv hl hv2 hl2 hno
  clear hv hv2 hno
  unfold setV sc at q57
  go_enter Try.func30, Try.ntmps30
  go_wp2_with (first
    | (go_at_call 57; (with_reducible refine q57.mono ?_); rintro e w5 ⟨rfl, hb5⟩
       obtain ⟨w6, hw6⟩ : ∃ w6, w5.alloc (.cells (sc (fun _ => false)) 79) = w6 := ⟨_, rfl⟩
       have hb6 : Below w5.heap.size w5 w6 := by rw [← hw6]; exact (Below.refl _ _).alloc (Nat.le_refl _) _
       have hf6 : SetAt w6 w5.heap.size (fun _ => false) := by rw [← hw6]; exact SetAt.new _ _
       obtain ⟨x0, x1, x2, x3, x4, x5, x6, x7, x8, x9, x10, x11⟩ := hf6.c12
       obtain ⟨f0, f1, f2, f3, f4, f5, f6, f7, f8, f9, f10, f11⟩ := hf6.f12
       obtain ⟨V9, hV9⟩ : ∃ V9, st12 w6 w5.heap.size (fun _ => false) = V9 := ⟨_, rfl⟩
       have hb9 : Below w5.heap.size w5 V9 := by rw [← hV9]; exact st12_below hb6 (Nat.le_refl _)
       have hbk := Keep.mk (hb5.trans (hb9.mono hb5.size))
       clear hb5 hb6 hf6 hb9
       unfold sc at hw6
       unfold st12 at hV9))
  try rw [hV9]
  refine bodyPost_ret (v := .tuple #[.slice none 0 0, .int .i64 0, .int .i64 2]) (by simp [results, Try.results30, go_sem]) rfl ?_
  exact ⟨rfl, hbk.out⟩
set_option maxRecDepth 100000 in
theorem Soak_nor {r : Int} {n : Nat} {v v2 : Value} {ps : Pts} {zs : List Int} {w : World} (hv : PairsOf w v ps) (hok : GrOk n ps) (hl : ps.length ≤ 200) (hv2 : IntsO w v2 zs) (hzk : ListOk n zs) (hl2 : zs.length ≤ 100) (hno : ¬ (1 ≤ r ∧ r ≤ 6)) :
    Calls Try.prog 30 #[.int .i64 n, v, v2, .int .i64 r] w fun e w' => e = .returned (.tuple #[.slice none 0 0, .int .i64 0, .int .i64 2]) ∧ Below w.heap.size w w' := by
  have q57 := readSet_yes hv hok hl hv2 hzk hl2
  obtain ⟨S, hS⟩ : ∃ S, setOf zs = S := ⟨_, rfl⟩
  rw [hS] at q57
  have q66 := threshold_any r
  rw [decide_eq_false hno] at q66
  clear hS hv hv2 hno
  unfold setV sc at q57
  go_enter Try.func30, Try.ntmps30
  go_wp2_with (first
    | (go_at_call 57; (with_reducible refine q57.mono ?_); rintro e w5 ⟨g, rfl, hg5, hgl, hb5⟩
       obtain ⟨w6, hw6⟩ : ∃ w6, w5.alloc (.cells (sc S) 79) = w6 := ⟨_, rfl⟩
       have hb6 : Below w5.heap.size w5 w6 := by rw [← hw6]; exact (Below.refl _ _).alloc (Nat.le_refl _) _
       have hbk := Keep.mk (hb5.trans (hb6.mono hb5.size))
       clear hb5 hb6 hg5
       unfold sc at hw6)
    | (go_at_call 66; (with_reducible refine (q66 _).mono ?_); rintro e w7 ⟨rfl, he7⟩; rw [he7]; clear he7 w7))
  try rw [hw6]
  refine bodyPost_ret (v := .tuple #[.slice none 0 0, .int .i64 0, .int .i64 2]) (by simp [results, Try.results30, go_sem]) rfl ?_
  exact ⟨rfl, hbk.out⟩
set_option maxRecDepth 100000 in
theorem Shelter_no {r : Int} {n : Int} {v v2 : Value} {ps : Pts} {zs : List Int} {w : World} (hv : PairsOf w v ps) (hl : ps.length ≤ 200) (hv2 : IntsO w v2 zs) (hl2 : zs.length ≤ 100) (hno : ¬ (GrOk n ps ∧ ListOk n zs)) :
    Calls Try.prog 31 #[.int .i64 n, v, v2, .int .i64 r] w fun e w' => e = .returned (.tuple #[.slice none 0 0, .int .i64 2]) ∧ Below w.heap.size w w' := by
  have q57 := readSet_no hv hl hv2 hl2 hno
  clear hv hv2 hno
  unfold setV sc at q57
  go_enter Try.func31, Try.ntmps31
  go_wp2_with (first
    | (go_at_call 57; (with_reducible refine q57.mono ?_); rintro e w5 ⟨rfl, hb5⟩
       obtain ⟨w6, hw6⟩ : ∃ w6, w5.alloc (.cells (sc (fun _ => false)) 79) = w6 := ⟨_, rfl⟩
       have hb6 : Below w5.heap.size w5 w6 := by rw [← hw6]; exact (Below.refl _ _).alloc (Nat.le_refl _) _
       have hf6 : SetAt w6 w5.heap.size (fun _ => false) := by rw [← hw6]; exact SetAt.new _ _
       obtain ⟨x0, x1, x2, x3, x4, x5, x6, x7, x8, x9, x10, x11⟩ := hf6.c12
       obtain ⟨f0, f1, f2, f3, f4, f5, f6, f7, f8, f9, f10, f11⟩ := hf6.f12
       obtain ⟨V9, hV9⟩ : ∃ V9, st12 w6 w5.heap.size (fun _ => false) = V9 := ⟨_, rfl⟩
       have hb9 : Below w5.heap.size w5 V9 := by rw [← hV9]; exact st12_below hb6 (Nat.le_refl _)
       have hbk := Keep.mk (hb5.trans (hb9.mono hb5.size))
       clear hb5 hb6 hf6 hb9
       unfold sc at hw6
       unfold st12 at hV9))
  try rw [hV9]
  refine bodyPost_ret (v := .tuple #[.slice none 0 0, .int .i64 2]) (by simp [results, Try.results31, go_sem]) rfl ?_
  exact ⟨rfl, hbk.out⟩
set_option maxRecDepth 100000 in
theorem Shelter_nor {r : Int} {n : Nat} {v v2 : Value} {ps : Pts} {zs : List Int} {w : World} (hv : PairsOf w v ps) (hok : GrOk n ps) (hl : ps.length ≤ 200) (hv2 : IntsO w v2 zs) (hzk : ListOk n zs) (hl2 : zs.length ≤ 100) (hno : ¬ (1 ≤ r ∧ r ≤ 6)) :
    Calls Try.prog 31 #[.int .i64 n, v, v2, .int .i64 r] w fun e w' => e = .returned (.tuple #[.slice none 0 0, .int .i64 2]) ∧ Below w.heap.size w w' := by
  have q57 := readSet_yes hv hok hl hv2 hzk hl2
  obtain ⟨S, hS⟩ : ∃ S, setOf zs = S := ⟨_, rfl⟩
  rw [hS] at q57
  have q66 := threshold_any r
  rw [decide_eq_false hno] at q66
  clear hS hv hv2 hno
  unfold setV sc at q57
  go_enter Try.func31, Try.ntmps31
  go_wp2_with (first
    | (go_at_call 57; (with_reducible refine q57.mono ?_); rintro e w5 ⟨g, rfl, hg5, hgl, hb5⟩
       obtain ⟨w6, hw6⟩ : ∃ w6, w5.alloc (.cells (sc S) 79) = w6 := ⟨_, rfl⟩
       have hb6 : Below w5.heap.size w5 w6 := by rw [← hw6]; exact (Below.refl _ _).alloc (Nat.le_refl _) _
       have hbk := Keep.mk (hb5.trans (hb6.mono hb5.size))
       clear hb5 hb6 hg5
       unfold sc at hw6)
    | (go_at_call 66; (with_reducible refine (q66 _).mono ?_); rintro e w7 ⟨rfl, he7⟩; rw [he7]; clear he7 w7))
  try rw [hw6]
  refine bodyPost_ret (v := .tuple #[.slice none 0 0, .int .i64 2]) (by simp [results, Try.results31, go_sem]) rfl ?_
  exact ⟨rfl, hbk.out⟩
set_option maxRecDepth 100000 in
theorem Chronicle_no {n : Int} {v v2 : Value} {ps : Pts} {zs : List Int} {w : World} (hv : PairsOf w v ps) (hl : ps.length ≤ 200) (hv2 : IntsO w v2 zs) (hl2 : zs.length ≤ 100) (hno : ¬ (GrOk n ps ∧ ListOk n zs)) :
    Calls Try.prog 43 #[.int .i64 n, v, v2] w fun e w' => e = .returned (.tuple #[.slice none 0 0, .int .i64 2]) ∧ Below w.heap.size w w' := by
  have q57 := readSet_no hv hl hv2 hl2 hno
  clear hv hv2 hno
  unfold setV sc at q57
  go_enter Try.func43, Try.ntmps43
  go_wp2_with (first
    | (go_at_call 57; (with_reducible refine q57.mono ?_); rintro e w5 ⟨rfl, hb5⟩
       obtain ⟨w6, hw6⟩ : ∃ w6, w5.alloc (.cells (sc (fun _ => false)) 79) = w6 := ⟨_, rfl⟩
       have hb6 : Below w5.heap.size w5 w6 := by rw [← hw6]; exact (Below.refl _ _).alloc (Nat.le_refl _) _
       have hf6 : SetAt w6 w5.heap.size (fun _ => false) := by rw [← hw6]; exact SetAt.new _ _
       obtain ⟨x0, x1, x2, x3, x4, x5, x6, x7, x8, x9, x10, x11⟩ := hf6.c12
       obtain ⟨f0, f1, f2, f3, f4, f5, f6, f7, f8, f9, f10, f11⟩ := hf6.f12
       obtain ⟨V9, hV9⟩ : ∃ V9, st12 w6 w5.heap.size (fun _ => false) = V9 := ⟨_, rfl⟩
       have hb9 : Below w5.heap.size w5 V9 := by rw [← hV9]; exact st12_below hb6 (Nat.le_refl _)
       have hbk := Keep.mk (hb5.trans (hb9.mono hb5.size))
       clear hb5 hb6 hf6 hb9
       unfold sc at hw6
       unfold st12 at hV9))
  try rw [hV9]
  refine bodyPost_ret (v := .tuple #[.slice none 0 0, .int .i64 2]) (by simp [results, Try.results43, go_sem]) rfl ?_
  exact ⟨rfl, hbk.out⟩
set_option maxRecDepth 100000 in
theorem Chains_no {n : Int} {v v2 : Value} {ps : Pts} {zs : List Int} {w : World} (hv : PairsOf w v ps) (hl : ps.length ≤ 200) (hv2 : IntsO w v2 zs) (hl2 : zs.length ≤ 100) (hno : ¬ (GrOk n ps ∧ ListOk n zs)) :
    Calls Try.prog 44 #[.int .i64 n, v, v2] w fun e w' => e = .returned (.tuple #[.slice none 0 0, .int .i64 2]) ∧ Below w.heap.size w w' := by
  have q57 := readSet_no hv hl hv2 hl2 hno
  clear hv hv2 hno
  unfold setV sc at q57
  go_enter Try.func44, Try.ntmps44
  go_wp2_with (first
    | (go_at_call 57; (with_reducible refine q57.mono ?_); rintro e w5 ⟨rfl, hb5⟩
       obtain ⟨w6, hw6⟩ : ∃ w6, w5.alloc (.cells (sc (fun _ => false)) 79) = w6 := ⟨_, rfl⟩
       have hb6 : Below w5.heap.size w5 w6 := by rw [← hw6]; exact (Below.refl _ _).alloc (Nat.le_refl _) _
       have hf6 : SetAt w6 w5.heap.size (fun _ => false) := by rw [← hw6]; exact SetAt.new _ _
       obtain ⟨x0, x1, x2, x3, x4, x5, x6, x7, x8, x9, x10, x11⟩ := hf6.c12
       obtain ⟨f0, f1, f2, f3, f4, f5, f6, f7, f8, f9, f10, f11⟩ := hf6.f12
       obtain ⟨V9, hV9⟩ : ∃ V9, st12 w6 w5.heap.size (fun _ => false) = V9 := ⟨_, rfl⟩
       have hb9 : Below w5.heap.size w5 V9 := by rw [← hV9]; exact st12_below hb6 (Nat.le_refl _)
       have hbk := Keep.mk (hb5.trans (hb9.mono hb5.size))
       clear hb5 hb6 hf6 hb9
       unfold sc at hw6
       unfold st12 at hV9))
  try rw [hV9]
  refine bodyPost_ret (v := .tuple #[.slice none 0 0, .int .i64 2]) (by simp [results, Try.results44, go_sem]) rfl ?_
  exact ⟨rfl, hbk.out⟩
set_option maxRecDepth 100000 in
theorem IsFort_no {n : Int} {v v2 : Value} {ps : Pts} {zs : List Int} {w : World} (hv : PairsOf w v ps) (hl : ps.length ≤ 200) (hv2 : IntsO w v2 zs) (hl2 : zs.length ≤ 100) (hno : ¬ (GrOk n ps ∧ ListOk n zs)) :
    Calls Try.prog 45 #[.int .i64 n, v, v2] w fun e w' => e = .returned (.tuple #[.bool false, .int .i64 2]) ∧ Below w.heap.size w w' := by
  have q57 := readSet_no hv hl hv2 hl2 hno
  clear hv hv2 hno
  unfold setV sc at q57
  go_enter Try.func45, Try.ntmps45
  go_wp2_with (first
    | (go_at_call 57; (with_reducible refine q57.mono ?_); rintro e w5 ⟨rfl, hb5⟩
       obtain ⟨w6, hw6⟩ : ∃ w6, w5.alloc (.cells (sc (fun _ => false)) 79) = w6 := ⟨_, rfl⟩
       have hb6 : Below w5.heap.size w5 w6 := by rw [← hw6]; exact (Below.refl _ _).alloc (Nat.le_refl _) _
       have hf6 : SetAt w6 w5.heap.size (fun _ => false) := by rw [← hw6]; exact SetAt.new _ _
       obtain ⟨x0, x1, x2, x3, x4, x5, x6, x7, x8, x9, x10, x11⟩ := hf6.c12
       obtain ⟨f0, f1, f2, f3, f4, f5, f6, f7, f8, f9, f10, f11⟩ := hf6.f12
       obtain ⟨V9, hV9⟩ : ∃ V9, st12 w6 w5.heap.size (fun _ => false) = V9 := ⟨_, rfl⟩
       have hb9 : Below w5.heap.size w5 V9 := by rw [← hV9]; exact st12_below hb6 (Nat.le_refl _)
       have hbk := Keep.mk (hb5.trans (hb9.mono hb5.size))
       clear hb5 hb6 hf6 hb9
       unfold sc at hw6
       unfold st12 at hV9))
  try rw [hV9]
  refine bodyPost_ret (v := .tuple #[.bool false, .int .i64 2]) (by simp [results, Try.results45, go_sem]) rfl ?_
  exact ⟨rfl, hbk.out⟩
set_option maxRecDepth 100000 in
theorem Check_no {x : Value} {n : Int} {v v2 : Value} {ps : Pts} {zs : List Int} {w : World} (hv : PairsOf w v ps) (hl : ps.length ≤ 200) (hv2 : IntsO w v2 zs) (hl2 : zs.length ≤ 100) (hno : ¬ (GrOk n ps ∧ ListOk n zs)) :
    Calls Try.prog 49 #[.int .i64 n, v, v2, x] w fun e w' => e = .returned (.int .i64 2) ∧ Below w.heap.size w w' := by
  have q57 := readSet_no hv hl hv2 hl2 hno
  clear hv hv2 hno
  unfold setV sc at q57
  go_enter Try.func49, Try.ntmps49
  go_wp2_with (first
    | (go_at_call 57; (with_reducible refine q57.mono ?_); rintro e w5 ⟨rfl, hb5⟩
       obtain ⟨w6, hw6⟩ : ∃ w6, w5.alloc (.cells (sc (fun _ => false)) 79) = w6 := ⟨_, rfl⟩
       have hb6 : Below w5.heap.size w5 w6 := by rw [← hw6]; exact (Below.refl _ _).alloc (Nat.le_refl _) _
       have hf6 : SetAt w6 w5.heap.size (fun _ => false) := by rw [← hw6]; exact SetAt.new _ _
       obtain ⟨x0, x1, x2, x3, x4, x5, x6, x7, x8, x9, x10, x11⟩ := hf6.c12
       obtain ⟨f0, f1, f2, f3, f4, f5, f6, f7, f8, f9, f10, f11⟩ := hf6.f12
       obtain ⟨V9, hV9⟩ : ∃ V9, st12 w6 w5.heap.size (fun _ => false) = V9 := ⟨_, rfl⟩
       have hb9 : Below w5.heap.size w5 V9 := by rw [← hV9]; exact st12_below hb6 (Nat.le_refl _)
       have hbk := Keep.mk (hb5.trans (hb9.mono hb5.size))
       clear hb5 hb6 hf6 hb9
       unfold sc at hw6
       unfold st12 at hV9))
  try rw [hV9]
  refine bodyPost_ret (v := .int .i64 2) (by simp [results, Try.results49, go_sem]) rfl ?_
  exact ⟨rfl, hbk.out⟩
set_option maxRecDepth 100000 in
theorem Least_no {n : Int} {v : Value} {ps : Pts} {w : World} (hv : PairsOf w v ps) (hl : ps.length ≤ 200) (hno : ¬ GrOk n ps) :
    Calls Try.prog 34 #[.int .i64 n, v] w fun e w' => e = .returned (.tuple #[.slice none 0 0, .int .i64 2]) ∧ Below w.heap.size w w' := by
  have q69 := readGraph_no hv hl hno
  clear hv hno
  go_enter Try.func34, Try.ntmps34
  go_wp2_with (first
    | (go_at_call 69; (with_reducible refine q69.mono ?_); rintro e w5 ⟨rfl, hb5⟩
       have hbk := Keep.mk hb5
       clear hb5))
  refine bodyPost_ret (v := .tuple #[.slice none 0 0, .int .i64 2]) (by simp [results, Try.results34, go_sem]) rfl ?_
  exact ⟨rfl, hbk.out⟩
set_option maxRecDepth 100000 in
theorem Forts_no {n : Int} {v : Value} {ps : Pts} {w : World} (hv : PairsOf w v ps) (hl : ps.length ≤ 200) (hno : ¬ GrOk n ps) :
    Calls Try.prog 35 #[.int .i64 n, v] w fun e w' => e = .returned (.tuple #[.slice none 0 0, .int .i64 2]) ∧ Below w.heap.size w w' := by
  have q69 := readGraph_no hv hl hno
  clear hv hno
  go_enter Try.func35, Try.ntmps35
  go_wp2_with (first
    | (go_at_call 69; (with_reducible refine q69.mono ?_); rintro e w5 ⟨rfl, hb5⟩
       have hbk := Keep.mk hb5
       clear hb5))
  refine bodyPost_ret (v := .tuple #[.slice none 0 0, .int .i64 2]) (by simp [results, Try.results35, go_sem]) rfl ?_
  exact ⟨rfl, hbk.out⟩
set_option maxRecDepth 100000 in
theorem Fewest_no {r : Int} {n : Int} {v : Value} {ps : Pts} {w : World} (hv : PairsOf w v ps) (hl : ps.length ≤ 200) (hno : ¬ GrOk n ps) :
    Calls Try.prog 39 #[.int .i64 n, v, .int .i64 r] w fun e w' => e = .returned (.tuple #[.slice none 0 0, .int .i64 2]) ∧ Below w.heap.size w w' := by
  have q69 := readGraph_no hv hl hno
  clear hv hno
  go_enter Try.func39, Try.ntmps39
  go_wp2_with (first
    | (go_at_call 69; (with_reducible refine q69.mono ?_); rintro e w5 ⟨rfl, hb5⟩
       have hbk := Keep.mk hb5
       clear hb5))
  refine bodyPost_ret (v := .tuple #[.slice none 0 0, .int .i64 2]) (by simp [results, Try.results39, go_sem]) rfl ?_
  exact ⟨rfl, hbk.out⟩
set_option maxRecDepth 100000 in
theorem Fewest_nor {r : Int} {n : Nat} {v : Value} {ps : Pts} {w : World} (hv : PairsOf w v ps) (hok : GrOk n ps) (hl : ps.length ≤ 200) (hno : ¬ (1 ≤ r ∧ r ≤ 6)) :
    Calls Try.prog 39 #[.int .i64 n, v, .int .i64 r] w fun e w' => e = .returned (.tuple #[.slice none 0 0, .int .i64 2]) ∧ Below w.heap.size w w' := by
  have q69 := readGraph_yes hv hok hl
  have q66 := threshold_any r
  rw [decide_eq_false hno] at q66
  clear hv hno
  go_enter Try.func39, Try.ntmps39
  go_wp2_with (first
    | (go_at_call 69; (with_reducible refine q69.mono ?_); rintro e w5 ⟨rfl, hg5, hb5⟩
       have hbk := Keep.mk hb5
       clear hb5 hg5)
    | (go_at_call 66; (with_reducible refine (q66 _).mono ?_); rintro e w7 ⟨rfl, he7⟩; rw [he7]; clear he7 w7))
  refine bodyPost_ret (v := .tuple #[.slice none 0 0, .int .i64 2]) (by simp [results, Try.results39, go_sem]) rfl ?_
  exact ⟨rfl, hbk.out⟩
end Go.Proofs.Yteekigpdiklppaa
set_option linter.unusedSimpArgs false
set_option linter.unusedVariables false
namespace Go.Proofs.Yteekigpdiklppaa
open Go Go.Proofs Go.RowKit Go.Seq
attribute [local go_sem] Oper.semAt_some
set_option maxHeartbeats 4000000 in
set_option maxRecDepth 100000 in
theorem refGraph_run {n : Int} {v : Value} {ps : Pts} {R : Bool} {w : World} (hv : PairsOf w v ps) (hl : ps.length ≤ 200) (hR : R = true ↔ GrOk n ps) :
    Calls Try.prog 36 #[.int .i64 n, v] w fun e w' => e = .returned (.bool R) ∧ ∃ q, w' = w.drewN q := by
  have hmx : Try.prog.follows .mixedOrders = true := by kernel_rfl
  have hno : Keep (∀ k, k < ps.length → ¬ EdgeOk n (ps.take k) (ps.getD k (0, 0)) → R = false) := ⟨fun k hk h => by
    cases R with
    | false => rfl
    | true => exact absurd ((hR.1 rfl).ed k hk) h⟩
  obtain ⟨A, cap, rfl, hc⟩ := hv
  have hck := Keep.mk hc
  have hRk := Keep.mk hR
  obtain ⟨m, hm⟩ : ∃ m, Keep (ps.length = m) := ⟨_, ⟨rfl⟩⟩
  rw [hm.out] at hl hck hno ⊢
  clear hc hR
  go_enter Try.func36, Try.ntmps36
  go_wp2
  go_loopw [5] (fun i wr => (∃ k : Nat, k ≤ m ∧ i = .int .i64 k ∧ Keep (∀ j, j < k → EdgeOk n (ps.take j) (ps.getD j (0, 0)))) ∧ ∃ nn, wr = w.drewN nn) (fun i _ => m - (intOf i).toNat)
  case atStart => exact ⟨⟨0, by omega, rfl, ⟨fun j hj => by omega⟩⟩, 0, rfl⟩
  case round =>
    obtain ⟨⟨k, hk, rfl, hpk⟩, nn, rfl⟩ := hrel
    have hw1 : IntKind.i64.wrap ((k : Int) + 1) = (k : Int) + 1 := IntWalk.i64_in _ (by omega)
    by_cases hlt : k < m
    · have hlt' : (k : Int) < (m : Int) := by omega
      have nk : ¬ (k : Int) < 0 := by omega
      obtain ⟨g, rfl, c0, c1⟩ := hck.out k hlt
      obtain ⟨p, hp⟩ : ∃ p, ps.getD k (0, 0) = p := ⟨_, rfl⟩
      rw [hp] at c0 c1
      obtain ⟨x, y⟩ := p
      simp only at c0 c1
      have hxy := Keep.mk hp
      clear hp
      by_cases hx0 : x < 0
      · have hRf : Keep (R = false) := ⟨hno.out k (by omega) (by rw [hxy.out]; intro h; have h1 := h.a0; have h2 := h.ab; have h3 := h.bn; simp only at h1 h2 h3; omega)⟩
        clear hpk hxy
        go_wp2
        refine (wpIn_wide (n := 0)).1 ?_
        refine Many.region_many (Cq (w.drewN nn)) hmx (by kernel_rfl) (fun s s' W' h hc => hc) (fun s hs => ⟨1, rfl⟩) ?_
        refine Many.lex_want (by rfl) (rd (v := .slice (some ⟨g, 0, none⟩) m cap) (fun q => by (go_simp; (try rfl); (try (intro hneg; omega))))) ?_
        simp only [Act.put, List.setIfInBounds_toArray, List.set_cons_succ, List.set_cons_zero, Nat.reduceAdd]
        refine Many.lex_want (by rfl) (rd (v := .int .i64 k) (fun q => by (go_simp; (try rfl); (try (intro hneg; omega))))) ?_
        simp only [Act.put, List.setIfInBounds_toArray, List.set_cons_succ, List.set_cons_zero, Nat.reduceAdd]
        refine Many.lex_want (by rfl) (rd (v := .pointer (some ⟨g, k * 2, none⟩)) (fun q => by (go_simp; (try rfl); (try (intro hneg; omega))))) ?_
        simp only [Act.put, List.setIfInBounds_toArray, List.set_cons_succ, List.set_cons_zero, Nat.reduceAdd]
        refine Many.lex_want (by rfl) (rd (v := .pointer (some ⟨g, k * 2, none⟩)) (fun q => by (go_simp; (try rfl); (try (intro hneg; omega))))) ?_
        simp only [Act.put, List.setIfInBounds_toArray, List.set_cons_succ, List.set_cons_zero, Nat.reduceAdd]
        refine Many.lex_want (by rfl) (rd (v := .int .i64 x) (fun q => by (go_simp; (try rfl); (try (intro hneg; omega))))) ?_
        simp only [Act.put, List.setIfInBounds_toArray, List.set_cons_succ, List.set_cons_zero, Nat.reduceAdd]
        refine Many.lex_want (by rfl) (rd (v := .bool true) (fun q => by (go_simp; (try rfl); (try (intro hneg; omega))))) ?_
        simp only [Act.put, List.setIfInBounds_toArray, List.set_cons_succ, List.set_cons_zero, Nat.reduceAdd]
        refine Many.lex_want (by rfl) (rd (v := .bool true) (fun q => by (go_simp; (try rfl); (try (intro hneg; omega))))) ?_
        simp only [Act.put, List.setIfInBounds_toArray, List.set_cons_succ, List.set_cons_zero, Nat.reduceAdd]
        refine lex_skip (by rfl) Cq.keep ?_
        simp only [Act.put, List.setIfInBounds_toArray, List.set_cons_succ, List.set_cons_zero, Nat.reduceAdd]
        refine lex_skip (by rfl) Cq.keep ?_
        simp only [Act.put, List.setIfInBounds_toArray, List.set_cons_succ, List.set_cons_zero, Nat.reduceAdd]
        refine lex_skip (by rfl) Cq.keep ?_
        simp only [Act.put, List.setIfInBounds_toArray, List.set_cons_succ, List.set_cons_zero, Nat.reduceAdd]
        refine lex_skip (by rfl) Cq.keep ?_
        simp only [Act.put, List.setIfInBounds_toArray, List.set_cons_succ, List.set_cons_zero, Nat.reduceAdd]
        refine lex_skip (by rfl) Cq.keep ?_
        simp only [Act.put, List.setIfInBounds_toArray, List.set_cons_succ, List.set_cons_zero, Nat.reduceAdd]
        refine lex_skip (by rfl) Cq.keep ?_
        simp only [Act.put, List.setIfInBounds_toArray, List.set_cons_succ, List.set_cons_zero, Nat.reduceAdd]
        refine lex_skip (by rfl) Cq.keep ?_
        simp only [Act.put, List.setIfInBounds_toArray, List.set_cons_succ, List.set_cons_zero, Nat.reduceAdd]
        refine lex_skip (by rfl) Cq.keep ?_
        simp only [Act.put, List.setIfInBounds_toArray, List.set_cons_succ, List.set_cons_zero, Nat.reduceAdd]
        refine lex_skip (by rfl) Cq.keep ?_
        simp only [Act.put, List.setIfInBounds_toArray, List.set_cons_succ, List.set_cons_zero, Nat.reduceAdd]
        refine lex_skip (by rfl) Cq.keep ?_
        simp only [Act.put, List.setIfInBounds_toArray, List.set_cons_succ, List.set_cons_zero, Nat.reduceAdd]
        refine lex_skip (by rfl) Cq.keep ?_
        simp only [Act.put, List.setIfInBounds_toArray, List.set_cons_succ, List.set_cons_zero, Nat.reduceAdd]
        refine Many.lex_want (by rfl) (rd (v := .bool true) (fun q => by (go_simp; (try rfl); (try (intro hneg; omega))))) ?_
        simp only [Act.put, List.setIfInBounds_toArray, List.set_cons_succ, List.set_cons_zero, Nat.reduceAdd]
        refine Many.lex_want (by rfl) (rd (v := .bool true) (fun q => by (go_simp; (try rfl); (try (intro hneg; omega))))) ?_
        simp only [Act.put, List.setIfInBounds_toArray, List.set_cons_succ, List.set_cons_zero, Nat.reduceAdd]
        refine lex_skip (by rfl) Cq.keep ?_
        simp only [Act.put, List.setIfInBounds_toArray, List.set_cons_succ, List.set_cons_zero, Nat.reduceAdd]
        refine lex_skip (by rfl) Cq.keep ?_
        simp only [Act.put, List.setIfInBounds_toArray, List.set_cons_succ, List.set_cons_zero, Nat.reduceAdd]
        refine lex_skip (by rfl) Cq.keep ?_
        simp only [Act.put, List.setIfInBounds_toArray, List.set_cons_succ, List.set_cons_zero, Nat.reduceAdd]
        refine lex_skip (by rfl) Cq.keep ?_
        simp only [Act.put, List.setIfInBounds_toArray, List.set_cons_succ, List.set_cons_zero, Nat.reduceAdd]
        refine lex_skip (by rfl) Cq.keep ?_
        simp only [Act.put, List.setIfInBounds_toArray, List.set_cons_succ, List.set_cons_zero, Nat.reduceAdd]
        refine lex_skip (by rfl) Cq.keep ?_
        simp only [Act.put, List.setIfInBounds_toArray, List.set_cons_succ, List.set_cons_zero, Nat.reduceAdd]
        refine lex_skip (by rfl) Cq.keep ?_
        simp only [Act.put, List.setIfInBounds_toArray, List.set_cons_succ, List.set_cons_zero, Nat.reduceAdd]
        refine Many.lex_want (by rfl) (rd (v := .bool true) (fun q => by (go_simp; (try rfl); (try (intro hneg; omega))))) ?_
        simp only [Act.put, List.setIfInBounds_toArray, List.set_cons_succ, List.set_cons_zero, Nat.reduceAdd]
        refine Many.lex_nil fun s9 W2 hs9 hS9 => ?_
        obtain ⟨q, rfl⟩ := hS9
        go_wp2
        refine bodyPost_ret (v := .bool false) (by simp [results, Try.results36, go_sem]) rfl ?_
        exact ⟨by rw [hRf.out], nn + q, by first | rfl | exact drewN_add _ _ _⟩
      · by_cases hxy2 : x ≥ y
        · have hRf : Keep (R = false) := ⟨hno.out k (by omega) (by rw [hxy.out]; intro h; have h1 := h.a0; have h2 := h.ab; have h3 := h.bn; simp only at h1 h2 h3; omega)⟩
          clear hpk hxy
          go_wp2
          refine (wpIn_wide (n := 0)).1 ?_
          refine Many.region_many (Cq (w.drewN nn)) hmx (by kernel_rfl) (fun s s' W' h hc => hc) (fun s hs => ⟨1, rfl⟩) ?_
          refine Many.lex_want (by rfl) (rd (v := .slice (some ⟨g, 0, none⟩) m cap) (fun q => by (go_simp; (try rfl); (try (intro hneg; omega))))) ?_
          simp only [Act.put, List.setIfInBounds_toArray, List.set_cons_succ, List.set_cons_zero, Nat.reduceAdd]
          refine Many.lex_want (by rfl) (rd (v := .int .i64 k) (fun q => by (go_simp; (try rfl); (try (intro hneg; omega))))) ?_
          simp only [Act.put, List.setIfInBounds_toArray, List.set_cons_succ, List.set_cons_zero, Nat.reduceAdd]
          refine Many.lex_want (by rfl) (rd (v := .pointer (some ⟨g, k * 2, none⟩)) (fun q => by (go_simp; (try rfl); (try (intro hneg; omega))))) ?_
          simp only [Act.put, List.setIfInBounds_toArray, List.set_cons_succ, List.set_cons_zero, Nat.reduceAdd]
          refine Many.lex_want (by rfl) (rd (v := .pointer (some ⟨g, k * 2, none⟩)) (fun q => by (go_simp; (try rfl); (try (intro hneg; omega))))) ?_
          simp only [Act.put, List.setIfInBounds_toArray, List.set_cons_succ, List.set_cons_zero, Nat.reduceAdd]
          refine Many.lex_want (by rfl) (rd (v := .int .i64 x) (fun q => by (go_simp; (try rfl); (try (intro hneg; omega))))) ?_
          simp only [Act.put, List.setIfInBounds_toArray, List.set_cons_succ, List.set_cons_zero, Nat.reduceAdd]
          refine Many.lex_want (by rfl) (rd (v := .bool false) (fun q => by (go_simp; (try rfl); (try (intro hneg; omega))))) ?_
          simp only [Act.put, List.setIfInBounds_toArray, List.set_cons_succ, List.set_cons_zero, Nat.reduceAdd]
          refine Many.lex_want (by rfl) (rd (v := .bool false) (fun q => by (go_simp; (try rfl); (try (intro hneg; omega))))) ?_
          simp only [Act.put, List.setIfInBounds_toArray, List.set_cons_succ, List.set_cons_zero, Nat.reduceAdd]
          refine Many.lex_want (by rfl) (rd (v := .slice (some ⟨g, 0, none⟩) m cap) (fun q => by (go_simp; (try rfl); (try (intro hneg; omega))))) ?_
          simp only [Act.put, List.setIfInBounds_toArray, List.set_cons_succ, List.set_cons_zero, Nat.reduceAdd]
          refine Many.lex_want (by rfl) (rd (v := .int .i64 k) (fun q => by (go_simp; (try rfl); (try (intro hneg; omega))))) ?_
          simp only [Act.put, List.setIfInBounds_toArray, List.set_cons_succ, List.set_cons_zero, Nat.reduceAdd]
          refine Many.lex_want (by rfl) (rd (v := .pointer (some ⟨g, k * 2, none⟩)) (fun q => by (go_simp; (try rfl); (try (intro hneg; omega))))) ?_
          simp only [Act.put, List.setIfInBounds_toArray, List.set_cons_succ, List.set_cons_zero, Nat.reduceAdd]
          refine Many.lex_want (by rfl) (rd (v := .pointer (some ⟨g, k * 2, none⟩)) (fun q => by (go_simp; (try rfl); (try (intro hneg; omega))))) ?_
          simp only [Act.put, List.setIfInBounds_toArray, List.set_cons_succ, List.set_cons_zero, Nat.reduceAdd]
          refine Many.lex_want (by rfl) (rd (v := .int .i64 x) (fun q => by (go_simp; (try rfl); (try (intro hneg; omega))))) ?_
          simp only [Act.put, List.setIfInBounds_toArray, List.set_cons_succ, List.set_cons_zero, Nat.reduceAdd]
          refine Many.lex_want (by rfl) (rd (v := .slice (some ⟨g, 0, none⟩) m cap) (fun q => by (go_simp; (try rfl); (try (intro hneg; omega))))) ?_
          simp only [Act.put, List.setIfInBounds_toArray, List.set_cons_succ, List.set_cons_zero, Nat.reduceAdd]
          refine Many.lex_want (by rfl) (rd (v := .int .i64 k) (fun q => by (go_simp; (try rfl); (try (intro hneg; omega))))) ?_
          simp only [Act.put, List.setIfInBounds_toArray, List.set_cons_succ, List.set_cons_zero, Nat.reduceAdd]
          refine Many.lex_want (by rfl) (rd (v := .pointer (some ⟨g, k * 2, none⟩)) (fun q => by (go_simp; (try rfl); (try (intro hneg; omega))))) ?_
          simp only [Act.put, List.setIfInBounds_toArray, List.set_cons_succ, List.set_cons_zero, Nat.reduceAdd]
          refine Many.lex_want (by rfl) (rd (v := .pointer (some ⟨g, k * 2 + 1, none⟩)) (fun q => by (go_simp; (try rfl); (try (intro hneg; omega))))) ?_
          simp only [Act.put, List.setIfInBounds_toArray, List.set_cons_succ, List.set_cons_zero, Nat.reduceAdd]
          refine Many.lex_want (by rfl) (rd (v := .int .i64 y) (fun q => by (go_simp; (try rfl); (try (intro hneg; omega))))) ?_
          simp only [Act.put, List.setIfInBounds_toArray, List.set_cons_succ, List.set_cons_zero, Nat.reduceAdd]
          refine Many.lex_want (by rfl) (rd (v := .bool true) (fun q => by (go_simp; (try rfl); (try (intro hneg; omega))))) ?_
          simp only [Act.put, List.setIfInBounds_toArray, List.set_cons_succ, List.set_cons_zero, Nat.reduceAdd]
          refine Many.lex_want (by rfl) (rd (v := .bool true) (fun q => by (go_simp; (try rfl); (try (intro hneg; omega))))) ?_
          simp only [Act.put, List.setIfInBounds_toArray, List.set_cons_succ, List.set_cons_zero, Nat.reduceAdd]
          refine Many.lex_want (by rfl) (rd (v := .bool true) (fun q => by (go_simp; (try rfl); (try (intro hneg; omega))))) ?_
          simp only [Act.put, List.setIfInBounds_toArray, List.set_cons_succ, List.set_cons_zero, Nat.reduceAdd]
          refine lex_skip (by rfl) Cq.keep ?_
          simp only [Act.put, List.setIfInBounds_toArray, List.set_cons_succ, List.set_cons_zero, Nat.reduceAdd]
          refine lex_skip (by rfl) Cq.keep ?_
          simp only [Act.put, List.setIfInBounds_toArray, List.set_cons_succ, List.set_cons_zero, Nat.reduceAdd]
          refine lex_skip (by rfl) Cq.keep ?_
          simp only [Act.put, List.setIfInBounds_toArray, List.set_cons_succ, List.set_cons_zero, Nat.reduceAdd]
          refine lex_skip (by rfl) Cq.keep ?_
          simp only [Act.put, List.setIfInBounds_toArray, List.set_cons_succ, List.set_cons_zero, Nat.reduceAdd]
          refine lex_skip (by rfl) Cq.keep ?_
          simp only [Act.put, List.setIfInBounds_toArray, List.set_cons_succ, List.set_cons_zero, Nat.reduceAdd]
          refine lex_skip (by rfl) Cq.keep ?_
          simp only [Act.put, List.setIfInBounds_toArray, List.set_cons_succ, List.set_cons_zero, Nat.reduceAdd]
          refine lex_skip (by rfl) Cq.keep ?_
          simp only [Act.put, List.setIfInBounds_toArray, List.set_cons_succ, List.set_cons_zero, Nat.reduceAdd]
          refine Many.lex_want (by rfl) (rd (v := .bool true) (fun q => by (go_simp; (try rfl); (try (intro hneg; omega))))) ?_
          simp only [Act.put, List.setIfInBounds_toArray, List.set_cons_succ, List.set_cons_zero, Nat.reduceAdd]
          refine Many.lex_nil fun s9 W2 hs9 hS9 => ?_
          obtain ⟨q, rfl⟩ := hS9
          go_wp2
          refine bodyPost_ret (v := .bool false) (by simp [results, Try.results36, go_sem]) rfl ?_
          exact ⟨by rw [hRf.out], nn + q, by first | rfl | exact drewN_add _ _ _⟩
        · by_cases hyn : y ≥ n
          · have hRf : Keep (R = false) := ⟨hno.out k (by omega) (by rw [hxy.out]; intro h; have h1 := h.a0; have h2 := h.ab; have h3 := h.bn; simp only at h1 h2 h3; omega)⟩
            clear hpk hxy
            go_wp2
            refine (wpIn_wide (n := 0)).1 ?_
            refine Many.region_many (Cq (w.drewN nn)) hmx (by kernel_rfl) (fun s s' W' h hc => hc) (fun s hs => ⟨1, rfl⟩) ?_
            refine Many.lex_want (by rfl) (rd (v := .slice (some ⟨g, 0, none⟩) m cap) (fun q => by (go_simp; (try rfl); (try (intro hneg; omega))))) ?_
            simp only [Act.put, List.setIfInBounds_toArray, List.set_cons_succ, List.set_cons_zero, Nat.reduceAdd]
            refine Many.lex_want (by rfl) (rd (v := .int .i64 k) (fun q => by (go_simp; (try rfl); (try (intro hneg; omega))))) ?_
            simp only [Act.put, List.setIfInBounds_toArray, List.set_cons_succ, List.set_cons_zero, Nat.reduceAdd]
            refine Many.lex_want (by rfl) (rd (v := .pointer (some ⟨g, k * 2, none⟩)) (fun q => by (go_simp; (try rfl); (try (intro hneg; omega))))) ?_
            simp only [Act.put, List.setIfInBounds_toArray, List.set_cons_succ, List.set_cons_zero, Nat.reduceAdd]
            refine Many.lex_want (by rfl) (rd (v := .pointer (some ⟨g, k * 2, none⟩)) (fun q => by (go_simp; (try rfl); (try (intro hneg; omega))))) ?_
            simp only [Act.put, List.setIfInBounds_toArray, List.set_cons_succ, List.set_cons_zero, Nat.reduceAdd]
            refine Many.lex_want (by rfl) (rd (v := .int .i64 x) (fun q => by (go_simp; (try rfl); (try (intro hneg; omega))))) ?_
            simp only [Act.put, List.setIfInBounds_toArray, List.set_cons_succ, List.set_cons_zero, Nat.reduceAdd]
            refine Many.lex_want (by rfl) (rd (v := .bool false) (fun q => by (go_simp; (try rfl); (try (intro hneg; omega))))) ?_
            simp only [Act.put, List.setIfInBounds_toArray, List.set_cons_succ, List.set_cons_zero, Nat.reduceAdd]
            refine Many.lex_want (by rfl) (rd (v := .bool false) (fun q => by (go_simp; (try rfl); (try (intro hneg; omega))))) ?_
            simp only [Act.put, List.setIfInBounds_toArray, List.set_cons_succ, List.set_cons_zero, Nat.reduceAdd]
            refine Many.lex_want (by rfl) (rd (v := .slice (some ⟨g, 0, none⟩) m cap) (fun q => by (go_simp; (try rfl); (try (intro hneg; omega))))) ?_
            simp only [Act.put, List.setIfInBounds_toArray, List.set_cons_succ, List.set_cons_zero, Nat.reduceAdd]
            refine Many.lex_want (by rfl) (rd (v := .int .i64 k) (fun q => by (go_simp; (try rfl); (try (intro hneg; omega))))) ?_
            simp only [Act.put, List.setIfInBounds_toArray, List.set_cons_succ, List.set_cons_zero, Nat.reduceAdd]
            refine Many.lex_want (by rfl) (rd (v := .pointer (some ⟨g, k * 2, none⟩)) (fun q => by (go_simp; (try rfl); (try (intro hneg; omega))))) ?_
            simp only [Act.put, List.setIfInBounds_toArray, List.set_cons_succ, List.set_cons_zero, Nat.reduceAdd]
            refine Many.lex_want (by rfl) (rd (v := .pointer (some ⟨g, k * 2, none⟩)) (fun q => by (go_simp; (try rfl); (try (intro hneg; omega))))) ?_
            simp only [Act.put, List.setIfInBounds_toArray, List.set_cons_succ, List.set_cons_zero, Nat.reduceAdd]
            refine Many.lex_want (by rfl) (rd (v := .int .i64 x) (fun q => by (go_simp; (try rfl); (try (intro hneg; omega))))) ?_
            simp only [Act.put, List.setIfInBounds_toArray, List.set_cons_succ, List.set_cons_zero, Nat.reduceAdd]
            refine Many.lex_want (by rfl) (rd (v := .slice (some ⟨g, 0, none⟩) m cap) (fun q => by (go_simp; (try rfl); (try (intro hneg; omega))))) ?_
            simp only [Act.put, List.setIfInBounds_toArray, List.set_cons_succ, List.set_cons_zero, Nat.reduceAdd]
            refine Many.lex_want (by rfl) (rd (v := .int .i64 k) (fun q => by (go_simp; (try rfl); (try (intro hneg; omega))))) ?_
            simp only [Act.put, List.setIfInBounds_toArray, List.set_cons_succ, List.set_cons_zero, Nat.reduceAdd]
            refine Many.lex_want (by rfl) (rd (v := .pointer (some ⟨g, k * 2, none⟩)) (fun q => by (go_simp; (try rfl); (try (intro hneg; omega))))) ?_
            simp only [Act.put, List.setIfInBounds_toArray, List.set_cons_succ, List.set_cons_zero, Nat.reduceAdd]
            refine Many.lex_want (by rfl) (rd (v := .pointer (some ⟨g, k * 2 + 1, none⟩)) (fun q => by (go_simp; (try rfl); (try (intro hneg; omega))))) ?_
            simp only [Act.put, List.setIfInBounds_toArray, List.set_cons_succ, List.set_cons_zero, Nat.reduceAdd]
            refine Many.lex_want (by rfl) (rd (v := .int .i64 y) (fun q => by (go_simp; (try rfl); (try (intro hneg; omega))))) ?_
            simp only [Act.put, List.setIfInBounds_toArray, List.set_cons_succ, List.set_cons_zero, Nat.reduceAdd]
            refine Many.lex_want (by rfl) (rd (v := .bool false) (fun q => by (go_simp; (try rfl); (try (intro hneg; omega))))) ?_
            simp only [Act.put, List.setIfInBounds_toArray, List.set_cons_succ, List.set_cons_zero, Nat.reduceAdd]
            refine Many.lex_want (by rfl) (rd (v := .bool false) (fun q => by (go_simp; (try rfl); (try (intro hneg; omega))))) ?_
            simp only [Act.put, List.setIfInBounds_toArray, List.set_cons_succ, List.set_cons_zero, Nat.reduceAdd]
            refine Many.lex_want (by rfl) (rd (v := .bool false) (fun q => by (go_simp; (try rfl); (try (intro hneg; omega))))) ?_
            simp only [Act.put, List.setIfInBounds_toArray, List.set_cons_succ, List.set_cons_zero, Nat.reduceAdd]
            refine Many.lex_want (by rfl) (rd (v := .slice (some ⟨g, 0, none⟩) m cap) (fun q => by (go_simp; (try rfl); (try (intro hneg; omega))))) ?_
            simp only [Act.put, List.setIfInBounds_toArray, List.set_cons_succ, List.set_cons_zero, Nat.reduceAdd]
            refine Many.lex_want (by rfl) (rd (v := .int .i64 k) (fun q => by (go_simp; (try rfl); (try (intro hneg; omega))))) ?_
            simp only [Act.put, List.setIfInBounds_toArray, List.set_cons_succ, List.set_cons_zero, Nat.reduceAdd]
            refine Many.lex_want (by rfl) (rd (v := .pointer (some ⟨g, k * 2, none⟩)) (fun q => by (go_simp; (try rfl); (try (intro hneg; omega))))) ?_
            simp only [Act.put, List.setIfInBounds_toArray, List.set_cons_succ, List.set_cons_zero, Nat.reduceAdd]
            refine Many.lex_want (by rfl) (rd (v := .pointer (some ⟨g, k * 2 + 1, none⟩)) (fun q => by (go_simp; (try rfl); (try (intro hneg; omega))))) ?_
            simp only [Act.put, List.setIfInBounds_toArray, List.set_cons_succ, List.set_cons_zero, Nat.reduceAdd]
            refine Many.lex_want (by rfl) (rd (v := .int .i64 y) (fun q => by (go_simp; (try rfl); (try (intro hneg; omega))))) ?_
            simp only [Act.put, List.setIfInBounds_toArray, List.set_cons_succ, List.set_cons_zero, Nat.reduceAdd]
            refine Many.lex_want (by rfl) (rd (v := .int .i64 n) (fun q => by (go_simp; (try rfl); (try (intro hneg; omega))))) ?_
            simp only [Act.put, List.setIfInBounds_toArray, List.set_cons_succ, List.set_cons_zero, Nat.reduceAdd]
            refine Many.lex_want (by rfl) (rd (v := .bool true) (fun q => by (go_simp; (try rfl); (try (intro hneg; omega))))) ?_
            simp only [Act.put, List.setIfInBounds_toArray, List.set_cons_succ, List.set_cons_zero, Nat.reduceAdd]
            refine Many.lex_want (by rfl) (rd (v := .bool true) (fun q => by (go_simp; (try rfl); (try (intro hneg; omega))))) ?_
            simp only [Act.put, List.setIfInBounds_toArray, List.set_cons_succ, List.set_cons_zero, Nat.reduceAdd]
            refine Many.lex_nil fun s9 W2 hs9 hS9 => ?_
            obtain ⟨q, rfl⟩ := hS9
            go_wp2
            refine bodyPost_ret (v := .bool false) (by simp [results, Try.results36, go_sem]) rfl ?_
            exact ⟨by rw [hRf.out], nn + q, by first | rfl | exact drewN_add _ _ _⟩
          · go_wp2
            refine (wpIn_wide (n := 0)).1 ?_
            refine Many.region_many (Cq (w.drewN nn)) hmx (by kernel_rfl) (fun s s' W' h hc => hc) (fun s hs => ⟨1, rfl⟩) ?_
            refine Many.lex_want (by rfl) (rd (v := .slice (some ⟨g, 0, none⟩) m cap) (fun q => by (go_simp; (try rfl); (try (intro hneg; omega))))) ?_
            simp only [Act.put, List.setIfInBounds_toArray, List.set_cons_succ, List.set_cons_zero, Nat.reduceAdd]
            refine Many.lex_want (by rfl) (rd (v := .int .i64 k) (fun q => by (go_simp; (try rfl); (try (intro hneg; omega))))) ?_
            simp only [Act.put, List.setIfInBounds_toArray, List.set_cons_succ, List.set_cons_zero, Nat.reduceAdd]
            refine Many.lex_want (by rfl) (rd (v := .pointer (some ⟨g, k * 2, none⟩)) (fun q => by (go_simp; (try rfl); (try (intro hneg; omega))))) ?_
            simp only [Act.put, List.setIfInBounds_toArray, List.set_cons_succ, List.set_cons_zero, Nat.reduceAdd]
            refine Many.lex_want (by rfl) (rd (v := .pointer (some ⟨g, k * 2, none⟩)) (fun q => by (go_simp; (try rfl); (try (intro hneg; omega))))) ?_
            simp only [Act.put, List.setIfInBounds_toArray, List.set_cons_succ, List.set_cons_zero, Nat.reduceAdd]
            refine Many.lex_want (by rfl) (rd (v := .int .i64 x) (fun q => by (go_simp; (try rfl); (try (intro hneg; omega))))) ?_
            simp only [Act.put, List.setIfInBounds_toArray, List.set_cons_succ, List.set_cons_zero, Nat.reduceAdd]
            refine Many.lex_want (by rfl) (rd (v := .bool false) (fun q => by (go_simp; (try rfl); (try (intro hneg; omega))))) ?_
            simp only [Act.put, List.setIfInBounds_toArray, List.set_cons_succ, List.set_cons_zero, Nat.reduceAdd]
            refine Many.lex_want (by rfl) (rd (v := .bool false) (fun q => by (go_simp; (try rfl); (try (intro hneg; omega))))) ?_
            simp only [Act.put, List.setIfInBounds_toArray, List.set_cons_succ, List.set_cons_zero, Nat.reduceAdd]
            refine Many.lex_want (by rfl) (rd (v := .slice (some ⟨g, 0, none⟩) m cap) (fun q => by (go_simp; (try rfl); (try (intro hneg; omega))))) ?_
            simp only [Act.put, List.setIfInBounds_toArray, List.set_cons_succ, List.set_cons_zero, Nat.reduceAdd]
            refine Many.lex_want (by rfl) (rd (v := .int .i64 k) (fun q => by (go_simp; (try rfl); (try (intro hneg; omega))))) ?_
            simp only [Act.put, List.setIfInBounds_toArray, List.set_cons_succ, List.set_cons_zero, Nat.reduceAdd]
            refine Many.lex_want (by rfl) (rd (v := .pointer (some ⟨g, k * 2, none⟩)) (fun q => by (go_simp; (try rfl); (try (intro hneg; omega))))) ?_
            simp only [Act.put, List.setIfInBounds_toArray, List.set_cons_succ, List.set_cons_zero, Nat.reduceAdd]
            refine Many.lex_want (by rfl) (rd (v := .pointer (some ⟨g, k * 2, none⟩)) (fun q => by (go_simp; (try rfl); (try (intro hneg; omega))))) ?_
            simp only [Act.put, List.setIfInBounds_toArray, List.set_cons_succ, List.set_cons_zero, Nat.reduceAdd]
            refine Many.lex_want (by rfl) (rd (v := .int .i64 x) (fun q => by (go_simp; (try rfl); (try (intro hneg; omega))))) ?_
            simp only [Act.put, List.setIfInBounds_toArray, List.set_cons_succ, List.set_cons_zero, Nat.reduceAdd]
            refine Many.lex_want (by rfl) (rd (v := .slice (some ⟨g, 0, none⟩) m cap) (fun q => by (go_simp; (try rfl); (try (intro hneg; omega))))) ?_
            simp only [Act.put, List.setIfInBounds_toArray, List.set_cons_succ, List.set_cons_zero, Nat.reduceAdd]
            refine Many.lex_want (by rfl) (rd (v := .int .i64 k) (fun q => by (go_simp; (try rfl); (try (intro hneg; omega))))) ?_
            simp only [Act.put, List.setIfInBounds_toArray, List.set_cons_succ, List.set_cons_zero, Nat.reduceAdd]
            refine Many.lex_want (by rfl) (rd (v := .pointer (some ⟨g, k * 2, none⟩)) (fun q => by (go_simp; (try rfl); (try (intro hneg; omega))))) ?_
            simp only [Act.put, List.setIfInBounds_toArray, List.set_cons_succ, List.set_cons_zero, Nat.reduceAdd]
            refine Many.lex_want (by rfl) (rd (v := .pointer (some ⟨g, k * 2 + 1, none⟩)) (fun q => by (go_simp; (try rfl); (try (intro hneg; omega))))) ?_
            simp only [Act.put, List.setIfInBounds_toArray, List.set_cons_succ, List.set_cons_zero, Nat.reduceAdd]
            refine Many.lex_want (by rfl) (rd (v := .int .i64 y) (fun q => by (go_simp; (try rfl); (try (intro hneg; omega))))) ?_
            simp only [Act.put, List.setIfInBounds_toArray, List.set_cons_succ, List.set_cons_zero, Nat.reduceAdd]
            refine Many.lex_want (by rfl) (rd (v := .bool false) (fun q => by (go_simp; (try rfl); (try (intro hneg; omega))))) ?_
            simp only [Act.put, List.setIfInBounds_toArray, List.set_cons_succ, List.set_cons_zero, Nat.reduceAdd]
            refine Many.lex_want (by rfl) (rd (v := .bool false) (fun q => by (go_simp; (try rfl); (try (intro hneg; omega))))) ?_
            simp only [Act.put, List.setIfInBounds_toArray, List.set_cons_succ, List.set_cons_zero, Nat.reduceAdd]
            refine Many.lex_want (by rfl) (rd (v := .bool false) (fun q => by (go_simp; (try rfl); (try (intro hneg; omega))))) ?_
            simp only [Act.put, List.setIfInBounds_toArray, List.set_cons_succ, List.set_cons_zero, Nat.reduceAdd]
            refine Many.lex_want (by rfl) (rd (v := .slice (some ⟨g, 0, none⟩) m cap) (fun q => by (go_simp; (try rfl); (try (intro hneg; omega))))) ?_
            simp only [Act.put, List.setIfInBounds_toArray, List.set_cons_succ, List.set_cons_zero, Nat.reduceAdd]
            refine Many.lex_want (by rfl) (rd (v := .int .i64 k) (fun q => by (go_simp; (try rfl); (try (intro hneg; omega))))) ?_
            simp only [Act.put, List.setIfInBounds_toArray, List.set_cons_succ, List.set_cons_zero, Nat.reduceAdd]
            refine Many.lex_want (by rfl) (rd (v := .pointer (some ⟨g, k * 2, none⟩)) (fun q => by (go_simp; (try rfl); (try (intro hneg; omega))))) ?_
            simp only [Act.put, List.setIfInBounds_toArray, List.set_cons_succ, List.set_cons_zero, Nat.reduceAdd]
            refine Many.lex_want (by rfl) (rd (v := .pointer (some ⟨g, k * 2 + 1, none⟩)) (fun q => by (go_simp; (try rfl); (try (intro hneg; omega))))) ?_
            simp only [Act.put, List.setIfInBounds_toArray, List.set_cons_succ, List.set_cons_zero, Nat.reduceAdd]
            refine Many.lex_want (by rfl) (rd (v := .int .i64 y) (fun q => by (go_simp; (try rfl); (try (intro hneg; omega))))) ?_
            simp only [Act.put, List.setIfInBounds_toArray, List.set_cons_succ, List.set_cons_zero, Nat.reduceAdd]
            refine Many.lex_want (by rfl) (rd (v := .int .i64 n) (fun q => by (go_simp; (try rfl); (try (intro hneg; omega))))) ?_
            simp only [Act.put, List.setIfInBounds_toArray, List.set_cons_succ, List.set_cons_zero, Nat.reduceAdd]
            refine Many.lex_want (by rfl) (rd (v := .bool false) (fun q => by (go_simp; (try rfl); (try (intro hneg; omega))))) ?_
            simp only [Act.put, List.setIfInBounds_toArray, List.set_cons_succ, List.set_cons_zero, Nat.reduceAdd]
            refine Many.lex_want (by rfl) (rd (v := .bool false) (fun q => by (go_simp; (try rfl); (try (intro hneg; omega))))) ?_
            simp only [Act.put, List.setIfInBounds_toArray, List.set_cons_succ, List.set_cons_zero, Nat.reduceAdd]
            refine Many.lex_nil fun s9 W2 hs9 hS9 => ?_
            obtain ⟨q1, rfl⟩ := hS9
            rw [drewN_add]
            obtain ⟨nn, hnn⟩ : ∃ n2, nn + q1 = n2 := ⟨_, rfl⟩
            rw [hnn]
            clear hnn
            have c0 : (w.drewN nn).cell? ⟨g, k * 2, none⟩ = some (.int .i64 x) := c0
            have c1 : (w.drewN nn).cell? ⟨g, k * 2 + 1, none⟩ = some (.int .i64 y) := c1
            go_wp2
            go_loopw [6] (fun i wr => (∃ j : Nat, j ≤ k ∧ i = .int .i64 j ∧ Keep (∀ i, i < j → ps.getD i (0, 0) ≠ (x, y))) ∧ ∃ n2, wr = (w.drewN nn).drewN n2) (fun i _ => k - (intOf i).toNat)
            case atStart => exact ⟨⟨0, by omega, rfl, ⟨fun j hj => by omega⟩⟩, 0, rfl⟩
            case round =>
              obtain ⟨⟨j, hj, rfl, hjk⟩, n2, rfl⟩ := hrel
              have hw2 : IntKind.i64.wrap ((j : Int) + 1) = (j : Int) + 1 := IntWalk.i64_in _ (by omega)
              by_cases hlt2 : j < k
              · have hlt2' : (j : Int) < (k : Int) := by omega
                have hjm : (j : Int) < (m : Int) := by omega
                have nj : ¬ (j : Int) < 0 := by omega
                obtain ⟨g', hg', d0, d1⟩ := hck.out j (by omega)
                obtain rfl : g = g' := by injection hg' with h; injection h with h1 h2
                obtain ⟨p2, hp2⟩ : ∃ p, ps.getD j (0, 0) = p := ⟨_, rfl⟩
                rw [hp2] at d0 d1
                obtain ⟨u, v⟩ := p2
                simp only at d0 d1
                have hp2k := Keep.mk hp2
                have heq := eq63 u v x y
                clear hp2
                by_cases hd : (u, v) = (x, y)
                · rw [decide_eq_true hd] at heq
                  have hRf : Keep (R = false) := ⟨hno.out k (by omega) (by
                    rw [hxy.out]
                    intro h
                    have h6 := h.new
                    have hmem : (x, y) ∈ ps.take k := by
                      rw [← hd, ← hp2k.out]
                      rw [List.mem_iff_getElem]
                      have hml := hm.out
                      refine ⟨j, by rw [List.length_take]; omega, ?_⟩
                      rw [List.getElem_take, List.getD_eq_getElem?_getD, List.getElem?_eq_getElem (by omega)]; rfl
                    have h0 := h.a0
                    have h1 := h.b0
                    simp only at h0 h1
                    have : adjOf (ps.take k) x.toNat y.toNat = true := by
                      unfold adjOf
                      rw [List.any_eq_true]
                      refine ⟨_, hmem, ?_⟩
                      simp only [Bool.or_eq_true, Bool.and_eq_true, beq_iff_eq]
                      exact .inl ⟨by omega, by omega⟩
                    simp only at h6
                    rw [this] at h6; cases h6)⟩
                  clear hpk hxy hjk hp2k hd
                  go_wp2
                  refine (wpIn_wide (n := 0)).1 ?_
                  refine Many.region_many (Cq (w.drewN (nn + n2))) hmx (by kernel_rfl) (fun s s' W' h hc => hc) (fun s hs => ⟨1, rfl⟩) ?_
                  refine Many.lex_want (by rfl) (rd (v := .slice (some ⟨g, 0, none⟩) m cap) (fun q => by (go_simp; (try rfl); (try (intro hneg; omega))))) ?_
                  simp only [Act.put, List.setIfInBounds_toArray, List.set_cons_succ, List.set_cons_zero, Nat.reduceAdd]
                  refine Many.lex_want (by rfl) (rd (v := .int .i64 j) (fun q => by (go_simp; (try rfl); (try (intro hneg; omega))))) ?_
                  simp only [Act.put, List.setIfInBounds_toArray, List.set_cons_succ, List.set_cons_zero, Nat.reduceAdd]
                  refine Many.lex_want (by rfl) (rd (v := .pointer (some ⟨g, j * 2, none⟩)) (fun q => by (go_simp; (try rfl); (try (intro hneg; omega))))) ?_
                  simp only [Act.put, List.setIfInBounds_toArray, List.set_cons_succ, List.set_cons_zero, Nat.reduceAdd]
                  refine Many.lex_want (by rfl) (rd (v := .agg #[.int .i64 u, .int .i64 v]) (fun q => by (go_simp; (try rfl); (try (intro hneg; omega))))) ?_
                  simp only [Act.put, List.setIfInBounds_toArray, List.set_cons_succ, List.set_cons_zero, Nat.reduceAdd]
                  refine Many.lex_want (by rfl) (rd (v := .slice (some ⟨g, 0, none⟩) m cap) (fun q => by (go_simp; (try rfl); (try (intro hneg; omega))))) ?_
                  simp only [Act.put, List.setIfInBounds_toArray, List.set_cons_succ, List.set_cons_zero, Nat.reduceAdd]
                  refine Many.lex_want (by rfl) (rd (v := .int .i64 k) (fun q => by (go_simp; (try rfl); (try (intro hneg; omega))))) ?_
                  simp only [Act.put, List.setIfInBounds_toArray, List.set_cons_succ, List.set_cons_zero, Nat.reduceAdd]
                  refine Many.lex_want (by rfl) (rd (v := .pointer (some ⟨g, k * 2, none⟩)) (fun q => by (go_simp; (try rfl); (try (intro hneg; omega))))) ?_
                  simp only [Act.put, List.setIfInBounds_toArray, List.set_cons_succ, List.set_cons_zero, Nat.reduceAdd]
                  refine Many.lex_want (by rfl) (rd (v := .agg #[.int .i64 x, .int .i64 y]) (fun q => by (go_simp; (try rfl); (try (intro hneg; omega))))) ?_
                  simp only [Act.put, List.setIfInBounds_toArray, List.set_cons_succ, List.set_cons_zero, Nat.reduceAdd]
                  refine Many.lex_want (by rfl) (rd (v := .bool true) (fun q => by (go_simp; (try rfl); (try (intro hneg; omega))))) ?_
                  simp only [Act.put, List.setIfInBounds_toArray, List.set_cons_succ, List.set_cons_zero, Nat.reduceAdd]
                  refine Many.lex_nil fun s9 W2 hs9 hS9 => ?_
                  obtain ⟨q, rfl⟩ := hS9
                  go_wp2
                  refine bodyPost_ret (v := .bool false) (by simp [results, Try.results36, go_sem]) rfl ?_
                  exact ⟨by rw [hRf.out], nn + n2 + q, by first | rfl | exact drewN_add _ _ _⟩
                · rw [decide_eq_false hd] at heq
                  have hj2 : Keep (∀ i, i < j + 1 → ps.getD i (0, 0) ≠ (x, y)) := ⟨fun i hi => by
                    by_cases e : i = j
                    · subst e; rw [hp2k.out]; exact hd
                    · exact hjk.out i (by omega)⟩
                  clear hpk hxy hjk hp2k hd
                  go_wp2
                  refine (wpIn_wide (n := 0)).1 ?_
                  refine Many.region_many (Cq (w.drewN (nn + n2))) hmx (by kernel_rfl) (fun s s' W' h hc => hc) (fun s hs => ⟨1, rfl⟩) ?_
                  refine Many.lex_want (by rfl) (rd (v := .slice (some ⟨g, 0, none⟩) m cap) (fun q => by (go_simp; (try rfl); (try (intro hneg; omega))))) ?_
                  simp only [Act.put, List.setIfInBounds_toArray, List.set_cons_succ, List.set_cons_zero, Nat.reduceAdd]
                  refine Many.lex_want (by rfl) (rd (v := .int .i64 j) (fun q => by (go_simp; (try rfl); (try (intro hneg; omega))))) ?_
                  simp only [Act.put, List.setIfInBounds_toArray, List.set_cons_succ, List.set_cons_zero, Nat.reduceAdd]
                  refine Many.lex_want (by rfl) (rd (v := .pointer (some ⟨g, j * 2, none⟩)) (fun q => by (go_simp; (try rfl); (try (intro hneg; omega))))) ?_
                  simp only [Act.put, List.setIfInBounds_toArray, List.set_cons_succ, List.set_cons_zero, Nat.reduceAdd]
                  refine Many.lex_want (by rfl) (rd (v := .agg #[.int .i64 u, .int .i64 v]) (fun q => by (go_simp; (try rfl); (try (intro hneg; omega))))) ?_
                  simp only [Act.put, List.setIfInBounds_toArray, List.set_cons_succ, List.set_cons_zero, Nat.reduceAdd]
                  refine Many.lex_want (by rfl) (rd (v := .slice (some ⟨g, 0, none⟩) m cap) (fun q => by (go_simp; (try rfl); (try (intro hneg; omega))))) ?_
                  simp only [Act.put, List.setIfInBounds_toArray, List.set_cons_succ, List.set_cons_zero, Nat.reduceAdd]
                  refine Many.lex_want (by rfl) (rd (v := .int .i64 k) (fun q => by (go_simp; (try rfl); (try (intro hneg; omega))))) ?_
                  simp only [Act.put, List.setIfInBounds_toArray, List.set_cons_succ, List.set_cons_zero, Nat.reduceAdd]
                  refine Many.lex_want (by rfl) (rd (v := .pointer (some ⟨g, k * 2, none⟩)) (fun q => by (go_simp; (try rfl); (try (intro hneg; omega))))) ?_
                  simp only [Act.put, List.setIfInBounds_toArray, List.set_cons_succ, List.set_cons_zero, Nat.reduceAdd]
                  refine Many.lex_want (by rfl) (rd (v := .agg #[.int .i64 x, .int .i64 y]) (fun q => by (go_simp; (try rfl); (try (intro hneg; omega))))) ?_
                  simp only [Act.put, List.setIfInBounds_toArray, List.set_cons_succ, List.set_cons_zero, Nat.reduceAdd]
                  refine Many.lex_want (by rfl) (rd (v := .bool false) (fun q => by (go_simp; (try rfl); (try (intro hneg; omega))))) ?_
                  simp only [Act.put, List.setIfInBounds_toArray, List.set_cons_succ, List.set_cons_zero, Nat.reduceAdd]
                  refine Many.lex_nil fun s9 W2 hs9 hS9 => ?_
                  obtain ⟨q, rfl⟩ := hS9
                  go_wp2
                  exact ⟨⟨⟨j + 1, by omega, by go_num, hj2⟩, n2 + q, by first | rfl | (simp only [drewN_add, Nat.add_assoc])⟩, by simp [intOf]; omega⟩
              · obtain rfl : j = k := by omega
                have hlt2' : ¬ (j : Int) < (j : Int) := by omega
                have hp2 : Keep (∀ i, i < j + 1 → EdgeOk n (ps.take i) (ps.getD i (0, 0))) := ⟨fun i hi => by
                  by_cases e : i = j
                  · subst e
                    rw [hxy.out]
                    refine ⟨by show 0 ≤ x; omega, by show x < n; omega, by show 0 ≤ y; omega, by show y < n; omega, by show x < y; omega, ?_⟩
                    show adjOf (ps.take i) x.toNat y.toNat = false
                    unfold adjOf
                    rw [List.any_eq_false]
                    intro z hz
                    rw [List.mem_iff_getElem] at hz
                    obtain ⟨l, hl2, rfl⟩ := hz
                    rw [List.length_take] at hl2
                    have hE := hpk.out l (by omega)
                    have hN := hjk.out l (by omega)
                    have hg : ps.getD l (0, 0) = (ps.take i)[l]'(by rw [List.length_take]; omega) := by
                      rw [List.getElem_take, List.getD_eq_getElem?_getD, List.getElem?_eq_getElem (by omega)]; rfl
                    rw [← hg]
                    have h1 := hE.ab
                    generalize ps.getD l (0, 0) = z at hN h1
                    obtain ⟨z1, z2⟩ := z
                    simp only at h1
                    simp only [Bool.or_eq_true, Bool.and_eq_true, beq_iff_eq, not_or, not_and]
                    refine ⟨fun h2 h3 => hN ?_, fun h2 h3 => ?_⟩
                    · rw [h2, h3]; congr 1 <;> omega
                    · omega
                  · exact hpk.out i (by omega)⟩
                clear hpk hjk hxy
                go_wp2
                exact ⟨⟨⟨j + 1, by omega, by go_num, hp2⟩, nn + n2, by first | rfl | exact drewN_add _ _ _⟩, by simp [intOf]; omega⟩
    · obtain rfl : k = m := by omega
      have hlt' : ¬ (k : Int) < (k : Int) := by omega
      by_cases h1 : 1 ≤ n
      · by_cases h2 : n ≤ 12
        · have hRt : Keep (R = true) := ⟨hRk.out.2 ⟨h1, h2, fun j hj => hpk.out j (by rw [hm.out] at hj; exact hj)⟩⟩
          go_wp2
          refine bodyPost_ret (v := .bool true) (by simp [results, Try.results36, go_sem]) rfl ?_
          exact ⟨by rw [hRt.out], nn, rfl⟩
        · have hRf : Keep (R = false) := ⟨by
            cases e : R with
            | false => rfl
            | true => exact absurd (hRk.out.1 e).n12 h2⟩
          go_wp2
          refine bodyPost_ret (v := .bool false) (by simp [results, Try.results36, go_sem]) rfl ?_
          exact ⟨by rw [hRf.out], nn, rfl⟩
      · have hRf : Keep (R = false) := ⟨by
          cases e : R with
          | false => rfl
          | true => exact absurd (hRk.out.1 e).n1 h1⟩
        go_wp2
        refine bodyPost_ret (v := .bool false) (by simp [results, Try.results36, go_sem]) rfl ?_
        exact ⟨by rw [hRf.out], nn, rfl⟩
end Go.Proofs.Yteekigpdiklppaa
set_option linter.unusedSimpArgs false
set_option linter.unusedVariables false
namespace Go.Proofs.Yteekigpdiklppaa
open Go Go.Proofs Go.RowKit Go.Seq
attribute [local go_sem] Oper.semAt_some
set_option maxHeartbeats 2000000 in
set_option maxRecDepth 100000 in
theorem listed_bad {n : Nat} {v : Value} {zs : List Int} {w : World} {k0 : Nat} (hv : IntsO w v zs) (hl : zs.length ≤ 100000) (hk0 : k0 < zs.length)
    (hed : ∀ k, k < k0 → 0 ≤ zs.getD k 0 ∧ zs.getD k 0 < n ∧ lastZ (zs.take k) < zs.getD k 0) (hbad : ¬ (0 ≤ zs.getD k0 0 ∧ zs.getD k0 0 < n ∧ lastZ (zs.take k0) < zs.getD k0 0)) :
    Calls Try.prog 64 #[.int .i64 n, v] w fun e w' => e = .returned (.bool false) ∧ ∃ q, w' = w.drewN q := by
  have hmx : Try.prog.follows .mixedOrders = true := by kernel_rfl
  obtain ⟨A, cap, rfl, hc⟩ := hv
  have hck := Keep.mk hc
  have h5k := Keep.mk hed
  have hbk := Keep.mk hbad
  obtain ⟨m, hm⟩ : ∃ m, Keep (zs.length = m) := ⟨_, ⟨rfl⟩⟩
  rw [hm.out] at hl hck hk0 ⊢
  clear hc hed hbad
  go_enter Try.func64, Try.ntmps64
  go_wp2
  go_loopw [5] (fun i wr => (∃ k : Nat, k ≤ k0 ∧ i = .int .i64 k) ∧ ∃ nn, wr = w.drewN nn) (fun i _ => m - (intOf i).toNat)
  case atStart => exact ⟨⟨0, by omega, rfl⟩, 0, rfl⟩
  case round =>
    obtain ⟨⟨k, hk, rfl⟩, nn, rfl⟩ := hrel
    have hw1 : IntKind.i64.wrap ((k : Int) + 1) = (k : Int) + 1 := IntWalk.i64_in _ (by omega)
    by_cases hlt : k < k0
    · have hlt' : (k : Int) < (m : Int) := by omega
      obtain ⟨g, o, rfl, c0⟩ := hck.out k (by omega)
      obtain ⟨e1, e2, e3⟩ := h5k.out k hlt
      obtain ⟨z, hz⟩ : ∃ z, zs.getD k 0 = z := ⟨_, rfl⟩
      rw [hz] at c0 e1 e2 e3
      have hz0 : ¬ z < 0 := by omega
      have hzn : ¬ z ≥ (n : Int) := by omega
      have nk : ¬ (k : Int) < 0 := by omega
      by_cases hkz : k = 0
      · subst hkz
        rw [Nat.add_zero] at c0
        clear e3 hz hck h5k
        go_wp2
        refine (wpIn_wide (n := 0)).1 ?_
        refine Many.region_many (Cq (w.drewN nn)) hmx (by kernel_rfl) (fun s s' W' h hc => hc) (fun s hs => ⟨1, rfl⟩) ?_
        refine Many.lex_want (by rfl) (rd (v := .slice (some ⟨g, o, none⟩) m cap) (fun q => by (go_simp; (try rfl); (try (intro hneg; omega))))) ?_
        simp only [Act.put, List.setIfInBounds_toArray, List.set_cons_succ, List.set_cons_zero, Nat.reduceAdd]
        refine Many.lex_want (by rfl) (rd (v := .int .i64 (0 : Nat)) (fun q => by (go_simp; (try rfl); (try (intro hneg; omega))))) ?_
        simp only [Act.put, List.setIfInBounds_toArray, List.set_cons_succ, List.set_cons_zero, Nat.reduceAdd]
        refine Many.lex_want (by rfl) (rd (v := .pointer (some ⟨g, o, none⟩)) (fun q => by (go_simp; (try rfl); (try (intro hneg; omega))))) ?_
        simp only [Act.put, List.setIfInBounds_toArray, List.set_cons_succ, List.set_cons_zero, Nat.reduceAdd]
        refine Many.lex_want (by rfl) (rd (v := .int .i64 z) (fun q => by (go_simp; (try rfl); (try (intro hneg; omega))))) ?_
        simp only [Act.put, List.setIfInBounds_toArray, List.set_cons_succ, List.set_cons_zero, Nat.reduceAdd]
        refine Many.lex_want (by rfl) (rd (v := .bool false) (fun q => by (go_simp; (try rfl); (try (intro hneg; omega))))) ?_
        simp only [Act.put, List.setIfInBounds_toArray, List.set_cons_succ, List.set_cons_zero, Nat.reduceAdd]
        refine Many.lex_want (by rfl) (rd (v := .bool false) (fun q => by (go_simp; (try rfl); (try (intro hneg; omega))))) ?_
        simp only [Act.put, List.setIfInBounds_toArray, List.set_cons_succ, List.set_cons_zero, Nat.reduceAdd]
        refine Many.lex_want (by rfl) (rd (v := .slice (some ⟨g, o, none⟩) m cap) (fun q => by (go_simp; (try rfl); (try (intro hneg; omega))))) ?_
        simp only [Act.put, List.setIfInBounds_toArray, List.set_cons_succ, List.set_cons_zero, Nat.reduceAdd]
        refine Many.lex_want (by rfl) (rd (v := .int .i64 (0 : Nat)) (fun q => by (go_simp; (try rfl); (try (intro hneg; omega))))) ?_
        simp only [Act.put, List.setIfInBounds_toArray, List.set_cons_succ, List.set_cons_zero, Nat.reduceAdd]
        refine Many.lex_want (by rfl) (rd (v := .pointer (some ⟨g, o, none⟩)) (fun q => by (go_simp; (try rfl); (try (intro hneg; omega))))) ?_
        simp only [Act.put, List.setIfInBounds_toArray, List.set_cons_succ, List.set_cons_zero, Nat.reduceAdd]
        refine Many.lex_want (by rfl) (rd (v := .int .i64 z) (fun q => by (go_simp; (try rfl); (try (intro hneg; omega))))) ?_
        simp only [Act.put, List.setIfInBounds_toArray, List.set_cons_succ, List.set_cons_zero, Nat.reduceAdd]
        refine Many.lex_want (by rfl) (rd (v := .int .i64 n) (fun q => by (go_simp; (try rfl); (try (intro hneg; omega))))) ?_
        simp only [Act.put, List.setIfInBounds_toArray, List.set_cons_succ, List.set_cons_zero, Nat.reduceAdd]
        refine Many.lex_want (by rfl) (rd (v := .bool false) (fun q => by (go_simp; (try rfl); (try (intro hneg; omega))))) ?_
        simp only [Act.put, List.setIfInBounds_toArray, List.set_cons_succ, List.set_cons_zero, Nat.reduceAdd]
        refine Many.lex_want (by rfl) (rd (v := .bool false) (fun q => by (go_simp; (try rfl); (try (intro hneg; omega))))) ?_
        simp only [Act.put, List.setIfInBounds_toArray, List.set_cons_succ, List.set_cons_zero, Nat.reduceAdd]
        refine Many.lex_want (by rfl) (rd (v := .bool false) (fun q => by (go_simp; (try rfl); (try (intro hneg; omega))))) ?_
        simp only [Act.put, List.setIfInBounds_toArray, List.set_cons_succ, List.set_cons_zero, Nat.reduceAdd]
        refine Many.lex_want (by rfl) (rd (v := .int .i64 (0 : Nat)) (fun q => by (go_simp; (try rfl); (try (intro hneg; omega))))) ?_
        simp only [Act.put, List.setIfInBounds_toArray, List.set_cons_succ, List.set_cons_zero, Nat.reduceAdd]
        refine Many.lex_want (by rfl) (rd (v := .bool false) (fun q => by (go_simp; (try rfl); (try (intro hneg; omega))))) ?_
        simp only [Act.put, List.setIfInBounds_toArray, List.set_cons_succ, List.set_cons_zero, Nat.reduceAdd]
        refine Many.lex_want (by rfl) (rd (v := .bool false) (fun q => by (go_simp; (try rfl); (try (intro hneg; omega))))) ?_
        simp only [Act.put, List.setIfInBounds_toArray, List.set_cons_succ, List.set_cons_zero, Nat.reduceAdd]
        refine lex_skip (by rfl) Cq.keep ?_
        simp only [Act.put, List.setIfInBounds_toArray, List.set_cons_succ, List.set_cons_zero, Nat.reduceAdd]
        refine lex_skip (by rfl) Cq.keep ?_
        simp only [Act.put, List.setIfInBounds_toArray, List.set_cons_succ, List.set_cons_zero, Nat.reduceAdd]
        refine lex_skip (by rfl) Cq.keep ?_
        simp only [Act.put, List.setIfInBounds_toArray, List.set_cons_succ, List.set_cons_zero, Nat.reduceAdd]
        refine lex_skip (by rfl) Cq.keep ?_
        simp only [Act.put, List.setIfInBounds_toArray, List.set_cons_succ, List.set_cons_zero, Nat.reduceAdd]
        refine lex_skip (by rfl) Cq.keep ?_
        simp only [Act.put, List.setIfInBounds_toArray, List.set_cons_succ, List.set_cons_zero, Nat.reduceAdd]
        refine lex_skip (by rfl) Cq.keep ?_
        simp only [Act.put, List.setIfInBounds_toArray, List.set_cons_succ, List.set_cons_zero, Nat.reduceAdd]
        refine lex_skip (by rfl) Cq.keep ?_
        simp only [Act.put, List.setIfInBounds_toArray, List.set_cons_succ, List.set_cons_zero, Nat.reduceAdd]
        refine lex_skip (by rfl) Cq.keep ?_
        simp only [Act.put, List.setIfInBounds_toArray, List.set_cons_succ, List.set_cons_zero, Nat.reduceAdd]
        refine lex_skip (by rfl) Cq.keep ?_
        simp only [Act.put, List.setIfInBounds_toArray, List.set_cons_succ, List.set_cons_zero, Nat.reduceAdd]
        refine lex_skip (by rfl) Cq.keep ?_
        simp only [Act.put, List.setIfInBounds_toArray, List.set_cons_succ, List.set_cons_zero, Nat.reduceAdd]
        refine Many.lex_want (by rfl) (rd (v := .bool false) (fun q => by (go_simp; (try rfl); (try (intro hneg; omega))))) ?_
        simp only [Act.put, List.setIfInBounds_toArray, List.set_cons_succ, List.set_cons_zero, Nat.reduceAdd]
        refine Many.lex_want (by rfl) (rd (v := .bool false) (fun q => by (go_simp; (try rfl); (try (intro hneg; omega))))) ?_
        simp only [Act.put, List.setIfInBounds_toArray, List.set_cons_succ, List.set_cons_zero, Nat.reduceAdd]
        refine Many.lex_nil fun s9 W2 hs9 hS9 => ?_
        obtain ⟨q, rfl⟩ := hS9
        go_wp2
        exact ⟨⟨⟨1, by omega, by go_num⟩, nn + q, by first | rfl | exact drewN_add _ _ _⟩, by simp [intOf]; omega⟩
      · obtain ⟨j, rfl⟩ : ∃ j, k = j + 1 := ⟨k - 1, by omega⟩
        obtain ⟨g', o', hA', c1⟩ := hck.out j (by omega)
        obtain ⟨rfl, rfl⟩ : g' = g ∧ o' = o := by
          injection hA' with h; injection h with h1 h2; exact ⟨h1.symm, h2.symm⟩
        rw [lastZ_pos (by rw [hm.out]; omega)] at e3
        generalize zs.getD j 0 = y at c1 e3
        have hyz : ¬ y ≥ z := by omega
        have hj1 : ((j + 1 : Nat) : Int) = (j : Int) + 1 := by omega
        have hkp : ((j + 1 : Nat) : Int) > 0 := by omega
        have hjs : IntKind.i64.wrap ((j : Int) + 1 - 1) = (j : Int) := by rw [show (j : Int) + 1 - 1 = j by omega]; exact IntWalk.i64_in _ (by omega)
        have hjs2 : IntKind.i64.wrap (j : Int) = (j : Int) := IntWalk.i64_in _ (by omega)
        have hj0 : ¬ (j : Int) < 0 := by omega
        have hjm : (j : Int) < (m : Int) := by omega
        clear e3 hz hck h5k hA'
        go_wp2
        refine (wpIn_wide (n := 0)).1 ?_
        refine Many.region_many (Cq (w.drewN nn)) hmx (by kernel_rfl) (fun s s' W' h hc => hc) (fun s hs => ⟨1, rfl⟩) ?_
        refine Many.lex_want (by rfl) (rd (v := .slice (some ⟨g', o', none⟩) m cap) (fun q => by (go_simp; (try rfl); (try (intro hneg; omega))))) ?_
        simp only [Act.put, List.setIfInBounds_toArray, List.set_cons_succ, List.set_cons_zero, Nat.reduceAdd]
        refine Many.lex_want (by rfl) (rd (v := .int .i64 ((j : Int) + 1)) (fun q => by (go_simp; (try rfl); (try (intro hneg; omega))))) ?_
        simp only [Act.put, List.setIfInBounds_toArray, List.set_cons_succ, List.set_cons_zero, Nat.reduceAdd]
        refine Many.lex_want (by rfl) (rd (v := .pointer (some ⟨g', o' + (j + 1), none⟩)) (fun q => by (go_simp; (try rfl); (try (intro hneg; omega))))) ?_
        simp only [Act.put, List.setIfInBounds_toArray, List.set_cons_succ, List.set_cons_zero, Nat.reduceAdd]
        refine Many.lex_want (by rfl) (rd (v := .int .i64 z) (fun q => by (go_simp; (try rfl); (try (intro hneg; omega))))) ?_
        simp only [Act.put, List.setIfInBounds_toArray, List.set_cons_succ, List.set_cons_zero, Nat.reduceAdd]
        refine Many.lex_want (by rfl) (rd (v := .bool false) (fun q => by (go_simp; (try rfl); (try (intro hneg; omega))))) ?_
        simp only [Act.put, List.setIfInBounds_toArray, List.set_cons_succ, List.set_cons_zero, Nat.reduceAdd]
        refine Many.lex_want (by rfl) (rd (v := .bool false) (fun q => by (go_simp; (try rfl); (try (intro hneg; omega))))) ?_
        simp only [Act.put, List.setIfInBounds_toArray, List.set_cons_succ, List.set_cons_zero, Nat.reduceAdd]
        refine Many.lex_want (by rfl) (rd (v := .slice (some ⟨g', o', none⟩) m cap) (fun q => by (go_simp; (try rfl); (try (intro hneg; omega))))) ?_
        simp only [Act.put, List.setIfInBounds_toArray, List.set_cons_succ, List.set_cons_zero, Nat.reduceAdd]
        refine Many.lex_want (by rfl) (rd (v := .int .i64 ((j : Int) + 1)) (fun q => by (go_simp; (try rfl); (try (intro hneg; omega))))) ?_
        simp only [Act.put, List.setIfInBounds_toArray, List.set_cons_succ, List.set_cons_zero, Nat.reduceAdd]
        refine Many.lex_want (by rfl) (rd (v := .pointer (some ⟨g', o' + (j + 1), none⟩)) (fun q => by (go_simp; (try rfl); (try (intro hneg; omega))))) ?_
        simp only [Act.put, List.setIfInBounds_toArray, List.set_cons_succ, List.set_cons_zero, Nat.reduceAdd]
        refine Many.lex_want (by rfl) (rd (v := .int .i64 z) (fun q => by (go_simp; (try rfl); (try (intro hneg; omega))))) ?_
        simp only [Act.put, List.setIfInBounds_toArray, List.set_cons_succ, List.set_cons_zero, Nat.reduceAdd]
        refine Many.lex_want (by rfl) (rd (v := .int .i64 n) (fun q => by (go_simp; (try rfl); (try (intro hneg; omega))))) ?_
        simp only [Act.put, List.setIfInBounds_toArray, List.set_cons_succ, List.set_cons_zero, Nat.reduceAdd]
        refine Many.lex_want (by rfl) (rd (v := .bool false) (fun q => by (go_simp; (try rfl); (try (intro hneg; omega))))) ?_
        simp only [Act.put, List.setIfInBounds_toArray, List.set_cons_succ, List.set_cons_zero, Nat.reduceAdd]
        refine Many.lex_want (by rfl) (rd (v := .bool false) (fun q => by (go_simp; (try rfl); (try (intro hneg; omega))))) ?_
        simp only [Act.put, List.setIfInBounds_toArray, List.set_cons_succ, List.set_cons_zero, Nat.reduceAdd]
        refine Many.lex_want (by rfl) (rd (v := .bool false) (fun q => by (go_simp; (try rfl); (try (intro hneg; omega))))) ?_
        simp only [Act.put, List.setIfInBounds_toArray, List.set_cons_succ, List.set_cons_zero, Nat.reduceAdd]
        refine Many.lex_want (by rfl) (rd (v := .int .i64 ((j : Int) + 1)) (fun q => by (go_simp; (try rfl); (try (intro hneg; omega))))) ?_
        simp only [Act.put, List.setIfInBounds_toArray, List.set_cons_succ, List.set_cons_zero, Nat.reduceAdd]
        refine Many.lex_want (by rfl) (rd (v := .bool true) (fun q => by (go_simp; (try rfl); (try (intro hneg; omega))))) ?_
        simp only [Act.put, List.setIfInBounds_toArray, List.set_cons_succ, List.set_cons_zero, Nat.reduceAdd]
        refine Many.lex_want (by rfl) (rd (v := .bool true) (fun q => by (go_simp; (try rfl); (try (intro hneg; omega))))) ?_
        simp only [Act.put, List.setIfInBounds_toArray, List.set_cons_succ, List.set_cons_zero, Nat.reduceAdd]
        refine Many.lex_want (by rfl) (rd (v := .slice (some ⟨g', o', none⟩) m cap) (fun q => by (go_simp; (try rfl); (try (intro hneg; omega))))) ?_
        simp only [Act.put, List.setIfInBounds_toArray, List.set_cons_succ, List.set_cons_zero, Nat.reduceAdd]
        refine Many.lex_want (by rfl) (rd (v := .int .i64 ((j : Int) + 1)) (fun q => by (go_simp; (try rfl); (try (intro hneg; omega))))) ?_
        simp only [Act.put, List.setIfInBounds_toArray, List.set_cons_succ, List.set_cons_zero, Nat.reduceAdd]
        refine Many.lex_want (by rfl) (rd (v := .int .i64 (j : Int)) (fun q => by (go_simp; (try rfl); (try (intro hneg; omega))))) ?_
        simp only [Act.put, List.setIfInBounds_toArray, List.set_cons_succ, List.set_cons_zero, Nat.reduceAdd]
        refine Many.lex_want (by rfl) (rd (v := .pointer (some ⟨g', o' + j, none⟩)) (fun q => by (go_simp; (try rfl); (try (intro hneg; omega))))) ?_
        simp only [Act.put, List.setIfInBounds_toArray, List.set_cons_succ, List.set_cons_zero, Nat.reduceAdd]
        refine Many.lex_want (by rfl) (rd (v := .int .i64 y) (fun q => by (go_simp; (try rfl); (try (intro hneg; omega))))) ?_
        simp only [Act.put, List.setIfInBounds_toArray, List.set_cons_succ, List.set_cons_zero, Nat.reduceAdd]
        refine Many.lex_want (by rfl) (rd (v := .slice (some ⟨g', o', none⟩) m cap) (fun q => by (go_simp; (try rfl); (try (intro hneg; omega))))) ?_
        simp only [Act.put, List.setIfInBounds_toArray, List.set_cons_succ, List.set_cons_zero, Nat.reduceAdd]
        refine Many.lex_want (by rfl) (rd (v := .int .i64 ((j : Int) + 1)) (fun q => by (go_simp; (try rfl); (try (intro hneg; omega))))) ?_
        simp only [Act.put, List.setIfInBounds_toArray, List.set_cons_succ, List.set_cons_zero, Nat.reduceAdd]
        refine Many.lex_want (by rfl) (rd (v := .pointer (some ⟨g', o' + (j + 1), none⟩)) (fun q => by (go_simp; (try rfl); (try (intro hneg; omega))))) ?_
        simp only [Act.put, List.setIfInBounds_toArray, List.set_cons_succ, List.set_cons_zero, Nat.reduceAdd]
        refine Many.lex_want (by rfl) (rd (v := .int .i64 z) (fun q => by (go_simp; (try rfl); (try (intro hneg; omega))))) ?_
        simp only [Act.put, List.setIfInBounds_toArray, List.set_cons_succ, List.set_cons_zero, Nat.reduceAdd]
        refine Many.lex_want (by rfl) (rd (v := .bool false) (fun q => by (go_simp; (try rfl); (try (intro hneg; omega))))) ?_
        simp only [Act.put, List.setIfInBounds_toArray, List.set_cons_succ, List.set_cons_zero, Nat.reduceAdd]
        refine Many.lex_want (by rfl) (rd (v := .bool false) (fun q => by (go_simp; (try rfl); (try (intro hneg; omega))))) ?_
        simp only [Act.put, List.setIfInBounds_toArray, List.set_cons_succ, List.set_cons_zero, Nat.reduceAdd]
        refine Many.lex_want (by rfl) (rd (v := .bool false) (fun q => by (go_simp; (try rfl); (try (intro hneg; omega))))) ?_
        simp only [Act.put, List.setIfInBounds_toArray, List.set_cons_succ, List.set_cons_zero, Nat.reduceAdd]
        refine Many.lex_nil fun s9 W2 hs9 hS9 => ?_
        obtain ⟨q, rfl⟩ := hS9
        go_wp2
        exact ⟨⟨⟨j + 1 + 1, by omega, by go_num⟩, nn + q, by first | rfl | exact drewN_add _ _ _⟩, by simp [intOf]; omega⟩
    · obtain rfl : k = k0 := by omega
      have hlt' : (k : Int) < (m : Int) := by omega
      obtain ⟨g, o, rfl, c0⟩ := hck.out k (by omega)
      have hed := hbk.out
      obtain ⟨z, hz⟩ : ∃ z, zs.getD k 0 = z := ⟨_, rfl⟩
      rw [hz] at c0 hed
      have nk : ¬ (k : Int) < 0 := by omega
      by_cases hkz : k = 0
      · subst hkz
        rw [Nat.add_zero] at c0
        have hed2 : z < 0 ∨ (n : Int) ≤ z := by
          rcases Int.lt_or_le z 0 with h | h
          · exact .inl h
          · rcases Int.lt_or_le z n with h' | h'
            · exact absurd ⟨h, h', by show (-1 : Int) < z; omega⟩ hed
            · exact .inr h'
        clear hed hz hck h5k hbk
        by_cases hz0 : z < 0
        · clear hed2
          go_wp2
          refine (wpIn_wide (n := 0)).1 ?_
          refine Many.region_many (Cq (w.drewN nn)) hmx (by kernel_rfl) (fun s s' W' h hc => hc) (fun s hs => ⟨1, rfl⟩) ?_
          refine Many.lex_want (by rfl) (rd (v := .slice (some ⟨g, o, none⟩) m cap) (fun q => by (go_simp; (try rfl); (try (intro hneg; omega))))) ?_
          simp only [Act.put, List.setIfInBounds_toArray, List.set_cons_succ, List.set_cons_zero, Nat.reduceAdd]
          refine Many.lex_want (by rfl) (rd (v := .int .i64 (0 : Nat)) (fun q => by (go_simp; (try rfl); (try (intro hneg; omega))))) ?_
          simp only [Act.put, List.setIfInBounds_toArray, List.set_cons_succ, List.set_cons_zero, Nat.reduceAdd]
          refine Many.lex_want (by rfl) (rd (v := .pointer (some ⟨g, o, none⟩)) (fun q => by (go_simp; (try rfl); (try (intro hneg; omega))))) ?_
          simp only [Act.put, List.setIfInBounds_toArray, List.set_cons_succ, List.set_cons_zero, Nat.reduceAdd]
          refine Many.lex_want (by rfl) (rd (v := .int .i64 z) (fun q => by (go_simp; (try rfl); (try (intro hneg; omega))))) ?_
          simp only [Act.put, List.setIfInBounds_toArray, List.set_cons_succ, List.set_cons_zero, Nat.reduceAdd]
          refine Many.lex_want (by rfl) (rd (v := .bool true) (fun q => by (go_simp; (try rfl); (try (intro hneg; omega))))) ?_
          simp only [Act.put, List.setIfInBounds_toArray, List.set_cons_succ, List.set_cons_zero, Nat.reduceAdd]
          refine Many.lex_want (by rfl) (rd (v := .bool true) (fun q => by (go_simp; (try rfl); (try (intro hneg; omega))))) ?_
          simp only [Act.put, List.setIfInBounds_toArray, List.set_cons_succ, List.set_cons_zero, Nat.reduceAdd]
          refine lex_skip (by rfl) Cq.keep ?_
          simp only [Act.put, List.setIfInBounds_toArray, List.set_cons_succ, List.set_cons_zero, Nat.reduceAdd]
          refine lex_skip (by rfl) Cq.keep ?_
          simp only [Act.put, List.setIfInBounds_toArray, List.set_cons_succ, List.set_cons_zero, Nat.reduceAdd]
          refine lex_skip (by rfl) Cq.keep ?_
          simp only [Act.put, List.setIfInBounds_toArray, List.set_cons_succ, List.set_cons_zero, Nat.reduceAdd]
          refine lex_skip (by rfl) Cq.keep ?_
          simp only [Act.put, List.setIfInBounds_toArray, List.set_cons_succ, List.set_cons_zero, Nat.reduceAdd]
          refine lex_skip (by rfl) Cq.keep ?_
          simp only [Act.put, List.setIfInBounds_toArray, List.set_cons_succ, List.set_cons_zero, Nat.reduceAdd]
          refine lex_skip (by rfl) Cq.keep ?_
          simp only [Act.put, List.setIfInBounds_toArray, List.set_cons_succ, List.set_cons_zero, Nat.reduceAdd]
          refine Many.lex_want (by rfl) (rd (v := .bool true) (fun q => by (go_simp; (try rfl); (try (intro hneg; omega))))) ?_
          simp only [Act.put, List.setIfInBounds_toArray, List.set_cons_succ, List.set_cons_zero, Nat.reduceAdd]
          refine Many.lex_want (by rfl) (rd (v := .bool true) (fun q => by (go_simp; (try rfl); (try (intro hneg; omega))))) ?_
          simp only [Act.put, List.setIfInBounds_toArray, List.set_cons_succ, List.set_cons_zero, Nat.reduceAdd]
          refine lex_skip (by rfl) Cq.keep ?_
          simp only [Act.put, List.setIfInBounds_toArray, List.set_cons_succ, List.set_cons_zero, Nat.reduceAdd]
          refine lex_skip (by rfl) Cq.keep ?_
          simp only [Act.put, List.setIfInBounds_toArray, List.set_cons_succ, List.set_cons_zero, Nat.reduceAdd]
          refine lex_skip (by rfl) Cq.keep ?_
          simp only [Act.put, List.setIfInBounds_toArray, List.set_cons_succ, List.set_cons_zero, Nat.reduceAdd]
          refine lex_skip (by rfl) Cq.keep ?_
          simp only [Act.put, List.setIfInBounds_toArray, List.set_cons_succ, List.set_cons_zero, Nat.reduceAdd]
          refine lex_skip (by rfl) Cq.keep ?_
          simp only [Act.put, List.setIfInBounds_toArray, List.set_cons_succ, List.set_cons_zero, Nat.reduceAdd]
          refine lex_skip (by rfl) Cq.keep ?_
          simp only [Act.put, List.setIfInBounds_toArray, List.set_cons_succ, List.set_cons_zero, Nat.reduceAdd]
          refine lex_skip (by rfl) Cq.keep ?_
          simp only [Act.put, List.setIfInBounds_toArray, List.set_cons_succ, List.set_cons_zero, Nat.reduceAdd]
          refine lex_skip (by rfl) Cq.keep ?_
          simp only [Act.put, List.setIfInBounds_toArray, List.set_cons_succ, List.set_cons_zero, Nat.reduceAdd]
          refine lex_skip (by rfl) Cq.keep ?_
          simp only [Act.put, List.setIfInBounds_toArray, List.set_cons_succ, List.set_cons_zero, Nat.reduceAdd]
          refine lex_skip (by rfl) Cq.keep ?_
          simp only [Act.put, List.setIfInBounds_toArray, List.set_cons_succ, List.set_cons_zero, Nat.reduceAdd]
          refine lex_skip (by rfl) Cq.keep ?_
          simp only [Act.put, List.setIfInBounds_toArray, List.set_cons_succ, List.set_cons_zero, Nat.reduceAdd]
          refine lex_skip (by rfl) Cq.keep ?_
          simp only [Act.put, List.setIfInBounds_toArray, List.set_cons_succ, List.set_cons_zero, Nat.reduceAdd]
          refine lex_skip (by rfl) Cq.keep ?_
          simp only [Act.put, List.setIfInBounds_toArray, List.set_cons_succ, List.set_cons_zero, Nat.reduceAdd]
          refine lex_skip (by rfl) Cq.keep ?_
          simp only [Act.put, List.setIfInBounds_toArray, List.set_cons_succ, List.set_cons_zero, Nat.reduceAdd]
          refine Many.lex_want (by rfl) (rd (v := .bool true) (fun q => by (go_simp; (try rfl); (try (intro hneg; omega))))) ?_
          simp only [Act.put, List.setIfInBounds_toArray, List.set_cons_succ, List.set_cons_zero, Nat.reduceAdd]
          refine Many.lex_nil fun s9 W2 hs9 hS9 => ?_
          obtain ⟨q, rfl⟩ := hS9
          go_wp2
          refine bodyPost_ret (v := .bool false) (by simp [results, Try.results64, go_sem]) rfl ?_
          exact ⟨rfl, nn + q, by first | rfl | exact drewN_add _ _ _⟩
        · have hzn : z ≥ (n : Int) := by omega
          clear hed2
          go_wp2
          refine (wpIn_wide (n := 0)).1 ?_
          refine Many.region_many (Cq (w.drewN nn)) hmx (by kernel_rfl) (fun s s' W' h hc => hc) (fun s hs => ⟨1, rfl⟩) ?_
          refine Many.lex_want (by rfl) (rd (v := .slice (some ⟨g, o, none⟩) m cap) (fun q => by (go_simp; (try rfl); (try (intro hneg; omega))))) ?_
          simp only [Act.put, List.setIfInBounds_toArray, List.set_cons_succ, List.set_cons_zero, Nat.reduceAdd]
          refine Many.lex_want (by rfl) (rd (v := .int .i64 (0 : Nat)) (fun q => by (go_simp; (try rfl); (try (intro hneg; omega))))) ?_
          simp only [Act.put, List.setIfInBounds_toArray, List.set_cons_succ, List.set_cons_zero, Nat.reduceAdd]
          refine Many.lex_want (by rfl) (rd (v := .pointer (some ⟨g, o, none⟩)) (fun q => by (go_simp; (try rfl); (try (intro hneg; omega))))) ?_
          simp only [Act.put, List.setIfInBounds_toArray, List.set_cons_succ, List.set_cons_zero, Nat.reduceAdd]
          refine Many.lex_want (by rfl) (rd (v := .int .i64 z) (fun q => by (go_simp; (try rfl); (try (intro hneg; omega))))) ?_
          simp only [Act.put, List.setIfInBounds_toArray, List.set_cons_succ, List.set_cons_zero, Nat.reduceAdd]
          refine Many.lex_want (by rfl) (rd (v := .bool false) (fun q => by (go_simp; (try rfl); (try (intro hneg; omega))))) ?_
          simp only [Act.put, List.setIfInBounds_toArray, List.set_cons_succ, List.set_cons_zero, Nat.reduceAdd]
          refine Many.lex_want (by rfl) (rd (v := .bool false) (fun q => by (go_simp; (try rfl); (try (intro hneg; omega))))) ?_
          simp only [Act.put, List.setIfInBounds_toArray, List.set_cons_succ, List.set_cons_zero, Nat.reduceAdd]
          refine Many.lex_want (by rfl) (rd (v := .slice (some ⟨g, o, none⟩) m cap) (fun q => by (go_simp; (try rfl); (try (intro hneg; omega))))) ?_
          simp only [Act.put, List.setIfInBounds_toArray, List.set_cons_succ, List.set_cons_zero, Nat.reduceAdd]
          refine Many.lex_want (by rfl) (rd (v := .int .i64 (0 : Nat)) (fun q => by (go_simp; (try rfl); (try (intro hneg; omega))))) ?_
          simp only [Act.put, List.setIfInBounds_toArray, List.set_cons_succ, List.set_cons_zero, Nat.reduceAdd]
          refine Many.lex_want (by rfl) (rd (v := .pointer (some ⟨g, o, none⟩)) (fun q => by (go_simp; (try rfl); (try (intro hneg; omega))))) ?_
          simp only [Act.put, List.setIfInBounds_toArray, List.set_cons_succ, List.set_cons_zero, Nat.reduceAdd]
          refine Many.lex_want (by rfl) (rd (v := .int .i64 z) (fun q => by (go_simp; (try rfl); (try (intro hneg; omega))))) ?_
          simp only [Act.put, List.setIfInBounds_toArray, List.set_cons_succ, List.set_cons_zero, Nat.reduceAdd]
          refine Many.lex_want (by rfl) (rd (v := .int .i64 n) (fun q => by (go_simp; (try rfl); (try (intro hneg; omega))))) ?_
          simp only [Act.put, List.setIfInBounds_toArray, List.set_cons_succ, List.set_cons_zero, Nat.reduceAdd]
          refine Many.lex_want (by rfl) (rd (v := .bool true) (fun q => by (go_simp; (try rfl); (try (intro hneg; omega))))) ?_
          simp only [Act.put, List.setIfInBounds_toArray, List.set_cons_succ, List.set_cons_zero, Nat.reduceAdd]
          refine Many.lex_want (by rfl) (rd (v := .bool true) (fun q => by (go_simp; (try rfl); (try (intro hneg; omega))))) ?_
          simp only [Act.put, List.setIfInBounds_toArray, List.set_cons_succ, List.set_cons_zero, Nat.reduceAdd]
          refine Many.lex_want (by rfl) (rd (v := .bool true) (fun q => by (go_simp; (try rfl); (try (intro hneg; omega))))) ?_
          simp only [Act.put, List.setIfInBounds_toArray, List.set_cons_succ, List.set_cons_zero, Nat.reduceAdd]
          refine lex_skip (by rfl) Cq.keep ?_
          simp only [Act.put, List.setIfInBounds_toArray, List.set_cons_succ, List.set_cons_zero, Nat.reduceAdd]
          refine lex_skip (by rfl) Cq.keep ?_
          simp only [Act.put, List.setIfInBounds_toArray, List.set_cons_succ, List.set_cons_zero, Nat.reduceAdd]
          refine lex_skip (by rfl) Cq.keep ?_
          simp only [Act.put, List.setIfInBounds_toArray, List.set_cons_succ, List.set_cons_zero, Nat.reduceAdd]
          refine lex_skip (by rfl) Cq.keep ?_
          simp only [Act.put, List.setIfInBounds_toArray, List.set_cons_succ, List.set_cons_zero, Nat.reduceAdd]
          refine lex_skip (by rfl) Cq.keep ?_
          simp only [Act.put, List.setIfInBounds_toArray, List.set_cons_succ, List.set_cons_zero, Nat.reduceAdd]
          refine lex_skip (by rfl) Cq.keep ?_
          simp only [Act.put, List.setIfInBounds_toArray, List.set_cons_succ, List.set_cons_zero, Nat.reduceAdd]
          refine lex_skip (by rfl) Cq.keep ?_
          simp only [Act.put, List.setIfInBounds_toArray, List.set_cons_succ, List.set_cons_zero, Nat.reduceAdd]
          refine lex_skip (by rfl) Cq.keep ?_
          simp only [Act.put, List.setIfInBounds_toArray, List.set_cons_succ, List.set_cons_zero, Nat.reduceAdd]
          refine lex_skip (by rfl) Cq.keep ?_
          simp only [Act.put, List.setIfInBounds_toArray, List.set_cons_succ, List.set_cons_zero, Nat.reduceAdd]
          refine lex_skip (by rfl) Cq.keep ?_
          simp only [Act.put, List.setIfInBounds_toArray, List.set_cons_succ, List.set_cons_zero, Nat.reduceAdd]
          refine lex_skip (by rfl) Cq.keep ?_
          simp only [Act.put, List.setIfInBounds_toArray, List.set_cons_succ, List.set_cons_zero, Nat.reduceAdd]
          refine lex_skip (by rfl) Cq.keep ?_
          simp only [Act.put, List.setIfInBounds_toArray, List.set_cons_succ, List.set_cons_zero, Nat.reduceAdd]
          refine lex_skip (by rfl) Cq.keep ?_
          simp only [Act.put, List.setIfInBounds_toArray, List.set_cons_succ, List.set_cons_zero, Nat.reduceAdd]
          refine lex_skip (by rfl) Cq.keep ?_
          simp only [Act.put, List.setIfInBounds_toArray, List.set_cons_succ, List.set_cons_zero, Nat.reduceAdd]
          refine Many.lex_want (by rfl) (rd (v := .bool true) (fun q => by (go_simp; (try rfl); (try (intro hneg; omega))))) ?_
          simp only [Act.put, List.setIfInBounds_toArray, List.set_cons_succ, List.set_cons_zero, Nat.reduceAdd]
          refine Many.lex_nil fun s9 W2 hs9 hS9 => ?_
          obtain ⟨q, rfl⟩ := hS9
          go_wp2
          refine bodyPost_ret (v := .bool false) (by simp [results, Try.results64, go_sem]) rfl ?_
          exact ⟨rfl, nn + q, by first | rfl | exact drewN_add _ _ _⟩
      · obtain ⟨j, rfl⟩ : ∃ j, k = j + 1 := ⟨k - 1, by omega⟩
        obtain ⟨g', o', hA', c1⟩ := hck.out j (by omega)
        obtain ⟨rfl, rfl⟩ : g = g' ∧ o = o' := by
          injection hA' with h; injection h with h1 h2; exact ⟨h1, h2⟩
        rw [lastZ_pos (by rw [hm.out]; omega)] at hed
        generalize zs.getD j 0 = y at c1 hed
        have hj1 : ((j + 1 : Nat) : Int) = (j : Int) + 1 := by omega
        have hkp : ((j + 1 : Nat) : Int) > 0 := by omega
        have hjs : IntKind.i64.wrap ((j : Int) + 1 - 1) = (j : Int) := by rw [show (j : Int) + 1 - 1 = j by omega]; exact IntWalk.i64_in _ (by omega)
        have hjs2 : IntKind.i64.wrap (j : Int) = (j : Int) := IntWalk.i64_in _ (by omega)
        have hj0 : ¬ (j : Int) < 0 := by omega
        have hjm : (j : Int) < (m : Int) := by omega
        clear hz hck h5k hbk hA'
        by_cases hz0 : z < 0
        · clear hed
          go_wp2
          refine (wpIn_wide (n := 0)).1 ?_
          refine Many.region_many (Cq (w.drewN nn)) hmx (by kernel_rfl) (fun s s' W' h hc => hc) (fun s hs => ⟨1, rfl⟩) ?_
          refine Many.lex_want (by rfl) (rd (v := .slice (some ⟨g, o, none⟩) m cap) (fun q => by (go_simp; (try rfl); (try (intro hneg; omega))))) ?_
          simp only [Act.put, List.setIfInBounds_toArray, List.set_cons_succ, List.set_cons_zero, Nat.reduceAdd]
          refine Many.lex_want (by rfl) (rd (v := .int .i64 ((j : Int) + 1)) (fun q => by (go_simp; (try rfl); (try (intro hneg; omega))))) ?_
          simp only [Act.put, List.setIfInBounds_toArray, List.set_cons_succ, List.set_cons_zero, Nat.reduceAdd]
          refine Many.lex_want (by rfl) (rd (v := .pointer (some ⟨g, o + (j + 1), none⟩)) (fun q => by (go_simp; (try rfl); (try (intro hneg; omega))))) ?_
          simp only [Act.put, List.setIfInBounds_toArray, List.set_cons_succ, List.set_cons_zero, Nat.reduceAdd]
          refine Many.lex_want (by rfl) (rd (v := .int .i64 z) (fun q => by (go_simp; (try rfl); (try (intro hneg; omega))))) ?_
          simp only [Act.put, List.setIfInBounds_toArray, List.set_cons_succ, List.set_cons_zero, Nat.reduceAdd]
          refine Many.lex_want (by rfl) (rd (v := .bool true) (fun q => by (go_simp; (try rfl); (try (intro hneg; omega))))) ?_
          simp only [Act.put, List.setIfInBounds_toArray, List.set_cons_succ, List.set_cons_zero, Nat.reduceAdd]
          refine Many.lex_want (by rfl) (rd (v := .bool true) (fun q => by (go_simp; (try rfl); (try (intro hneg; omega))))) ?_
          simp only [Act.put, List.setIfInBounds_toArray, List.set_cons_succ, List.set_cons_zero, Nat.reduceAdd]
          refine lex_skip (by rfl) Cq.keep ?_
          simp only [Act.put, List.setIfInBounds_toArray, List.set_cons_succ, List.set_cons_zero, Nat.reduceAdd]
          refine lex_skip (by rfl) Cq.keep ?_
          simp only [Act.put, List.setIfInBounds_toArray, List.set_cons_succ, List.set_cons_zero, Nat.reduceAdd]
          refine lex_skip (by rfl) Cq.keep ?_
          simp only [Act.put, List.setIfInBounds_toArray, List.set_cons_succ, List.set_cons_zero, Nat.reduceAdd]
          refine lex_skip (by rfl) Cq.keep ?_
          simp only [Act.put, List.setIfInBounds_toArray, List.set_cons_succ, List.set_cons_zero, Nat.reduceAdd]
          refine lex_skip (by rfl) Cq.keep ?_
          simp only [Act.put, List.setIfInBounds_toArray, List.set_cons_succ, List.set_cons_zero, Nat.reduceAdd]
          refine lex_skip (by rfl) Cq.keep ?_
          simp only [Act.put, List.setIfInBounds_toArray, List.set_cons_succ, List.set_cons_zero, Nat.reduceAdd]
          refine Many.lex_want (by rfl) (rd (v := .bool true) (fun q => by (go_simp; (try rfl); (try (intro hneg; omega))))) ?_
          simp only [Act.put, List.setIfInBounds_toArray, List.set_cons_succ, List.set_cons_zero, Nat.reduceAdd]
          refine Many.lex_want (by rfl) (rd (v := .bool true) (fun q => by (go_simp; (try rfl); (try (intro hneg; omega))))) ?_
          simp only [Act.put, List.setIfInBounds_toArray, List.set_cons_succ, List.set_cons_zero, Nat.reduceAdd]
          refine lex_skip (by rfl) Cq.keep ?_
          simp only [Act.put, List.setIfInBounds_toArray, List.set_cons_succ, List.set_cons_zero, Nat.reduceAdd]
          refine lex_skip (by rfl) Cq.keep ?_
          simp only [Act.put, List.setIfInBounds_toArray, List.set_cons_succ, List.set_cons_zero, Nat.reduceAdd]
          refine lex_skip (by rfl) Cq.keep ?_
          simp only [Act.put, List.setIfInBounds_toArray, List.set_cons_succ, List.set_cons_zero, Nat.reduceAdd]
          refine lex_skip (by rfl) Cq.keep ?_
          simp only [Act.put, List.setIfInBounds_toArray, List.set_cons_succ, List.set_cons_zero, Nat.reduceAdd]
          refine lex_skip (by rfl) Cq.keep ?_
          simp only [Act.put, List.setIfInBounds_toArray, List.set_cons_succ, List.set_cons_zero, Nat.reduceAdd]
          refine lex_skip (by rfl) Cq.keep ?_
          simp only [Act.put, List.setIfInBounds_toArray, List.set_cons_succ, List.set_cons_zero, Nat.reduceAdd]
          refine lex_skip (by rfl) Cq.keep ?_
          simp only [Act.put, List.setIfInBounds_toArray, List.set_cons_succ, List.set_cons_zero, Nat.reduceAdd]
          refine lex_skip (by rfl) Cq.keep ?_
          simp only [Act.put, List.setIfInBounds_toArray, List.set_cons_succ, List.set_cons_zero, Nat.reduceAdd]
          refine lex_skip (by rfl) Cq.keep ?_
          simp only [Act.put, List.setIfInBounds_toArray, List.set_cons_succ, List.set_cons_zero, Nat.reduceAdd]
          refine lex_skip (by rfl) Cq.keep ?_
          simp only [Act.put, List.setIfInBounds_toArray, List.set_cons_succ, List.set_cons_zero, Nat.reduceAdd]
          refine lex_skip (by rfl) Cq.keep ?_
          simp only [Act.put, List.setIfInBounds_toArray, List.set_cons_succ, List.set_cons_zero, Nat.reduceAdd]
          refine lex_skip (by rfl) Cq.keep ?_
          simp only [Act.put, List.setIfInBounds_toArray, List.set_cons_succ, List.set_cons_zero, Nat.reduceAdd]
          refine lex_skip (by rfl) Cq.keep ?_
          simp only [Act.put, List.setIfInBounds_toArray, List.set_cons_succ, List.set_cons_zero, Nat.reduceAdd]
          refine lex_skip (by rfl) Cq.keep ?_
          simp only [Act.put, List.setIfInBounds_toArray, List.set_cons_succ, List.set_cons_zero, Nat.reduceAdd]
          refine Many.lex_want (by rfl) (rd (v := .bool true) (fun q => by (go_simp; (try rfl); (try (intro hneg; omega))))) ?_
          simp only [Act.put, List.setIfInBounds_toArray, List.set_cons_succ, List.set_cons_zero, Nat.reduceAdd]
          refine Many.lex_nil fun s9 W2 hs9 hS9 => ?_
          obtain ⟨q, rfl⟩ := hS9
          go_wp2
          refine bodyPost_ret (v := .bool false) (by simp [results, Try.results64, go_sem]) rfl ?_
          exact ⟨rfl, nn + q, by first | rfl | exact drewN_add _ _ _⟩
        · by_cases hzn : z ≥ (n : Int)
          · clear hed
            go_wp2
            refine (wpIn_wide (n := 0)).1 ?_
            refine Many.region_many (Cq (w.drewN nn)) hmx (by kernel_rfl) (fun s s' W' h hc => hc) (fun s hs => ⟨1, rfl⟩) ?_
            refine Many.lex_want (by rfl) (rd (v := .slice (some ⟨g, o, none⟩) m cap) (fun q => by (go_simp; (try rfl); (try (intro hneg; omega))))) ?_
            simp only [Act.put, List.setIfInBounds_toArray, List.set_cons_succ, List.set_cons_zero, Nat.reduceAdd]
            refine Many.lex_want (by rfl) (rd (v := .int .i64 ((j : Int) + 1)) (fun q => by (go_simp; (try rfl); (try (intro hneg; omega))))) ?_
            simp only [Act.put, List.setIfInBounds_toArray, List.set_cons_succ, List.set_cons_zero, Nat.reduceAdd]
            refine Many.lex_want (by rfl) (rd (v := .pointer (some ⟨g, o + (j + 1), none⟩)) (fun q => by (go_simp; (try rfl); (try (intro hneg; omega))))) ?_
            simp only [Act.put, List.setIfInBounds_toArray, List.set_cons_succ, List.set_cons_zero, Nat.reduceAdd]
            refine Many.lex_want (by rfl) (rd (v := .int .i64 z) (fun q => by (go_simp; (try rfl); (try (intro hneg; omega))))) ?_
            simp only [Act.put, List.setIfInBounds_toArray, List.set_cons_succ, List.set_cons_zero, Nat.reduceAdd]
            refine Many.lex_want (by rfl) (rd (v := .bool false) (fun q => by (go_simp; (try rfl); (try (intro hneg; omega))))) ?_
            simp only [Act.put, List.setIfInBounds_toArray, List.set_cons_succ, List.set_cons_zero, Nat.reduceAdd]
            refine Many.lex_want (by rfl) (rd (v := .bool false) (fun q => by (go_simp; (try rfl); (try (intro hneg; omega))))) ?_
            simp only [Act.put, List.setIfInBounds_toArray, List.set_cons_succ, List.set_cons_zero, Nat.reduceAdd]
            refine Many.lex_want (by rfl) (rd (v := .slice (some ⟨g, o, none⟩) m cap) (fun q => by (go_simp; (try rfl); (try (intro hneg; omega))))) ?_
            simp only [Act.put, List.setIfInBounds_toArray, List.set_cons_succ, List.set_cons_zero, Nat.reduceAdd]
            refine Many.lex_want (by rfl) (rd (v := .int .i64 ((j : Int) + 1)) (fun q => by (go_simp; (try rfl); (try (intro hneg; omega))))) ?_
            simp only [Act.put, List.setIfInBounds_toArray, List.set_cons_succ, List.set_cons_zero, Nat.reduceAdd]
            refine Many.lex_want (by rfl) (rd (v := .pointer (some ⟨g, o + (j + 1), none⟩)) (fun q => by (go_simp; (try rfl); (try (intro hneg; omega))))) ?_
            simp only [Act.put, List.setIfInBounds_toArray, List.set_cons_succ, List.set_cons_zero, Nat.reduceAdd]
            refine Many.lex_want (by rfl) (rd (v := .int .i64 z) (fun q => by (go_simp; (try rfl); (try (intro hneg; omega))))) ?_
            simp only [Act.put, List.setIfInBounds_toArray, List.set_cons_succ, List.set_cons_zero, Nat.reduceAdd]
            refine Many.lex_want (by rfl) (rd (v := .int .i64 n) (fun q => by (go_simp; (try rfl); (try (intro hneg; omega))))) ?_
            simp only [Act.put, List.setIfInBounds_toArray, List.set_cons_succ, List.set_cons_zero, Nat.reduceAdd]
            refine Many.lex_want (by rfl) (rd (v := .bool true) (fun q => by (go_simp; (try rfl); (try (intro hneg; omega))))) ?_
            simp only [Act.put, List.setIfInBounds_toArray, List.set_cons_succ, List.set_cons_zero, Nat.reduceAdd]
            refine Many.lex_want (by rfl) (rd (v := .bool true) (fun q => by (go_simp; (try rfl); (try (intro hneg; omega))))) ?_
            simp only [Act.put, List.setIfInBounds_toArray, List.set_cons_succ, List.set_cons_zero, Nat.reduceAdd]
            refine Many.lex_want (by rfl) (rd (v := .bool true) (fun q => by (go_simp; (try rfl); (try (intro hneg; omega))))) ?_
            simp only [Act.put, List.setIfInBounds_toArray, List.set_cons_succ, List.set_cons_zero, Nat.reduceAdd]
            refine lex_skip (by rfl) Cq.keep ?_
            simp only [Act.put, List.setIfInBounds_toArray, List.set_cons_succ, List.set_cons_zero, Nat.reduceAdd]
            refine lex_skip (by rfl) Cq.keep ?_
            simp only [Act.put, List.setIfInBounds_toArray, List.set_cons_succ, List.set_cons_zero, Nat.reduceAdd]
            refine lex_skip (by rfl) Cq.keep ?_
            simp only [Act.put, List.setIfInBounds_toArray, List.set_cons_succ, List.set_cons_zero, Nat.reduceAdd]
            refine lex_skip (by rfl) Cq.keep ?_
            simp only [Act.put, List.setIfInBounds_toArray, List.set_cons_succ, List.set_cons_zero, Nat.reduceAdd]
            refine lex_skip (by rfl) Cq.keep ?_
            simp only [Act.put, List.setIfInBounds_toArray, List.set_cons_succ, List.set_cons_zero, Nat.reduceAdd]
            refine lex_skip (by rfl) Cq.keep ?_
            simp only [Act.put, List.setIfInBounds_toArray, List.set_cons_succ, List.set_cons_zero, Nat.reduceAdd]
            refine lex_skip (by rfl) Cq.keep ?_
            simp only [Act.put, List.setIfInBounds_toArray, List.set_cons_succ, List.set_cons_zero, Nat.reduceAdd]
            refine lex_skip (by rfl) Cq.keep ?_
            simp only [Act.put, List.setIfInBounds_toArray, List.set_cons_succ, List.set_cons_zero, Nat.reduceAdd]
            refine lex_skip (by rfl) Cq.keep ?_
            simp only [Act.put, List.setIfInBounds_toArray, List.set_cons_succ, List.set_cons_zero, Nat.reduceAdd]
            refine lex_skip (by rfl) Cq.keep ?_
            simp only [Act.put, List.setIfInBounds_toArray, List.set_cons_succ, List.set_cons_zero, Nat.reduceAdd]
            refine lex_skip (by rfl) Cq.keep ?_
            simp only [Act.put, List.setIfInBounds_toArray, List.set_cons_succ, List.set_cons_zero, Nat.reduceAdd]
            refine lex_skip (by rfl) Cq.keep ?_
            simp only [Act.put, List.setIfInBounds_toArray, List.set_cons_succ, List.set_cons_zero, Nat.reduceAdd]
            refine lex_skip (by rfl) Cq.keep ?_
            simp only [Act.put, List.setIfInBounds_toArray, List.set_cons_succ, List.set_cons_zero, Nat.reduceAdd]
            refine lex_skip (by rfl) Cq.keep ?_
            simp only [Act.put, List.setIfInBounds_toArray, List.set_cons_succ, List.set_cons_zero, Nat.reduceAdd]
            refine Many.lex_want (by rfl) (rd (v := .bool true) (fun q => by (go_simp; (try rfl); (try (intro hneg; omega))))) ?_
            simp only [Act.put, List.setIfInBounds_toArray, List.set_cons_succ, List.set_cons_zero, Nat.reduceAdd]
            refine Many.lex_nil fun s9 W2 hs9 hS9 => ?_
            obtain ⟨q, rfl⟩ := hS9
            go_wp2
            refine bodyPost_ret (v := .bool false) (by simp [results, Try.results64, go_sem]) rfl ?_
            exact ⟨rfl, nn + q, by first | rfl | exact drewN_add _ _ _⟩
          · have hyz : y ≥ z := by
              rcases Int.lt_or_le y z with h | h
              · exact absurd ⟨by omega, by omega, h⟩ hed
              · exact h
            clear hed
            go_wp2
            refine (wpIn_wide (n := 0)).1 ?_
            refine Many.region_many (Cq (w.drewN nn)) hmx (by kernel_rfl) (fun s s' W' h hc => hc) (fun s hs => ⟨1, rfl⟩) ?_
            refine Many.lex_want (by rfl) (rd (v := .slice (some ⟨g, o, none⟩) m cap) (fun q => by (go_simp; (try rfl); (try (intro hneg; omega))))) ?_
            simp only [Act.put, List.setIfInBounds_toArray, List.set_cons_succ, List.set_cons_zero, Nat.reduceAdd]
            refine Many.lex_want (by rfl) (rd (v := .int .i64 ((j : Int) + 1)) (fun q => by (go_simp; (try rfl); (try (intro hneg; omega))))) ?_
            simp only [Act.put, List.setIfInBounds_toArray, List.set_cons_succ, List.set_cons_zero, Nat.reduceAdd]
            refine Many.lex_want (by rfl) (rd (v := .pointer (some ⟨g, o + (j + 1), none⟩)) (fun q => by (go_simp; (try rfl); (try (intro hneg; omega))))) ?_
            simp only [Act.put, List.setIfInBounds_toArray, List.set_cons_succ, List.set_cons_zero, Nat.reduceAdd]
            refine Many.lex_want (by rfl) (rd (v := .int .i64 z) (fun q => by (go_simp; (try rfl); (try (intro hneg; omega))))) ?_
            simp only [Act.put, List.setIfInBounds_toArray, List.set_cons_succ, List.set_cons_zero, Nat.reduceAdd]
            refine Many.lex_want (by rfl) (rd (v := .bool false) (fun q => by (go_simp; (try rfl); (try (intro hneg; omega))))) ?_
            simp only [Act.put, List.setIfInBounds_toArray, List.set_cons_succ, List.set_cons_zero, Nat.reduceAdd]
            refine Many.lex_want (by rfl) (rd (v := .bool false) (fun q => by (go_simp; (try rfl); (try (intro hneg; omega))))) ?_
            simp only [Act.put, List.setIfInBounds_toArray, List.set_cons_succ, List.set_cons_zero, Nat.reduceAdd]
            refine Many.lex_want (by rfl) (rd (v := .slice (some ⟨g, o, none⟩) m cap) (fun q => by (go_simp; (try rfl); (try (intro hneg; omega))))) ?_
            simp only [Act.put, List.setIfInBounds_toArray, List.set_cons_succ, List.set_cons_zero, Nat.reduceAdd]
            refine Many.lex_want (by rfl) (rd (v := .int .i64 ((j : Int) + 1)) (fun q => by (go_simp; (try rfl); (try (intro hneg; omega))))) ?_
            simp only [Act.put, List.setIfInBounds_toArray, List.set_cons_succ, List.set_cons_zero, Nat.reduceAdd]
            refine Many.lex_want (by rfl) (rd (v := .pointer (some ⟨g, o + (j + 1), none⟩)) (fun q => by (go_simp; (try rfl); (try (intro hneg; omega))))) ?_
            simp only [Act.put, List.setIfInBounds_toArray, List.set_cons_succ, List.set_cons_zero, Nat.reduceAdd]
            refine Many.lex_want (by rfl) (rd (v := .int .i64 z) (fun q => by (go_simp; (try rfl); (try (intro hneg; omega))))) ?_
            simp only [Act.put, List.setIfInBounds_toArray, List.set_cons_succ, List.set_cons_zero, Nat.reduceAdd]
            refine Many.lex_want (by rfl) (rd (v := .int .i64 n) (fun q => by (go_simp; (try rfl); (try (intro hneg; omega))))) ?_
            simp only [Act.put, List.setIfInBounds_toArray, List.set_cons_succ, List.set_cons_zero, Nat.reduceAdd]
            refine Many.lex_want (by rfl) (rd (v := .bool false) (fun q => by (go_simp; (try rfl); (try (intro hneg; omega))))) ?_
            simp only [Act.put, List.setIfInBounds_toArray, List.set_cons_succ, List.set_cons_zero, Nat.reduceAdd]
            refine Many.lex_want (by rfl) (rd (v := .bool false) (fun q => by (go_simp; (try rfl); (try (intro hneg; omega))))) ?_
            simp only [Act.put, List.setIfInBounds_toArray, List.set_cons_succ, List.set_cons_zero, Nat.reduceAdd]
            refine Many.lex_want (by rfl) (rd (v := .bool false) (fun q => by (go_simp; (try rfl); (try (intro hneg; omega))))) ?_
            simp only [Act.put, List.setIfInBounds_toArray, List.set_cons_succ, List.set_cons_zero, Nat.reduceAdd]
            refine Many.lex_want (by rfl) (rd (v := .int .i64 ((j : Int) + 1)) (fun q => by (go_simp; (try rfl); (try (intro hneg; omega))))) ?_
            simp only [Act.put, List.setIfInBounds_toArray, List.set_cons_succ, List.set_cons_zero, Nat.reduceAdd]
            refine Many.lex_want (by rfl) (rd (v := .bool true) (fun q => by (go_simp; (try rfl); (try (intro hneg; omega))))) ?_
            simp only [Act.put, List.setIfInBounds_toArray, List.set_cons_succ, List.set_cons_zero, Nat.reduceAdd]
            refine Many.lex_want (by rfl) (rd (v := .bool true) (fun q => by (go_simp; (try rfl); (try (intro hneg; omega))))) ?_
            simp only [Act.put, List.setIfInBounds_toArray, List.set_cons_succ, List.set_cons_zero, Nat.reduceAdd]
            refine Many.lex_want (by rfl) (rd (v := .slice (some ⟨g, o, none⟩) m cap) (fun q => by (go_simp; (try rfl); (try (intro hneg; omega))))) ?_
            simp only [Act.put, List.setIfInBounds_toArray, List.set_cons_succ, List.set_cons_zero, Nat.reduceAdd]
            refine Many.lex_want (by rfl) (rd (v := .int .i64 ((j : Int) + 1)) (fun q => by (go_simp; (try rfl); (try (intro hneg; omega))))) ?_
            simp only [Act.put, List.setIfInBounds_toArray, List.set_cons_succ, List.set_cons_zero, Nat.reduceAdd]
            refine Many.lex_want (by rfl) (rd (v := .int .i64 (j : Int)) (fun q => by (go_simp; (try rfl); (try (intro hneg; omega))))) ?_
            simp only [Act.put, List.setIfInBounds_toArray, List.set_cons_succ, List.set_cons_zero, Nat.reduceAdd]
            refine Many.lex_want (by rfl) (rd (v := .pointer (some ⟨g, o + j, none⟩)) (fun q => by (go_simp; (try rfl); (try (intro hneg; omega))))) ?_
            simp only [Act.put, List.setIfInBounds_toArray, List.set_cons_succ, List.set_cons_zero, Nat.reduceAdd]
            refine Many.lex_want (by rfl) (rd (v := .int .i64 y) (fun q => by (go_simp; (try rfl); (try (intro hneg; omega))))) ?_
            simp only [Act.put, List.setIfInBounds_toArray, List.set_cons_succ, List.set_cons_zero, Nat.reduceAdd]
            refine Many.lex_want (by rfl) (rd (v := .slice (some ⟨g, o, none⟩) m cap) (fun q => by (go_simp; (try rfl); (try (intro hneg; omega))))) ?_
            simp only [Act.put, List.setIfInBounds_toArray, List.set_cons_succ, List.set_cons_zero, Nat.reduceAdd]
            refine Many.lex_want (by rfl) (rd (v := .int .i64 ((j : Int) + 1)) (fun q => by (go_simp; (try rfl); (try (intro hneg; omega))))) ?_
            simp only [Act.put, List.setIfInBounds_toArray, List.set_cons_succ, List.set_cons_zero, Nat.reduceAdd]
            refine Many.lex_want (by rfl) (rd (v := .pointer (some ⟨g, o + (j + 1), none⟩)) (fun q => by (go_simp; (try rfl); (try (intro hneg; omega))))) ?_
            simp only [Act.put, List.setIfInBounds_toArray, List.set_cons_succ, List.set_cons_zero, Nat.reduceAdd]
            refine Many.lex_want (by rfl) (rd (v := .int .i64 z) (fun q => by (go_simp; (try rfl); (try (intro hneg; omega))))) ?_
            simp only [Act.put, List.setIfInBounds_toArray, List.set_cons_succ, List.set_cons_zero, Nat.reduceAdd]
            refine Many.lex_want (by rfl) (rd (v := .bool true) (fun q => by (go_simp; (try rfl); (try (intro hneg; omega))))) ?_
            simp only [Act.put, List.setIfInBounds_toArray, List.set_cons_succ, List.set_cons_zero, Nat.reduceAdd]
            refine Many.lex_want (by rfl) (rd (v := .bool true) (fun q => by (go_simp; (try rfl); (try (intro hneg; omega))))) ?_
            simp only [Act.put, List.setIfInBounds_toArray, List.set_cons_succ, List.set_cons_zero, Nat.reduceAdd]
            refine Many.lex_want (by rfl) (rd (v := .bool true) (fun q => by (go_simp; (try rfl); (try (intro hneg; omega))))) ?_
            simp only [Act.put, List.setIfInBounds_toArray, List.set_cons_succ, List.set_cons_zero, Nat.reduceAdd]
            refine Many.lex_nil fun s9 W2 hs9 hS9 => ?_
            obtain ⟨q, rfl⟩ := hS9
            go_wp2
            refine bodyPost_ret (v := .bool false) (by simp [results, Try.results64, go_sem]) rfl ?_
            exact ⟨rfl, nn + q, by first | rfl | exact drewN_add _ _ _⟩
theorem listed_no {n : Nat} {v : Value} {zs : List Int} {w : World} (hv : IntsO w v zs) (hl : zs.length ≤ 100000) (hno : ¬ ListOk n zs) :
    Calls Try.prog 64 #[.int .i64 n, v] w fun e w' => e = .returned (.bool false) ∧ ∃ q, w' = w.drewN q := by
  have : ∃ k, k < zs.length ∧ ¬ (0 ≤ zs.getD k 0 ∧ zs.getD k 0 < n ∧ lastZ (zs.take k) < zs.getD k 0) := by
    rcases Classical.em (∃ k, k < zs.length ∧ ¬ (0 ≤ zs.getD k 0 ∧ zs.getD k 0 < n ∧ lastZ (zs.take k) < zs.getD k 0)) with h | h
    · exact h
    · refine absurd ⟨fun k hk => ?_⟩ hno
      rcases Classical.em (0 ≤ zs.getD k 0 ∧ zs.getD k 0 < n ∧ lastZ (zs.take k) < zs.getD k 0) with h' | h'
      · exact h'
      · exact absurd ⟨k, hk, h'⟩ h
  obtain ⟨k, h3, h4, h5⟩ := firstBad zs.length this
  exact listed_bad hv hl h3 h5 h4
set_option maxRecDepth 100000 in
theorem valid_yes {n : Nat} {v v2 : Value} {ps : Pts} {zs : List Int} {w : World} (hv : PairsOf w v ps) (hok : GrOk n ps) (hl : ps.length ≤ 200) (hv2 : IntsO w v2 zs) (hzk : ListOk n zs) (hl2 : zs.length ≤ 100) :
    Calls Try.prog 22 #[.int .i64 n, v, v2] w fun e w' => e = .returned (.bool true) ∧ ∃ q, w' = w.drewN q := by
  have q36 := refGraph_run hv hl (R := true) ⟨fun _ => hok, fun _ => rfl⟩
  have q64 : Keep (∀ q, Calls Try.prog 64 #[.int .i64 n, v2] (w.drewN q) fun e w' => e = .returned (.bool true) ∧ ∃ q', w' = (w.drewN q).drewN q') := ⟨fun q => listed_yes (intsO_below hv2 (below_dn w q)) hzk (by omega)⟩
  go_enter Try.func22, Try.ntmps22
  go_wp2_with (first
    | (go_at_call 36; (with_reducible refine q36.mono ?_); rintro e w5 ⟨rfl, n1, rfl⟩
       have q6 := q64.out n1)
    | (go_at_call 64; (with_reducible refine q6.mono ?_); rintro e w5 ⟨rfl, n2, rfl⟩))
  go_ret
  exact ⟨rfl, n1 + n2, by first | rfl | exact drewN_add _ _ _⟩
set_option maxRecDepth 100000 in
theorem valid_no {n : Int} {v v2 : Value} {ps : Pts} {zs : List Int} {w : World} (hv : PairsOf w v ps) (hl : ps.length ≤ 200) (hv2 : IntsO w v2 zs) (hl2 : zs.length ≤ 100) (hno : ¬ (GrOk n ps ∧ ListOk n zs)) :
    Calls Try.prog 22 #[.int .i64 n, v, v2] w fun e w' => e = .returned (.bool false) ∧ ∃ q, w' = w.drewN q := by
  by_cases hok : GrOk n ps
  · obtain ⟨m, rfl⟩ : ∃ m : Nat, n = m := ⟨n.toNat, by have := hok.n1; omega⟩
    have hnl : ¬ ListOk m zs := fun h => hno ⟨hok, h⟩
    have q36 := refGraph_run hv hl (R := true) ⟨fun _ => hok, fun _ => rfl⟩
    have q64 : Keep (∀ q, Calls Try.prog 64 #[.int .i64 m, v2] (w.drewN q) fun e w' => e = .returned (.bool false) ∧ ∃ q', w' = (w.drewN q).drewN q') := ⟨fun q => listed_no (intsO_below hv2 (below_dn w q)) (by omega) hnl⟩
    go_enter Try.func22, Try.ntmps22
    go_wp2_with (first
      | (go_at_call 36; (with_reducible refine q36.mono ?_); rintro e w5 ⟨rfl, n1, rfl⟩
         have q6 := q64.out n1)
      | (go_at_call 64; (with_reducible refine q6.mono ?_); rintro e w5 ⟨rfl, n2, rfl⟩))
    go_ret
    exact ⟨rfl, n1 + n2, by first | rfl | exact drewN_add _ _ _⟩
  · have q36 := refGraph_run hv hl (R := false) ⟨fun h => absurd h (by decide), fun h => absurd h hok⟩
    go_enter Try.func22, Try.ntmps22
    go_wp2_with (first
      | (go_at_call 36; (with_reducible refine q36.mono ?_); rintro e w5 ⟨rfl, n1, rfl⟩))
    go_ret
    exact ⟨rfl, n1, rfl⟩
theorem thr_any (r : Int) (w : World) : Calls Try.prog 32 #[.int .i64 r] w fun e w' => e = .returned (.bool (decide (1 ≤ r ∧ r ≤ 6))) ∧ w' = w := by
  by_cases h1 : 1 ≤ r
  · by_cases h2 : r ≤ 6
    · rw [decide_eq_true ⟨h1, h2⟩]
      go_enter Try.func32, Try.ntmps32
      go_wp2
      go_ret
      exact ⟨rfl, rfl⟩
    · rw [decide_eq_false (fun h => h2 h.2)]
      go_enter Try.func32, Try.ntmps32
      go_wp2
      go_ret
      exact ⟨rfl, rfl⟩
  · rw [decide_eq_false (fun h => h1 h.1)]
    go_enter Try.func32, Try.ntmps32
    go_wp2
    go_ret
    exact ⟨rfl, rfl⟩
end Go.Proofs.Yteekigpdiklppaa
set_option linter.unusedSimpArgs false
set_option linter.unusedVariables false
namespace Go.Proofs.Yteekigpdiklppaa
open Go Go.Proofs Go.RowKit Go.Seq
attribute [local go_sem] Oper.semAt_some
/-! A law's graph that is one, and its set that is one. -/
theorem tok_of {N : Nat} {ps : Pts} (h : GrOk N ps) : ∀ k, k ≤ ps.length → TOk N (ps.take k)
  | 0, _ => by rw [List.take_zero]; exact .nil N
  | k + 1, hk => by
    have ih := tok_of h k (by omega)
    have hE := h.ed k (by omega)
    rw [takep (by omega)]
    have h12 := h.n12
    refine ih.push (by omega) hE.a0 hE.ab hE.bn (fun hm => ?_)
    have hn := hE.new
    have h0 := hE.a0
    have h1 := hE.b0
    have : adjOf (ps.take k) (ps.getD k (0, 0)).1.toNat (ps.getD k (0, 0)).2.toNat = true := by
      unfold adjOf
      rw [List.any_eq_true]
      refine ⟨_, hm, ?_⟩
      simp only [Bool.or_eq_true, Bool.and_eq_true, beq_iff_eq]
      exact .inl ⟨by omega, by omega⟩
    rw [this] at hn; cases hn
theorem gok_of {N : Nat} {ps : Pts} (h : GrOk N ps) : GOk N ps := ⟨by have := h.n1; omega, by have := h.n12; omega, by
  have := tok_of h ps.length (Nat.le_refl _)
  rwa [List.take_length] at this⟩
theorem vsTo_top {s : Nat → Bool} {u : Nat} (h : ∀ j, s j = true → j < u) : ∀ M, u < M → vsTo (adds s u) M = vsTo s M ++ [u]
  | 0, hM => by omega
  | M + 1, hM => by
    have hMu : s M = false := by
      cases e : s M with
      | false => rfl
      | true => have := h M e; omega
    rw [vsTo_succ, vsTo_succ s, hMu]
    by_cases e : u = M
    · subst e
      rw [if_pos (show adds s u u = true by simp [adds]), if_neg (by simp), vsTo_cg (t := s) u (fun j hj => by
        unfold adds
        rw [if_neg (by omega)])]
    · rw [if_neg (show ¬ adds s u M = true by unfold adds; rw [if_neg (by omega), hMu]; simp), if_neg (by simp)]
      exact vsTo_top h M (by omega)
theorem canon_to {N : Nat} {zs : List Int} (h : ListOk N zs) (hN : N ≤ 12) : ∀ k, k ≤ zs.length → zs.take k = zsOf (setOf (zs.take k)) ∧ ∀ j : Nat, setOf (zs.take k) j = true → (j : Int) ≤ lastZ (zs.take k)
  | 0, _ => by
    refine ⟨?_, fun j hj => by simp [setOf] at hj⟩
    rw [List.take_zero]
    show [] = (vsTo (setOf []) 12).map fun (u : Nat) => (u : Int)
    rfl
  | k + 1, hk => by
    obtain ⟨ih1, ih2⟩ := canon_to h hN k (by omega)
    obtain ⟨e1, e2, e3⟩ := h.el k (by omega)
    obtain ⟨u, hu⟩ : ∃ u : Nat, zs.getD k 0 = u := ⟨(zs.getD k 0).toNat, by omega⟩
    have hst := setOf_take zs (by omega) hu
    have htk := takez (zs := zs) (k := k) (by omega)
    rw [hu] at htk e1 e2 e3
    rw [htk] at hst ⊢
    have hlast : lastZ (zs.take k ++ [(u : Int)]) = u := by simp [lastZ]
    rw [hlast, hst]
    have hlt : ∀ j, setOf (zs.take k) j = true → j < u := fun j hj => by have := ih2 j hj; omega
    constructor
    · unfold zsOf
      rw [vsTo_top hlt 12 (by omega), List.map_append]
      exact congrArg (· ++ [(u : Int)]) ih1
    · intro j hj
      unfold adds at hj
      split at hj
      · omega
      · have := hlt j hj; omega
theorem canon {N : Nat} {zs : List Int} (h : ListOk N zs) (hN : N ≤ 12) : zs = zsOf (setOf zs) ∧ InN N (setOf zs) := by
  have := (canon_to h hN zs.length (Nat.le_refl _)).1
  rw [List.take_length] at this
  refine ⟨this, fun j h1 h2 => ?_⟩
  cases e : setOf zs j with
  | false => rfl
  | true =>
    unfold setOf at e
    rw [List.any_eq_true] at e
    obtain ⟨z, hz, hj⟩ := e
    rw [List.mem_iff_getElem] at hz
    obtain ⟨k, hk, rfl⟩ := hz
    have := (h.el k hk).2.1
    rw [List.getD_eq_getElem?_getD, List.getElem?_eq_getElem hk] at this
    rw [beq_iff_eq] at hj
    simp only [Option.getD_some] at this
    omega
/-! The arguments. -/
def ArgP (w : World) (v : Value) (ps : Pts) : Prop := (v = .slice none 0 0 ∧ ps = []) ∨ (∃ a cap, v = .slice (some a) 0 cap ∧ ps = []) ∨ ∃ b o cap, v = .slice (some ⟨b, o, none⟩) ps.length cap ∧ ps.length ≤ cap ∧ ps.length ≤ maxLen ∧
  ∀ k, k < ps.length → w.cell? ⟨b, o + k * 2, none⟩ = some (vz (ps.getD k (0, 0)).1) ∧ w.cell? ⟨b, o + k * 2 + 1, none⟩ = some (vz (ps.getD k (0, 0)).2)
def ArgZ (w : World) (v : Value) (zs : List Int) : Prop := (v = .slice none 0 0 ∧ zs = []) ∨ (∃ a cap, v = .slice (some a) 0 cap ∧ zs = []) ∨ ∃ b o cap, v = .slice (some ⟨b, o, none⟩) zs.length cap ∧ zs.length ≤ cap ∧ zs.length ≤ maxLen ∧
  ∀ k, k < zs.length → w.cell? ⟨b, o + k, none⟩ = some (vz (zs.getD k 0))
theorem argP_below {w w' : World} {v : Value} {ps : Pts} (h : ArgP w v ps) (b : Below w.heap.size w w') : ArgP w' v ps := by
  rcases h with h | h | ⟨g, o, cap, h1, h2, h3, h4⟩
  · exact .inl h
  · exact .inr (.inl h)
  · exact .inr (.inr ⟨g, o, cap, h1, h2, h3, fun k hk => ⟨cell_below (h4 k hk).1 b, cell_below (h4 k hk).2 b⟩⟩)
theorem argZ_below {w w' : World} {v : Value} {zs : List Int} (h : ArgZ w v zs) (b : Below w.heap.size w w') : ArgZ w' v zs := by
  rcases h with h | h | ⟨g, o, cap, h1, h2, h3, h4⟩
  · exact .inl h
  · exact .inr (.inl h)
  · exact .inr (.inr ⟨g, o, cap, h1, h2, h3, fun k hk => cell_below (h4 k hk) b⟩)
theorem cellsP {w : World} {b o m : Nat} {ps : Pts} (hm : m ≤ ps.length) (hc : ∀ k, k < ps.length → w.cell? ⟨b, o + k * 2, none⟩ = some (vz (ps.getD k (0, 0)).1) ∧ w.cell? ⟨b, o + k * 2 + 1, none⟩ = some (vz (ps.getD k (0, 0)).2)) :
    ∀ j u, (enc2 (ps.take m))[j]? = some u → w.cell? ((⟨b, o, none⟩ : Addr).add j) = some u := by
  intro j u hj
  have hl : j < (ps.take m).length * 2 := by
    have := (List.getElem?_eq_some_iff.1 hj).1
    rw [enc2_len] at this; exact this
  rw [List.length_take] at hl
  have hplain : (⟨b, o, none⟩ : Addr).add j = ⟨b, o + j, none⟩ := by unfold Addr.add; split <;> simp_all
  rw [hplain]
  have hk : j / 2 < (ps.take m).length := by rw [List.length_take]; omega
  obtain ⟨h1, h2⟩ := enc2_at (ps.take m) hk
  obtain ⟨c1, c2⟩ := hc (j / 2) (by omega)
  have hg : (ps.take m).getD (j / 2) (0, 0) = ps.getD (j / 2) (0, 0) := by
    rw [List.getD_eq_getElem?_getD, List.getD_eq_getElem?_getD, List.getElem?_take_of_lt (by omega)]
  rw [hg] at h1 h2
  rcases Nat.mod_two_eq_zero_or_one j with h | h
  · rw [show j / 2 * 2 = j by omega] at h1 c1
    rw [hj] at h1; injection h1 with h1
    rw [h1]; exact c1
  · rw [show j / 2 * 2 + 1 = j by omega] at h2
    rw [show o + j / 2 * 2 + 1 = o + j by omega] at c2
    rw [hj] at h2; injection h2 with h2
    rw [h2]; exact c2
theorem cellsZ {w : World} {b o m : Nat} {zs : List Int} (hm : m ≤ zs.length) (hc : ∀ k, k < zs.length → w.cell? ⟨b, o + k, none⟩ = some (vz (zs.getD k 0))) :
    ∀ j u, ((zs.take m).map vz)[j]? = some u → w.cell? ((⟨b, o, none⟩ : Addr).add j) = some u := by
  intro j u hj
  have hjl : j < m := by
    have := (List.getElem?_eq_some_iff.1 hj).1
    simp at this; omega
  have hplain : (⟨b, o, none⟩ : Addr).add j = ⟨b, o + j, none⟩ := by unfold Addr.add; split <;> simp_all
  rw [hplain, hc j (by omega), ← hj, List.getElem?_map, List.getElem?_take_of_lt (by omega), List.getElem?_eq_getElem (show j < zs.length by omega), List.getD_eq_getElem?_getD, List.getElem?_eq_getElem (show j < zs.length by omega)]
  rfl
set_option maxHeartbeats 1000000 in
set_option maxRecDepth 100000 in
theorem pairs_arg {v : Value} {ps : Pts} {w : World} (hv : ArgP w v ps) :
    Calls Try.prog 17 #[v] w fun e w' => ∃ v', e = .returned v' ∧ w'.ownsRow w.heap.size 63 2 v' (ps.take 80).length (enc2 (ps.take 80)) ∧ Below w.heap.size w w' := by
  obtain ⟨i0, hi, hz0, hz1, hz2⟩ := info63_parts
  rcases hv with ⟨rfl, rfl⟩ | ⟨a, cap, rfl, rfl⟩ | ⟨b, o, cap, rfl, hcap, hmax, hc⟩
  · go_enter Try.func17, Try.ntmps17
    go_wp2
    go_ret
    exact ⟨_, rfl, World.ownsRow_nil _ _ _ _, Below.refl _ _⟩
  · go_enter Try.func17, Try.ntmps17
    go_wp2_with (at_builtin; go_loud (
      refine wpList_append_own _ rfl _ _ 22 rfl w.heap.size 63 i0 (.agg #[.int .i64 0, .int .i64 0]) 2 16 ty22 hi hz0 hz1 hz2 rfl (by decide) _ 0 [] rfl (World.ownsRow_nil _ _ _ _) a 0 cap [] rfl (by simp) (by simp) (by simp) (by unfold maxLen; omega) (by omega) (by simp) ?_
      intro v' w3 hown' hgrow3 hnil3
      have hbw3 : Below w.heap.size w w3 := Below.grown (Below.refl _ _) hgrow3 (by simp) (fun k hk => by cases hk)))
    go_ret
    refine ⟨_, rfl, ?_, hbw3⟩
    simpa [enc2] using hown'
  · by_cases hl : ps.length ≤ 80
    · have e : ps.take 80 = ps := List.take_of_length_le (by omega)
      rw [e]
      have hcs := cellsP (m := ps.length) (Nat.le_refl _) hc
      rw [List.take_length] at hcs
      clear hc
      go_enter Try.func17, Try.ntmps17
      go_wp2_with (at_builtin; go_loud (
        refine wpList_append_own _ rfl _ _ 22 rfl w.heap.size 63 i0 (.agg #[.int .i64 0, .int .i64 0]) 2 16 ty22 hi hz0 hz1 hz2 rfl (by decide) _ 0 [] rfl (World.ownsRow_nil _ _ _ _) ⟨b, o, none⟩ ps.length cap (enc2 ps) rfl (by rw [enc2_len]) hcs (enc2_one ps) (by unfold maxLen at *; omega) (by omega) (by simp) ?_
        intro v' w3 hown' hgrow3 hnil3
        have hbw3 : Below w.heap.size w w3 := Below.grown (Below.refl _ _) hgrow3 (by simp) (fun k hk => by cases hk)))
      go_ret
      refine ⟨_, rfl, ?_, hbw3⟩
      simpa using hown'
    · have hlen : (ps.take 80).length = 80 := by rw [List.length_take]; omega
      rw [hlen]
      have hcs := cellsP (m := 80) (by omega) hc
      clear hc
      have hge : (80 : Int) < (ps.length : Int) := by omega
      go_enter Try.func17, Try.ntmps17
      go_wp2_with (at_builtin; go_loud (
        refine wpList_append_own _ rfl _ _ 22 rfl w.heap.size 63 i0 (.agg #[.int .i64 0, .int .i64 0]) 2 16 ty22 hi hz0 hz1 hz2 rfl (by decide) _ 0 [] rfl (World.ownsRow_nil _ _ _ _) ⟨b, o, none⟩ 80 cap (enc2 (ps.take 80)) rfl (by rw [enc2_len, hlen]) hcs (enc2_one (ps.take 80)) (by unfold maxLen at *; omega) (by omega) (by simp) ?_
        intro v' w3 hown' hgrow3 hnil3
        have hbw3 : Below w.heap.size w w3 := Below.grown (Below.refl _ _) hgrow3 (by simp) (fun k hk => by cases hk)))
      go_ret
      refine ⟨_, rfl, ?_, hbw3⟩
      simpa using hown'
set_option maxHeartbeats 1000000 in
set_option maxRecDepth 100000 in
theorem list_arg {v : Value} {zs : List Int} {w : World} (hv : ArgZ w v zs) :
    Calls Try.prog 18 #[v] w fun e w' => ∃ v', e = .returned v' ∧ w'.ownsRow w.heap.size 3 1 v' (zs.take 13).length ((zs.take 13).map vz) ∧ Below w.heap.size w w' := by
  obtain ⟨i0, hi, hz0, hz1, hz2⟩ := info3_parts
  rcases hv with ⟨rfl, rfl⟩ | ⟨a, cap, rfl, rfl⟩ | ⟨b, o, cap, rfl, hcap, hmax, hc⟩
  · go_enter Try.func18, Try.ntmps18
    go_wp2
    go_ret
    exact ⟨_, rfl, World.ownsRow_nil _ _ _ _, Below.refl _ _⟩
  · go_enter Try.func18, Try.ntmps18
    go_wp2_with (at_builtin; go_loud (
      refine wpList_append_own _ rfl _ _ 23 rfl w.heap.size 3 i0 (.int .i64 0) 1 8 ty24 hi hz0 hz1 hz2 rfl (by decide) _ 0 [] rfl (World.ownsRow_nil _ _ _ _) a 0 cap [] rfl (by simp) (by simp) (by simp) (by unfold maxLen; omega) (by omega) (by simp) ?_
      intro v' w3 hown' hgrow3 hnil3
      have hbw3 : Below w.heap.size w w3 := Below.grown (Below.refl _ _) hgrow3 (by simp) (fun k hk => by cases hk)))
    go_ret
    refine ⟨_, rfl, ?_, hbw3⟩
    simpa [enc2] using hown'
  · by_cases hl : zs.length ≤ 13
    · have e : zs.take 13 = zs := List.take_of_length_le (by omega)
      rw [e]
      have hcs := cellsZ (m := zs.length) (Nat.le_refl _) hc
      rw [List.take_length] at hcs
      clear hc
      go_enter Try.func18, Try.ntmps18
      go_wp2_with (at_builtin; go_loud (
        refine wpList_append_own _ rfl _ _ 23 rfl w.heap.size 3 i0 (.int .i64 0) 1 8 ty24 hi hz0 hz1 hz2 rfl (by decide) _ 0 [] rfl (World.ownsRow_nil _ _ _ _) ⟨b, o, none⟩ zs.length cap (zs.map vz) rfl (by simp) hcs (fun x hx => by rw [List.mem_map] at hx; obtain ⟨_, _, rfl⟩ := hx; rfl) (by unfold maxLen at *; omega) (by omega) (by simp) ?_
        intro v' w3 hown' hgrow3 hnil3
        have hbw3 : Below w.heap.size w w3 := Below.grown (Below.refl _ _) hgrow3 (by simp) (fun k hk => by cases hk)))
      go_ret
      refine ⟨_, rfl, ?_, hbw3⟩
      simpa using hown'
    · have hlen : (zs.take 13).length = 13 := by rw [List.length_take]; omega
      rw [hlen]
      have hcs := cellsZ (m := 13) (by omega) hc
      clear hc
      have hge : (13 : Int) < (zs.length : Int) := by omega
      go_enter Try.func18, Try.ntmps18
      go_wp2_with (at_builtin; go_loud (
        refine wpList_append_own _ rfl _ _ 23 rfl w.heap.size 3 i0 (.int .i64 0) 1 8 ty24 hi hz0 hz1 hz2 rfl (by decide) _ 0 [] rfl (World.ownsRow_nil _ _ _ _) ⟨b, o, none⟩ 13 cap ((zs.take 13).map vz) rfl (by simp; omega) hcs (fun x hx => by rw [List.mem_map] at hx; obtain ⟨_, _, rfl⟩ := hx; rfl) (by unfold maxLen at *; omega) (by omega) (by simp) ?_
        intro v' w3 hown' hgrow3 hnil3
        have hbw3 : Below w.heap.size w w3 := Below.grown (Below.refl _ _) hgrow3 (by simp) (fun k hk => by cases hk)))
      go_ret
      refine ⟨_, rfl, ?_, hbw3⟩
      simpa using hown'
end Go.Proofs.Yteekigpdiklppaa
set_option linter.unusedSimpArgs false
set_option linter.unusedVariables false
namespace Go.Proofs.Yteekigpdiklppaa
open Go Go.Proofs Go.RowKit Go.ChangeShapes Go.WideShapes Go.ChangeAt Go.Joins
attribute [local go_sem] Oper.semAt_some
theorem ty23 : Try.prog.underlying 23 = some (.slice 3) := by kernel_rfl
set_option maxRecDepth 100000 in
theorem arg_argP {H : Type} {enc : TypeId × Value → H} {W : World} {r : Reach} {b0 : Nat} {v : Value} {d : DataW H} {ps : List MemPlace} (hval : Value.okWide Try.prog W r b0 22 v)
    (hd : DataW.Trod enc Try.prog W 0 (fun _ => true) true 22 v d ps) : ∃ l : Pts, ArgP W v l := by
  obtain ⟨a, len, cap, rfl⟩ := okWide_slice ty22 hval
  obtain ⟨l, ⟨A, cap', hv, hc⟩, hl⟩ := arg_pairs hval hd
  injection hv with h1 h2 h3
  subst h1 h2 h3
  obtain ⟨fuel, hf⟩ := hd
  rcases DataW.trod_slice ty22 hf with ⟨hc0, hx⟩ | ⟨a', len', cap', elems, rest, n, _, hc0, hx, _, hl', hm, hlen, hel, _⟩
  · simp [Value.cells] at hc0
    obtain ⟨rfl, h0, rfl⟩ := hc0
    exact ⟨[], .inl ⟨by rw [h0]; rfl, rfl⟩⟩
  · simp [Value.cells] at hc0
    obtain ⟨rfl, h0, rfl⟩ := hc0
    rcases Nat.eq_zero_or_pos l.length with h | h
    · exact ⟨[], .inr (.inl ⟨_, _, by rw [h], rfl⟩)⟩
    · obtain ⟨g, o, hA, _⟩ := hc 0 h
      injection hA with hA
      subst hA
      refine ⟨l, .inr (.inr ⟨g, o, cap, rfl, by omega, hl, fun k hk => ?_⟩)⟩
      obtain ⟨g', o', hA', c1, c2⟩ := hc k hk
      injection hA' with hA'
      injection hA' with e1 e2
      subst e1 e2
      exact ⟨c1, c2⟩
set_option maxRecDepth 100000 in
theorem arg_argZ {H : Type} {enc : TypeId × Value → H} {W : World} {r : Reach} {b0 : Nat} {v : Value} {d : DataW H} {ps : List MemPlace} (hval : Value.okWide Try.prog W r b0 23 v)
    (hd : DataW.Trod enc Try.prog W 0 (fun _ => true) true 23 v d ps) : ∃ zs : List Int, ArgZ W v zs := by
  obtain ⟨a, len, cap, rfl⟩ := okWide_slice ty23 hval
  obtain ⟨fuel, hf⟩ := hd
  rcases open_ints ty23 Try.underlying3 cells3 hf with ⟨hc, hx⟩ | ⟨a', len', cap', zs, hc, _, hl, hm, hz, hx, hcell, hwz⟩
  · simp [Value.cells] at hc
    obtain ⟨rfl, rfl, rfl⟩ := hc
    exact ⟨[], .inl ⟨rfl, rfl⟩⟩
  · simp [Value.cells] at hc
    obtain ⟨rfl, rfl, rfl⟩ := hc
    rw [if_pos rfl] at hz
    obtain ⟨b, o, sp⟩ := a'
    rcases Nat.eq_zero_or_pos len with h0 | h0
    · subst h0
      exact ⟨[], .inr (.inl ⟨_, _, rfl, rfl⟩)⟩
    · have g0 := hcell 0 (by omega)
      have hspot : sp = none := by simpa [Addr.add] using World.cell?_spot g0
      subst hspot
      have hplain : ∀ j, (⟨b, o, none⟩ : Addr).add j = ⟨b, o + j, none⟩ := fun j => by unfold Addr.add; split <;> simp_all
      have hlen : (zs.take len).length = len := by rw [List.length_take]; omega
      refine ⟨zs.take len, .inr (.inr ⟨b, o, cap, by rw [hlen], by omega, by omega, fun i hi => ?_⟩)⟩
      have h1 := hcell i (by omega)
      rw [hplain] at h1
      rw [h1, List.getD_eq_getElem?_getD, List.getD_eq_getElem?_getD, List.getElem?_take_of_lt (by omega)]
      rfl
/-! The rounds: the greatest one is the last. -/
def mx (f : Nat → Int) : Nat → Int
  | 0 => 0
  | k + 1 => if mx f k < f k then f k else mx f k
theorem mx_le {f : Nat → Int} {b : Int} (hb : 0 ≤ b) : ∀ k, (∀ j, j < k → f j ≤ b) → mx f k ≤ b
  | 0, _ => hb
  | k + 1, h => by
    have ih := mx_le hb k (fun j hj => h j (by omega))
    have := h k (by omega)
    unfold mx; split <;> omega
theorem mx_ge {f : Nat → Int} : ∀ k, (0 ≤ mx f k) ∧ ∀ j, j < k → f j ≤ mx f k
  | 0 => ⟨Int.le_refl _, fun j hj => by omega⟩
  | k + 1 => by
    obtain ⟨h1, h2⟩ := mx_ge (f := f) k
    unfold mx
    split
    · refine ⟨by omega, fun j hj => ?_⟩
      by_cases e : j = k
      · subst e; omega
      · have := h2 j (by omega); omega
    · refine ⟨h1, fun j hj => ?_⟩
      by_cases e : j = k
      · subst e; omega
      · exact h2 j (by omega)
theorem rdF_le (adj : Nat → Nat → Bool) (N : Nat) (s : Nat → Bool) : ∀ m j, rdF adj N s m j ≤ m
  | 0, j => by show (if s j = true then (0 : Int) else -1) ≤ _; split <;> omega
  | m + 1, j => by
    have := rdF_le adj N s m j
    show (if fdTo adj (stg (fround adj) s m) N j = true then (m : Int) + 1 else rdF adj N s m j) ≤ _
    split <;> omega
theorem rounds_max {N : Nat} {E : Pts} (h : GOk N E) {s : Nat → Bool} (hs : InN N s) : mx (roundsOf (adjOf E) N s) N = (kfOf (fround (adjOf E)) s : Nat) := by
  have hst := stops_kf (infl_force (adjOf E)) s
  unfold roundsOf
  obtain ⟨K, hK⟩ : ∃ K, kfOf (fround (adjOf E)) s = K := ⟨_, rfl⟩
  rw [hK] at hst ⊢
  have h1 : mx (rdF (adjOf E) N s K) N ≤ K := mx_le (by omega) N (fun j _ => rdF_le _ _ _ _ _)
  obtain ⟨h2, h3⟩ := mx_ge (f := rdF (adjOf E) N s K) N
  cases K with
  | zero => omega
  | succ K =>
    have hl := hst.less K (by omega)
    have : ∃ j, j < 12 ∧ stg (fround (adjOf E)) s (K + 1) j ≠ stg (fround (adjOf E)) s K j := by
      unfold eqb at hl
      rw [List.all_eq_false] at hl
      obtain ⟨j, hj, he⟩ := hl
      exact ⟨j, by simpa using hj, by simpa using he⟩
    obtain ⟨j, hj, hne⟩ := this
    have e1 : stg (fround (adjOf E)) s (K + 1) j = fround (adjOf E) (stg (fround (adjOf E)) s K) j := rfl
    rw [e1, fround_fd h.n12 (stgs_in h hs K) hj] at hne
    have hfd : fdTo (adjOf E) (stg (fround (adjOf E)) s K) N j = true := by
      cases e : fdTo (adjOf E) (stg (fround (adjOf E)) s K) N j with
      | true => rfl
      | false => rw [e] at hne; simp at hne
    have hjN : j < N := by
      obtain ⟨i, _, _, _, d⟩ := (fdTo_iff N).1 hfd
      rw [Bool.and_eq_true] at d
      exact h.adj d.1
    have h4 := h3 j hjN
    have h5 : rdF (adjOf E) N s (K + 1) j = (K : Int) + 1 := by
      show (if fdTo (adjOf E) (stg (fround (adjOf E)) s K) N j = true then (K : Int) + 1 else rdF (adjOf E) N s K j) = _
      rw [if_pos hfd]
    omega
def rowL (f : Nat → Int) (N : Nat) : List Int := (List.range N).map f
theorem nums_ints {w : World} {R N : Nat} {f : Nat → Int} (h : NumsI w R N f) : IntsO w (.slice (some ⟨R, 0, none⟩) N N) (rowL f N) := by
  have hl : (rowL f N).length = N := by simp [rowL]
  refine ⟨_, N, by rw [hl], fun k hk => ⟨R, 0, rfl, ?_⟩⟩
  rw [hl] at hk
  rw [Nat.zero_add, (h.cell hk).1]
  simp [rowL, List.getD, hk]
set_option maxRecDepth 100000 in
theorem refAll_any {N : Nat} (hN : N ≤ 12) (p : Option Addr) (cap : Nat) (w : World) : Calls Try.prog 29 #[.slice p N cap] w fun e w' => e = .returned (.int .i64 (num (allS N) : Nat)) ∧ w' = w := by
  rw [num_all hN]
  have hp : ((2 ^ N - 1 : Nat) : Int) = (((2 ^ N : Nat) : Int) - 1) := by have := Nat.one_le_two_pow (n := N); omega
  rw [hp]
  obtain ⟨P, hP⟩ : ∃ P : Nat, 2 ^ N = P := ⟨_, rfl⟩
  have wP : IntKind.i64.wrap (2 ^ N) = (P : Int) := by rw [← hP]; exact wrap_pow (by omega)
  have lP : P ≤ 4096 := by rw [← hP]; exact pow_lt (by omega)
  have wQ : IntKind.i64.wrap ((P : Int) - 1) = (P : Int) - 1 := IntWalk.i64_in _ (by omega)
  have hN0 : ¬ (N : Int) < 0 := by omega
  rw [hP]
  clear hP hp
  go_enter Try.func29, Try.ntmps29
  go_wp2
  go_ret
  exact ⟨rfl, rfl⟩
/-! What a law holds. -/
def Hd (w : World) (W : World) (ve : Value) (E : Pts) (l : List (Value × List Int)) : Prop := PairsOf W ve E ∧ (∀ x ∈ l, IntsO W x.1 x.2) ∧ Below w.heap.size w W
theorem Hd.keep {w W W' : World} {ve : Value} {E : Pts} {l : List (Value × List Int)} (h : Hd w W ve E l) (hb : Below W.heap.size W W') : Hd w W' ve E l := ⟨pairsOf_below h.1 hb, fun x hx => intsO_below (h.2.1 x hx) hb, h.2.2.trans (hb.mono h.2.2.size)⟩
theorem Hd.put {w W W' : World} {ve : Value} {E : Pts} {l : List (Value × List Int)} (h : Hd w W ve E l) (hb : Below W.heap.size W W') {v : Value} {z : List Int} (hv : IntsO W' v z) : Hd w W' ve E ((v, z) :: l) := ⟨(h.keep hb).1, fun x hx => by
  rcases List.mem_cons.1 hx with rfl | hx
  · exact hv
  · exact (h.keep hb).2.1 x hx, (h.keep hb).2.2⟩
theorem Hd.ps {w W : World} {ve : Value} {E : Pts} {l : List (Value × List Int)} (h : Hd w W ve E l) : PairsOf W ve E := h.1
theorem Hd.at {w W : World} {ve : Value} {E : Pts} {l : List (Value × List Int)} (h : Hd w W ve E l) {v : Value} {z : List Int} (hm : (v, z) ∈ l) : IntsO W v z := h.2.1 (v, z) hm
theorem Hd.dn {w W : World} {ve : Value} {E : Pts} {l : List (Value × List Int)} (h : Hd w W ve E l) (q : Nat) : Hd w (W.drewN q) ve E l := h.keep (below_dn W q)
theorem oRounds {N : Nat} {E : Pts} (h : GOk N E) {s : Nat → Bool} (hs : InN N s) : ∀ (W : World) (ve v : Value), PairsOf W ve E → IntsO W v (zsOf s) → Calls Try.prog 20 #[.int .i64 N, ve, v] W fun e w' => ∃ lv, e = .returned (.tuple #[lv, .int .i64 0]) ∧ IntsO w' lv (rowL (roundsOf (adjOf E) N s) N) ∧ Below W.heap.size W w' := fun W ve v he hv =>
  (rounds_yes h he hs hv).mono fun e w' ⟨R, h1, h2, _, h4⟩ => ⟨_, h1, nums_ints h2, h4⟩
theorem same_any {a b : Value} {z : List Int} {w : World} (ha : IntsO w a z) (hb : IntsO w b z) (hl : z.length ≤ 100000) : Calls Try.prog 27 #[a, b] w fun e w' => e = .returned (.bool true) ∧ ∃ n, w' = w.drewN n := by
  have := ints_any ha hb hl
  rwa [decide_eq_true rfl] at this
theorem valid_yesG {N : Nat} {E : Pts} (h : GOk N E) {s : Nat → Bool} (hs : InN N s) : ∀ (W : World) (ve v : Value), PairsOf W ve E → IntsO W v (zsOf s) → Calls Try.prog 22 #[.int .i64 N, ve, v] W fun e w' => e = .returned (.bool true) ∧ Below W.heap.size W w' := fun W ve v he hv =>
  (valid_yes he h.gr h.len hv hs.ok (zs_len s)).mono fun e w' ⟨h1, q, h2⟩ => ⟨h1, by rw [h2]; exact below_dn W q⟩
theorem num_mod (s t : Nat → Bool) (h : num t ≤ num s) : IntKind.i64.wrap ((num s : Int) - (num t : Int)) = ((num s - num t : Nat) : Int) := by
  have h1 := num_lt s
  have h2 := num_lt t
  rw [IntWalk.i64_in _ (by omega)]; omega
end Go.Proofs.Yteekigpdiklppaa
