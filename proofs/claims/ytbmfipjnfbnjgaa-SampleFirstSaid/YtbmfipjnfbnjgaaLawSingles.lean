import Derived.Test.YtbmfipjnfbnjgaaAwake
import Derived.Test.YtbmfipjnfbnjgaaArrays
import Derived.Test.YtbmfipjnfbnjgaaRef2
import Derived.Test.YtbmfipjnfbnjgaaSingleFn
import Derived.Test.YtbmfipjnfbnjgaaOpenArgs
import Derived.Test.YtbmfipjnfbnjgaaSeqE
set_option linter.unusedSimpArgs false
set_option linter.unusedVariables false
namespace Go.Proofs.Ytbmfipjnfbnjgaa
open Go Go.Proofs Go.RowKit Go.Sample Go.Seq
/-- Pieces of a lot, some of them bad. -/
def LotOk (N z : Int) : Prop := 1 ≤ N ∧ N ≤ 36 ∧ 0 ≤ z ∧ z ≤ N
theorem ways_bad {N z : Int} (hz : In64 z) (hno : ¬ LotOk N z) (w : World) :
    Calls Try.prog 17 #[.int .i64 N, .int .i64 z] w fun e w' => e = .returned (.tuple #[.int .i64 0, .int .i64 2]) ∧ Below w.heap.size w w' := by
  by_cases h : N < 1 ∨ 36 < N
  · exact (ways_lot h w).mono fun e w' ⟨h1, h2⟩ => ⟨h1, by rw [h2]; exact Below.refl _ _⟩
  · obtain ⟨k, rfl⟩ : ∃ k : Nat, N = (k : Int) := ⟨N.toNat, by omega⟩
    exact ways_no (by omega) (by omega) hz (fun e => hno ⟨by omega, by omega, e.1, e.2⟩) w
theorem single_none {N z n c : Int} (hz : In64 z) (hno : ¬ (LotOk N z ∧ PlanOk N n c)) (w : World) :
    Calls Try.prog 18 #[.int .i64 N, .int .i64 z, .int .i64 n, .int .i64 c] w fun e w' => e = .returned (.tuple #[fracV 0 0, .int .i64 2]) ∧ Below w.heap.size w w' := by
  by_cases hp : PlanOk N n c
  · obtain ⟨p1, p2, p3, p4, p5⟩ := id hp
    obtain ⟨N', rfl⟩ : ∃ k : Nat, N = (k : Int) := ⟨N.toNat, by omega⟩
    obtain ⟨n', rfl⟩ : ∃ k : Nat, n = (k : Int) := ⟨n.toNat, by omega⟩
    obtain ⟨c', rfl⟩ : ∃ k : Nat, c = (k : Int) := ⟨c.toNat, by omega⟩
    exact single_bad (by omega) (by omega) (by omega) (by omega) hz (fun e => hno ⟨⟨p1, p2, e.1, e.2⟩, hp⟩) w
  · exact single_no hp w
theorem bstep {B : Nat} {w a b : World} (h : Below B w a) (k : Below a.heap.size a b) (hB : B ≤ w.heap.size := by exact Nat.le_refl _) : Below B w b := h.trans (k.mono (Nat.le_trans hB h.size))
structure SgR (w : World) (G : Nat) (x y : Value) (W : World) : Prop where
  o : Own2 W G x y
  bw : Below w.heap.size w W
theorem SgR.after {w W W' : World} {G : Nat} {x y : Value} (h : SgR w G x y W) (hb : Below W.heap.size W W') : SgR w G x y W' := ⟨h.o.after hb, h.bw.trans (hb.mono h.bw.size)⟩
set_option maxHeartbeats 1000000 in
set_option maxRecDepth 100000 in
theorem singles_no {N z n c : Int} (hz : In64 z) (hno : ¬ LotOk N z) (w : World) : Calls Try.prog 3 #[.int .i64 N, .int .i64 z, .agg #[.int .i64 n, .int .i64 c]] w fun e w' => e = .returned (.bool true) ∧ Below w.heap.size w w' := by
  have q1 := fun w => ways_bad hz hno w
  have q2 := fun w => single_none (n := n) (c := c) hz (fun h => hno h.1) w
  have q3 := fun w => lot_any (N := N) (z := z) w
  have hd : decide (1 ≤ N ∧ N ≤ 36 ∧ 0 ≤ z ∧ z ≤ N) = false := decide_eq_false hno
  simp only [hd] at q3
  have e0 : ∀ w, (Op.equalIn 10000 27 (.agg #[.int .i64 0, .int .i64 0]) (.agg #[.int .i64 0, .int .i64 0])).run Try.prog w = .ok true w := fun w => eq27 0 0 0 0 w
  unfold fracV at q2
  clear hd
  go_enter Try.func3, Try.ntmps3
  go_wp2
  go_quiet (fail)
  obtain ⟨wq, hwq⟩ : ∃ wq, (w.alloc (.cells #[.int .i64 n, .int .i64 c] 22)).drewN nq = wq := ⟨_, rfl⟩
  have hbq : Below w.heap.size w wq := by rw [← hwq]; exact below_drewN ((Below.refl _ _).alloc (Nat.le_refl _) _) _
  try rw [hwq]
  clear hwq
  go_wp2_with (first
    | (go_at_call 17; refine (q1 _).mono ?_; rintro e w1 ⟨rfl, hb1⟩)
    | (go_at_call 18; refine (q2 _).mono ?_; rintro e w2 ⟨rfl, hb2⟩)
    | (go_at_call 19; refine (q3 _).mono ?_; rintro e w3 ⟨rfl, rfl⟩)
    | (go_at_call 20; refine (awake_any _).mono ?_; rintro e w9 ⟨rfl, hb9⟩))
  all_goals go_ret
  all_goals exact ⟨rfl, bstep (bstep (bstep (bstep hbq hb1) hb2) ((Below.refl _ w2).alloc (Nat.le_refl _) _)) hb9⟩
set_option maxHeartbeats 1000000 in
set_option maxRecDepth 100000 in
theorem singles_half {N d : Nat} {n c : Int} (h1 : 1 ≤ N) (h36 : N ≤ 36) (hd : d ≤ N) (hno : ¬ PlanOk N n c) (w : World) : Calls Try.prog 3 #[.int .i64 N, .int .i64 d, .agg #[.int .i64 n, .int .i64 c]] w fun e w' => e = .returned (.bool true) ∧ Below w.heap.size w w' := by
  have q1 := fun w => ways_any h1 h36 hd w
  have q2 := fun w => single_none (N := N) (z := d) (n := n) (c := c) ⟨by omega, by omega⟩ (fun h => hno h.2) w
  have q3 := fun w => lot_any (N := N) (z := d) w
  have q4 := fun w => binom_any (n := N) (z := (d : Int)) h36 ⟨by omega, by omega⟩ w
  have q5 := fun w => refPlan_any (N := N) (n := n) (c := c) w
  have hdl : decide ((1 : Int) ≤ (N : Int) ∧ (N : Int) ≤ 36 ∧ 0 ≤ (d : Int) ∧ (d : Int) ≤ (N : Int)) = true := decide_eq_true (by omega)
  have hdp : decide (0 ≤ c ∧ c < n ∧ n ≤ (N : Int)) = false := decide_eq_false (fun h => hno ⟨by omega, by omega, h.1, h.2.1, h.2.2⟩)
  simp only [hdl] at q3
  simp only [hdp] at q5
  simp only [chZ_nat] at q4
  obtain ⟨X, hX⟩ : ∃ X, Keep (ch N d = X) := ⟨_, ⟨rfl⟩⟩
  simp only [hX.out] at q1 q4
  have e0 : ∀ w, (Op.equalIn 10000 27 (.agg #[.int .i64 0, .int .i64 0]) (.agg #[.int .i64 0, .int .i64 0])).run Try.prog w = .ok true w := fun w => eq27 0 0 0 0 w
  unfold fracV at q2
  clear hdl hdp
  go_enter Try.func3, Try.ntmps3
  go_wp2
  go_quiet (fail)
  obtain ⟨wq, hwq⟩ : ∃ wq, (w.alloc (.cells #[.int .i64 n, .int .i64 c] 22)).drewN nq = wq := ⟨_, rfl⟩
  have hbq : Below w.heap.size w wq := by rw [← hwq]; exact below_drewN ((Below.refl _ _).alloc (Nat.le_refl _) _) _
  try rw [hwq]
  clear hwq
  go_wp2_with (first
    | (go_at_call 17; refine (q1 _).mono ?_; rintro e w1 ⟨rfl, hb1⟩)
    | (go_at_call 18; refine (q2 _).mono ?_; rintro e w2 ⟨rfl, hb2⟩)
    | (go_at_call 19; refine (q3 _).mono ?_; rintro e w3 ⟨rfl, rfl⟩)
    | (go_at_call 21; refine (q4 _).mono ?_; rintro e w3 ⟨rfl, rfl⟩)
    | (go_at_call 22; refine (q5 _).mono ?_; rintro e w3 ⟨rfl, rfl⟩)
    | (go_at_call 20; refine (awake_any _).mono ?_; rintro e w9 ⟨rfl, hb9⟩))
  all_goals go_ret
  all_goals exact ⟨rfl, bstep (bstep (bstep (bstep hbq hb1) hb2) ((Below.refl _ w2).alloc (Nat.le_refl _) _)) hb9⟩
set_option maxHeartbeats 1000000 in
set_option maxRecDepth 100000 in
theorem singles_yes {N d n c : Nat} (h1 : 1 ≤ N) (h36 : N ≤ 36) (hd : d ≤ N) (hc : c < n) (hn : n ≤ N) (w : World) : Calls Try.prog 3 #[.int .i64 N, .int .i64 d, .agg #[.int .i64 n, .int .i64 c]] w fun e w' => e = .returned (.bool true) ∧ Below w.heap.size w w' := by
  have hmx : Try.prog.follows .mixedOrders = true := by kernel_rfl
  have q1 := fun w => ways_any h1 h36 hd w
  have q2 := fun w => single_any h1 h36 hc hn hd w
  have q3 := fun w => lot_any (N := N) (z := d) w
  have q4 := fun w => binom_any (n := N) (z := (d : Int)) h36 ⟨by omega, by omega⟩ w
  have q5 := fun w => refPlan_any (N := N) (n := n) (c := c) w
  have qa := fun w => accepts_any h36 hn (c := c) (by omega) hd w
  have hdl : decide ((1 : Int) ≤ (N : Int) ∧ (N : Int) ≤ 36 ∧ 0 ≤ (d : Int) ∧ (d : Int) ≤ (N : Int)) = true := decide_eq_true (by omega)
  have hdp : decide (0 ≤ (c : Int) ∧ (c : Int) < (n : Int) ∧ (n : Int) ≤ (N : Int)) = true := decide_eq_true (by omega)
  simp only [hdl] at q3
  simp only [hdp] at q5
  simp only [chZ_nat] at q4
  have hA : acc n (N - n) d (c + 1) ≤ ch N d := by have := acc_le n (N - n) d (c + 1); rwa [show n + (N - n) = N by omega] at this
  have hp := ch_pos hd
  have hch := ch_le h36 d
  obtain ⟨X, hX⟩ : ∃ X, Keep (ch N d = X) := ⟨_, ⟨rfl⟩⟩
  obtain ⟨A, hAk⟩ : ∃ A, Keep (acc n (N - n) d (c + 1) = A) := ⟨_, ⟨rfl⟩⟩
  simp only [hX.out] at q1 q4 q2
  simp only [hAk.out] at q2 qa
  rw [hX.out] at hp hch hA
  rw [hAk.out] at hA
  have qr := fun w => reduced_any A X (by omega) hp (by omega) w
  have e0 : ∀ w, (Op.equalIn 10000 27 (.agg #[.int .i64 (rN A X : Nat), .int .i64 (rD A X : Nat)]) (.agg #[.int .i64 (rN A X : Nat), .int .i64 (rD A X : Nat)])).run Try.prog w = .ok true w := fun w => by rw [eq27]; simp
  unfold redV fracV at q2
  clear hdl hdp hA hp hch
  go_enter Try.func3, Try.ntmps3
  go_wp2
  go_quiet (fail)
  obtain ⟨wq, hwq⟩ : ∃ wq, (w.alloc (.cells #[.int .i64 n, .int .i64 c] 22)).drewN nq = wq := ⟨_, rfl⟩
  have hbq : Below w.heap.size w wq := by rw [← hwq]; exact below_drewN ((Below.refl _ _).alloc (Nat.le_refl _) _) _
  try rw [hwq]
  clear hwq
  go_wp2_with (first
    | (go_at_call 17; refine (q1 _).mono ?_; rintro e w1 ⟨rfl, hb1⟩)
    | (go_at_call 18; refine (q2 _).mono ?_; rintro e w2 ⟨rfl, hb2⟩)
    | (go_at_call 19; refine (q3 _).mono ?_; rintro e w3 ⟨rfl, rfl⟩)
    | (go_at_call 21; refine (q4 _).mono ?_; rintro e w3 ⟨rfl, rfl⟩)
    | (go_at_call 22; refine (q5 _).mono ?_; rintro e w3 ⟨rfl, rfl⟩))
  have hbw2 := hbq.trans ((hb1.trans (hb2.mono hb1.size)).mono hbq.size)
  obtain ⟨G, hG⟩ : ∃ G, w2.heap.size = G := ⟨_, rfl⟩
  have hS : SgR w G (.int .i64 (rN A X : Nat)) (.int .i64 (rD A X : Nat)) (w2.alloc (.cells #[.int .i64 (rN A X : Nat), .int .i64 (rD A X : Nat)] 27)) := ⟨by rw [← hG]; exact Own2.new _ _ _ _, hbw2.alloc hbw2.size _⟩
  rw [hG]
  clear hG q1 q2 q3 q4 q5 hbw2 hb1 hb2 hbq
  generalize w2.alloc (.cells #[.int .i64 (rN A X : Nat), .int .i64 (rD A X : Nat)] 27) = W3 at *
  refine (wpIn_wide (n := 0)).1 ?_
  refine Many.region_many (fun _ W => SgR w G (.int .i64 (rN A X : Nat)) (.int .i64 (rD A X : Nat)) W) hmx (by kernel_rfl) (fun s s' W' h hc => hc) (fun s hs => hS.after ((Below.refl _ _).drew)) ?_
  refine Many.lex_want (by rfl) (Many.tr_read (v := .agg #[.int .i64 (rN A X : Nat), .int .i64 (rD A X : Nat)]) (SgR w G (.int .i64 (rN A X : Nat)) (.int .i64 (rD A X : Nat))) (fun s W h => h) (fun s W h => h) (fun W ⟨⟨u0, u1, u2, u3⟩, _⟩ => by (go_simp; try rfl))) ?_
  simp only [Act.put, List.setIfInBounds_toArray, List.set_cons_succ, List.set_cons_zero, Nat.reduceAdd]
  refine Many.lex_want (by rfl) (Many.tr_read (v := .int .i64 N) (SgR w G (.int .i64 (rN A X : Nat)) (.int .i64 (rD A X : Nat))) (fun s W h => h) (fun s W h => h) (fun W ⟨⟨u0, u1, u2, u3⟩, _⟩ => by (go_simp; try rfl))) ?_
  simp only [Act.put, List.setIfInBounds_toArray, List.set_cons_succ, List.set_cons_zero, Nat.reduceAdd]
  refine Many.lex_want (by rfl) (Many.tr_read (v := .int .i64 d) (SgR w G (.int .i64 (rN A X : Nat)) (.int .i64 (rD A X : Nat))) (fun s W h => h) (fun s W h => h) (fun W ⟨⟨u0, u1, u2, u3⟩, _⟩ => by (go_simp; try rfl))) ?_
  simp only [Act.put, List.setIfInBounds_toArray, List.set_cons_succ, List.set_cons_zero, Nat.reduceAdd]
  refine Many.lex_want (by rfl) (Many.tr_read (v := .int .i64 n) (SgR w G (.int .i64 (rN A X : Nat)) (.int .i64 (rD A X : Nat))) (fun s W h => h) (fun s W h => h) (fun W ⟨⟨u0, u1, u2, u3⟩, _⟩ => by (go_simp; try rfl))) ?_
  simp only [Act.put, List.setIfInBounds_toArray, List.set_cons_succ, List.set_cons_zero, Nat.reduceAdd]
  refine Many.lex_want (by rfl) (Many.tr_read (v := .int .i64 c) (SgR w G (.int .i64 (rN A X : Nat)) (.int .i64 (rD A X : Nat))) (fun s W h => h) (fun s W h => h) (fun W ⟨⟨u0, u1, u2, u3⟩, _⟩ => by (go_simp; try rfl))) ?_
  simp only [Act.put, List.setIfInBounds_toArray, List.set_cons_succ, List.set_cons_zero, Nat.reduceAdd]
  refine Many.lex_want (by rfl) (Many.tr_call (v := .int .i64 A) (f := 24) (args := #[.int .i64 N, .int .i64 d, .int .i64 n, .int .i64 c]) (SgR w G (.int .i64 (rN A X : Nat)) (.int .i64 (rD A X : Nat))) (fun s W h => h) (fun s W h => (qa W).mono fun e w' q => ⟨q.1, by rw [q.2]; exact h⟩) (fun W h => by (go_simp; try rfl))) ?_
  simp only [Act.put, List.setIfInBounds_toArray, List.set_cons_succ, List.set_cons_zero, Nat.reduceAdd]
  refine Many.lex_want (by rfl) (Many.tr_read (v := .int .i64 X) (SgR w G (.int .i64 (rN A X : Nat)) (.int .i64 (rD A X : Nat))) (fun s W h => h) (fun s W h => h) (fun W ⟨⟨u0, u1, u2, u3⟩, _⟩ => by (go_simp; try rfl))) ?_
  simp only [Act.put, List.setIfInBounds_toArray, List.set_cons_succ, List.set_cons_zero, Nat.reduceAdd]
  refine Many.lex_want (by rfl) (Many.tr_call (v := redV A X) (f := 23) (args := #[.int .i64 A, .int .i64 X]) (SgR w G (.int .i64 (rN A X : Nat)) (.int .i64 (rD A X : Nat))) (fun s W h => h) (fun s W h => (qr W).mono fun e w' q => ⟨q.1, h.after q.2⟩) (fun W h => by (go_simp; try rfl))) ?_
  simp only [Act.put, List.setIfInBounds_toArray, List.set_cons_succ, List.set_cons_zero, Nat.reduceAdd]
  refine Many.lex_want (by rfl) (Many.tr_read (v := .bool true) (SgR w G (.int .i64 (rN A X : Nat)) (.int .i64 (rD A X : Nat))) (fun s W h => h) (fun s W h => h) (fun W _ => by (unfold redV fracV; go_simp; try rfl))) ?_
  simp only [Act.put, List.setIfInBounds_toArray, List.set_cons_succ, List.set_cons_zero, Nat.reduceAdd]
  refine Many.lex_want (by rfl) (Many.tr_read (v := .bool true) (SgR w G (.int .i64 (rN A X : Nat)) (.int .i64 (rD A X : Nat))) (fun s W h => h) (fun s W h => h) (fun W ⟨⟨u0, u1, u2, u3⟩, _⟩ => by (go_simp; try rfl))) ?_
  simp only [Act.put, List.setIfInBounds_toArray, List.set_cons_succ, List.set_cons_zero, Nat.reduceAdd]
  refine Many.lex_want (by rfl) (Many.tr_read (v := .int .i64 0) (SgR w G (.int .i64 (rN A X : Nat)) (.int .i64 (rD A X : Nat))) (fun s W h => h) (fun s W h => h) (fun W ⟨⟨u0, u1, u2, u3⟩, _⟩ => by (go_simp; try rfl))) ?_
  simp only [Act.put, List.setIfInBounds_toArray, List.set_cons_succ, List.set_cons_zero, Nat.reduceAdd]
  refine Many.lex_want (by rfl) (Many.tr_read (v := .bool true) (SgR w G (.int .i64 (rN A X : Nat)) (.int .i64 (rD A X : Nat))) (fun s W h => h) (fun s W h => h) (fun W ⟨⟨u0, u1, u2, u3⟩, _⟩ => by (go_simp; try rfl))) ?_
  simp only [Act.put, List.setIfInBounds_toArray, List.set_cons_succ, List.set_cons_zero, Nat.reduceAdd]
  refine Many.lex_want (by rfl) (Many.tr_read (v := .bool true) (SgR w G (.int .i64 (rN A X : Nat)) (.int .i64 (rD A X : Nat))) (fun s W h => h) (fun s W h => h) (fun W ⟨⟨u0, u1, u2, u3⟩, _⟩ => by (go_simp; try rfl))) ?_
  simp only [Act.put, List.setIfInBounds_toArray, List.set_cons_succ, List.set_cons_zero, Nat.reduceAdd]
  refine Many.lex_want (by rfl) (Many.tr_read (v := .bool true) (SgR w G (.int .i64 (rN A X : Nat)) (.int .i64 (rD A X : Nat))) (fun s W h => h) (fun s W h => h) (fun W ⟨⟨u0, u1, u2, u3⟩, _⟩ => by (go_simp; try rfl))) ?_
  simp only [Act.put, List.setIfInBounds_toArray, List.set_cons_succ, List.set_cons_zero, Nat.reduceAdd]
  refine Many.lex_want (by rfl) (Many.tr_call (v := .bool true) (f := 20) (args := #[]) (SgR w G (.int .i64 (rN A X : Nat)) (.int .i64 (rD A X : Nat))) (fun s W h => h) (fun s W h => (awake_any W).mono fun e w' q => ⟨q.1, h.after q.2⟩) (fun W h => by (go_simp; try rfl))) ?_
  simp only [Act.put, List.setIfInBounds_toArray, List.set_cons_succ, List.set_cons_zero, Nat.reduceAdd]
  refine Many.lex_want (by rfl) (Many.tr_read (v := .bool true) (SgR w G (.int .i64 (rN A X : Nat)) (.int .i64 (rD A X : Nat))) (fun s W h => h) (fun s W h => h) (fun W ⟨⟨u0, u1, u2, u3⟩, _⟩ => by (go_simp; try rfl))) ?_
  simp only [Act.put, List.setIfInBounds_toArray, List.set_cons_succ, List.set_cons_zero, Nat.reduceAdd]
  refine Many.lex_want (by rfl) (Many.tr_read (v := .bool true) (SgR w G (.int .i64 (rN A X : Nat)) (.int .i64 (rD A X : Nat))) (fun s W h => h) (fun s W h => h) (fun W ⟨⟨u0, u1, u2, u3⟩, _⟩ => by (go_simp; try rfl))) ?_
  simp only [Act.put, List.setIfInBounds_toArray, List.set_cons_succ, List.set_cons_zero, Nat.reduceAdd]
  refine Many.lex_nil fun s W4 hs hS4 => ?_
  clear hS hs
  go_wp2
  go_ret
  exact ⟨rfl, hS4.bw⟩
theorem singles_any {N z n c : Int} (hz : In64 z) (w : World) : Calls Try.prog 3 #[.int .i64 N, .int .i64 z, .agg #[.int .i64 n, .int .i64 c]] w fun e w' => e = .returned (.bool true) ∧ Below w.heap.size w w' := by
  by_cases hl : LotOk N z
  · obtain ⟨l1, l2, l3, l4⟩ := id hl
    obtain ⟨N', rfl⟩ : ∃ k : Nat, N = (k : Int) := ⟨N.toNat, by omega⟩
    obtain ⟨d, rfl⟩ : ∃ k : Nat, z = (k : Int) := ⟨z.toNat, by omega⟩
    by_cases hp : PlanOk N' n c
    · obtain ⟨p1, p2, p3, p4, p5⟩ := id hp
      obtain ⟨n', rfl⟩ : ∃ k : Nat, n = (k : Int) := ⟨n.toNat, by omega⟩
      obtain ⟨c', rfl⟩ : ∃ k : Nat, c = (k : Int) := ⟨c.toNat, by omega⟩
      exact singles_yes (by omega) (by omega) (by omega) (by omega) (by omega) w
    · exact singles_half (by omega) (by omega) (by omega) hp w
  · exact singles_no hz hl w
end Go.Proofs.Ytbmfipjnfbnjgaa
