import Derived.Test.YtbmfipjnfbnjgaaShare
import Derived.Test.YtbmfipjnfbnjgaaArrays
import Derived.Test.YtbmfipjnfbnjgaaSeqE
import Derived.Test.YtbmfipjnfbnjgaaPlanFn
set_option linter.unusedSimpArgs false
set_option linter.unusedVariables false
namespace Go.Proofs.Ytbmfipjnfbnjgaa
open Go Go.Proofs Go.RowKit Go.Sample Go.Seq
structure VlR (w : World) (x y : Value) (W : World) : Prop where
  o : Own2 W w.heap.size x y
  bw : Below w.heap.size w W
theorem VlR.after {w W W' : World} {x y : Value} (h : VlR w x y W) (hb : Below W.heap.size W W') : VlR w x y W' := ⟨h.o.after hb, h.bw.trans (hb.mono h.bw.size)⟩
theorem red_red {a b : Nat} (hb : 1 ≤ b) : rN (rN a b) (rD a b) = rN a b ∧ rD (rN a b) (rD a b) = rD a b := by
  have hm := red_mul (a := a) hb
  have hg : Nat.gcd (rN a b) (rD a b) = 1 := by
    have h1 : Nat.gcd (rN a b * Nat.gcd a b) (rD a b * Nat.gcd a b) = Nat.gcd (rN a b) (rD a b) * Nat.gcd a b := Nat.gcd_mul_right _ _ _
    rw [hm.1, hm.2.1] at h1
    have h3 := hm.2.2.1
    have : Nat.gcd (rN a b) (rD a b) * Nat.gcd a b = 1 * Nat.gcd a b := by omega
    exact Nat.eq_of_mul_eq_mul_right (by omega) this
  exact (red_self hm.2.2.2).2 hg
set_option maxHeartbeats 1000000 in
set_option maxRecDepth 100000 in
/-- A fraction in lowest terms is valid. -/
theorem valid_any {a b : Nat} (ha : a ≤ 1099511627776) (hb : b ≤ 1099511627776) (hb1 : 1 ≤ b) (w : World) :
    Calls Try.prog 49 #[redV a b] w fun e w' => e = .returned (.bool true) ∧ Below w.heap.size w w' := by
  have hmx : Try.prog.follows .mixedOrders = true := by kernel_rfl
  obtain ⟨hr1, hr2⟩ := red_red (a := a) hb1
  obtain ⟨l1, l2⟩ := red_le a b
  have hm := red_mul (a := a) hb1
  obtain ⟨p, hp⟩ : ∃ p, rN a b = p := ⟨_, rfl⟩
  obtain ⟨q, hq⟩ : ∃ q, rD a b = q := ⟨_, rfl⟩
  unfold redV fracV
  rw [hp] at l1 hr1 hr2 ⊢
  rw [hq] at l2 hr1 hr2 hm ⊢
  have hq1 : 1 ≤ q := hm.2.2.2
  have qr := fun w => reduced_any p q (by omega) hq1 (by omega) w
  unfold redV at qr
  simp only [hr1, hr2] at qr
  have e0 : ∀ w, (Op.equalIn 10000 27 (.agg #[.int .i64 p, .int .i64 q]) (.agg #[.int .i64 p, .int .i64 q])).run Try.prog w = .ok true w := fun w => by rw [eq27]; simp
  have v1 : (p : Int) ≤ 1099511627776 := by omega
  have v2 : (q : Int) ≤ 1099511627776 := by omega
  have v3 : (1 : Int) ≤ (q : Int) := by omega
  clear hr1 hr2 hm ha hb l1 l2 hp hq
  go_enter Try.func49, Try.ntmps49
  go_wp2
  have hS : VlR w (.int .i64 p) (.int .i64 q) (w.alloc (.cells #[.int .i64 p, .int .i64 q] 27)) := ⟨Own2.new _ _ _ _, (Below.refl _ _).alloc (Nat.le_refl _) _⟩
  generalize w.alloc (.cells #[.int .i64 p, .int .i64 q] 27) = W3 at *
  refine (wpIn_wide (n := 0)).1 ?_
  refine Many.region_many (fun _ W => VlR w (.int .i64 p) (.int .i64 q) W) hmx (by kernel_rfl) (fun s s' W' h hc => hc) (fun s hs => hS.after ((Below.refl _ _).drew)) ?_
  refine Many.lex_want (by rfl) (Many.tr_read (v := .pointer (some ⟨w.heap.size, 0, none⟩)) (VlR w (.int .i64 p) (.int .i64 q)) (fun s W h => h) (fun s W h => h) (fun W ⟨⟨u0, u1, u2, u3⟩, _⟩ => by (go_simp; try rfl))) ?_
  simp only [Act.put, List.setIfInBounds_toArray, List.set_cons_succ, List.set_cons_zero, Nat.reduceAdd]
  refine Many.lex_want (by rfl) (Many.tr_read (v := .int .i64 p) (VlR w (.int .i64 p) (.int .i64 q)) (fun s W h => h) (fun s W h => h) (fun W ⟨⟨u0, u1, u2, u3⟩, _⟩ => by (go_simp; try rfl))) ?_
  simp only [Act.put, List.setIfInBounds_toArray, List.set_cons_succ, List.set_cons_zero, Nat.reduceAdd]
  refine Many.lex_want (by rfl) (Many.tr_read (v := .bool true) (VlR w (.int .i64 p) (.int .i64 q)) (fun s W h => h) (fun s W h => h) (fun W ⟨⟨u0, u1, u2, u3⟩, _⟩ => by (go_simp; try rfl))) ?_
  simp only [Act.put, List.setIfInBounds_toArray, List.set_cons_succ, List.set_cons_zero, Nat.reduceAdd]
  refine Many.lex_want (by rfl) (Many.tr_read (v := .bool true) (VlR w (.int .i64 p) (.int .i64 q)) (fun s W h => h) (fun s W h => h) (fun W ⟨⟨u0, u1, u2, u3⟩, _⟩ => by (go_simp; try rfl))) ?_
  simp only [Act.put, List.setIfInBounds_toArray, List.set_cons_succ, List.set_cons_zero, Nat.reduceAdd]
  refine Many.lex_want (by rfl) (Many.tr_read (v := .pointer (some ⟨w.heap.size, 1, none⟩)) (VlR w (.int .i64 p) (.int .i64 q)) (fun s W h => h) (fun s W h => h) (fun W ⟨⟨u0, u1, u2, u3⟩, _⟩ => by (go_simp; try rfl))) ?_
  simp only [Act.put, List.setIfInBounds_toArray, List.set_cons_succ, List.set_cons_zero, Nat.reduceAdd]
  refine Many.lex_want (by rfl) (Many.tr_read (v := .int .i64 q) (VlR w (.int .i64 p) (.int .i64 q)) (fun s W h => h) (fun s W h => h) (fun W ⟨⟨u0, u1, u2, u3⟩, _⟩ => by (go_simp; try rfl))) ?_
  simp only [Act.put, List.setIfInBounds_toArray, List.set_cons_succ, List.set_cons_zero, Nat.reduceAdd]
  refine Many.lex_want (by rfl) (Many.tr_read (v := .bool true) (VlR w (.int .i64 p) (.int .i64 q)) (fun s W h => h) (fun s W h => h) (fun W ⟨⟨u0, u1, u2, u3⟩, _⟩ => by (go_simp; try rfl))) ?_
  simp only [Act.put, List.setIfInBounds_toArray, List.set_cons_succ, List.set_cons_zero, Nat.reduceAdd]
  refine Many.lex_want (by rfl) (Many.tr_read (v := .bool true) (VlR w (.int .i64 p) (.int .i64 q)) (fun s W h => h) (fun s W h => h) (fun W ⟨⟨u0, u1, u2, u3⟩, _⟩ => by (go_simp; try rfl))) ?_
  simp only [Act.put, List.setIfInBounds_toArray, List.set_cons_succ, List.set_cons_zero, Nat.reduceAdd]
  refine Many.lex_want (by rfl) (Many.tr_read (v := .bool true) (VlR w (.int .i64 p) (.int .i64 q)) (fun s W h => h) (fun s W h => h) (fun W ⟨⟨u0, u1, u2, u3⟩, _⟩ => by (go_simp; try rfl))) ?_
  simp only [Act.put, List.setIfInBounds_toArray, List.set_cons_succ, List.set_cons_zero, Nat.reduceAdd]
  refine Many.lex_want (by rfl) (Many.tr_read (v := .pointer (some ⟨w.heap.size, 0, none⟩)) (VlR w (.int .i64 p) (.int .i64 q)) (fun s W h => h) (fun s W h => h) (fun W ⟨⟨u0, u1, u2, u3⟩, _⟩ => by (go_simp; try rfl))) ?_
  simp only [Act.put, List.setIfInBounds_toArray, List.set_cons_succ, List.set_cons_zero, Nat.reduceAdd]
  refine Many.lex_want (by rfl) (Many.tr_read (v := .int .i64 p) (VlR w (.int .i64 p) (.int .i64 q)) (fun s W h => h) (fun s W h => h) (fun W ⟨⟨u0, u1, u2, u3⟩, _⟩ => by (go_simp; try rfl))) ?_
  simp only [Act.put, List.setIfInBounds_toArray, List.set_cons_succ, List.set_cons_zero, Nat.reduceAdd]
  refine Many.lex_want (by rfl) (Many.tr_read (v := .bool true) (VlR w (.int .i64 p) (.int .i64 q)) (fun s W h => h) (fun s W h => h) (fun W ⟨⟨u0, u1, u2, u3⟩, _⟩ => by (go_simp; try rfl))) ?_
  simp only [Act.put, List.setIfInBounds_toArray, List.set_cons_succ, List.set_cons_zero, Nat.reduceAdd]
  refine Many.lex_want (by rfl) (Many.tr_read (v := .bool true) (VlR w (.int .i64 p) (.int .i64 q)) (fun s W h => h) (fun s W h => h) (fun W ⟨⟨u0, u1, u2, u3⟩, _⟩ => by (go_simp; try rfl))) ?_
  simp only [Act.put, List.setIfInBounds_toArray, List.set_cons_succ, List.set_cons_zero, Nat.reduceAdd]
  refine Many.lex_want (by rfl) (Many.tr_read (v := .bool true) (VlR w (.int .i64 p) (.int .i64 q)) (fun s W h => h) (fun s W h => h) (fun W ⟨⟨u0, u1, u2, u3⟩, _⟩ => by (go_simp; try rfl))) ?_
  simp only [Act.put, List.setIfInBounds_toArray, List.set_cons_succ, List.set_cons_zero, Nat.reduceAdd]
  refine Many.lex_want (by rfl) (Many.tr_read (v := .pointer (some ⟨w.heap.size, 1, none⟩)) (VlR w (.int .i64 p) (.int .i64 q)) (fun s W h => h) (fun s W h => h) (fun W ⟨⟨u0, u1, u2, u3⟩, _⟩ => by (go_simp; try rfl))) ?_
  simp only [Act.put, List.setIfInBounds_toArray, List.set_cons_succ, List.set_cons_zero, Nat.reduceAdd]
  refine Many.lex_want (by rfl) (Many.tr_read (v := .int .i64 q) (VlR w (.int .i64 p) (.int .i64 q)) (fun s W h => h) (fun s W h => h) (fun W ⟨⟨u0, u1, u2, u3⟩, _⟩ => by (go_simp; try rfl))) ?_
  simp only [Act.put, List.setIfInBounds_toArray, List.set_cons_succ, List.set_cons_zero, Nat.reduceAdd]
  refine Many.lex_want (by rfl) (Many.tr_read (v := .bool true) (VlR w (.int .i64 p) (.int .i64 q)) (fun s W h => h) (fun s W h => h) (fun W ⟨⟨u0, u1, u2, u3⟩, _⟩ => by (go_simp; try rfl))) ?_
  simp only [Act.put, List.setIfInBounds_toArray, List.set_cons_succ, List.set_cons_zero, Nat.reduceAdd]
  refine Many.lex_want (by rfl) (Many.tr_read (v := .bool true) (VlR w (.int .i64 p) (.int .i64 q)) (fun s W h => h) (fun s W h => h) (fun W ⟨⟨u0, u1, u2, u3⟩, _⟩ => by (go_simp; try rfl))) ?_
  simp only [Act.put, List.setIfInBounds_toArray, List.set_cons_succ, List.set_cons_zero, Nat.reduceAdd]
  refine Many.lex_want (by rfl) (Many.tr_read (v := .bool true) (VlR w (.int .i64 p) (.int .i64 q)) (fun s W h => h) (fun s W h => h) (fun W ⟨⟨u0, u1, u2, u3⟩, _⟩ => by (go_simp; try rfl))) ?_
  simp only [Act.put, List.setIfInBounds_toArray, List.set_cons_succ, List.set_cons_zero, Nat.reduceAdd]
  refine Many.lex_want (by rfl) (Many.tr_read (v := .agg #[.int .i64 p, .int .i64 q]) (VlR w (.int .i64 p) (.int .i64 q)) (fun s W h => h) (fun s W h => h) (fun W ⟨⟨u0, u1, u2, u3⟩, _⟩ => by (go_simp; try rfl))) ?_
  simp only [Act.put, List.setIfInBounds_toArray, List.set_cons_succ, List.set_cons_zero, Nat.reduceAdd]
  refine Many.lex_want (by rfl) (Many.tr_read (v := .pointer (some ⟨w.heap.size, 0, none⟩)) (VlR w (.int .i64 p) (.int .i64 q)) (fun s W h => h) (fun s W h => h) (fun W ⟨⟨u0, u1, u2, u3⟩, _⟩ => by (go_simp; try rfl))) ?_
  simp only [Act.put, List.setIfInBounds_toArray, List.set_cons_succ, List.set_cons_zero, Nat.reduceAdd]
  refine Many.lex_want (by rfl) (Many.tr_read (v := .int .i64 p) (VlR w (.int .i64 p) (.int .i64 q)) (fun s W h => h) (fun s W h => h) (fun W ⟨⟨u0, u1, u2, u3⟩, _⟩ => by (go_simp; try rfl))) ?_
  simp only [Act.put, List.setIfInBounds_toArray, List.set_cons_succ, List.set_cons_zero, Nat.reduceAdd]
  refine Many.lex_want (by rfl) (Many.tr_read (v := .pointer (some ⟨w.heap.size, 1, none⟩)) (VlR w (.int .i64 p) (.int .i64 q)) (fun s W h => h) (fun s W h => h) (fun W ⟨⟨u0, u1, u2, u3⟩, _⟩ => by (go_simp; try rfl))) ?_
  simp only [Act.put, List.setIfInBounds_toArray, List.set_cons_succ, List.set_cons_zero, Nat.reduceAdd]
  refine Many.lex_want (by rfl) (Many.tr_read (v := .int .i64 q) (VlR w (.int .i64 p) (.int .i64 q)) (fun s W h => h) (fun s W h => h) (fun W ⟨⟨u0, u1, u2, u3⟩, _⟩ => by (go_simp; try rfl))) ?_
  simp only [Act.put, List.setIfInBounds_toArray, List.set_cons_succ, List.set_cons_zero, Nat.reduceAdd]
  refine Many.lex_want (by rfl) (Many.tr_call (v := .agg #[.int .i64 p, .int .i64 q]) (f := 23) (args := #[.int .i64 p, .int .i64 q]) (VlR w (.int .i64 p) (.int .i64 q)) (fun s W h => h) (fun s W h => (qr W).mono fun e w' q => ⟨q.1, h.after q.2⟩) (fun W h => by (go_simp; try rfl))) ?_
  simp only [Act.put, List.setIfInBounds_toArray, List.set_cons_succ, List.set_cons_zero, Nat.reduceAdd]
  refine Many.lex_want (by rfl) (Many.tr_read (v := .bool true) (VlR w (.int .i64 p) (.int .i64 q)) (fun s W h => h) (fun s W h => h) (fun W ⟨⟨u0, u1, u2, u3⟩, _⟩ => by (go_simp; try rfl))) ?_
  simp only [Act.put, List.setIfInBounds_toArray, List.set_cons_succ, List.set_cons_zero, Nat.reduceAdd]
  refine Many.lex_want (by rfl) (Many.tr_read (v := .bool true) (VlR w (.int .i64 p) (.int .i64 q)) (fun s W h => h) (fun s W h => h) (fun W ⟨⟨u0, u1, u2, u3⟩, _⟩ => by (go_simp; try rfl))) ?_
  simp only [Act.put, List.setIfInBounds_toArray, List.set_cons_succ, List.set_cons_zero, Nat.reduceAdd]
  refine Many.lex_want (by rfl) (Many.tr_read (v := .bool true) (VlR w (.int .i64 p) (.int .i64 q)) (fun s W h => h) (fun s W h => h) (fun W ⟨⟨u0, u1, u2, u3⟩, _⟩ => by (go_simp; try rfl))) ?_
  simp only [Act.put, List.setIfInBounds_toArray, List.set_cons_succ, List.set_cons_zero, Nat.reduceAdd]
  refine Many.lex_nil fun s W4 hs hS4 => ?_
  clear hS hs
  go_wp2
  go_ret
  exact ⟨rfl, hS4.bw⟩
end Go.Proofs.Ytbmfipjnfbnjgaa
