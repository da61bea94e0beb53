import Derived.Test.YteekigpdiklppaaWB
import Derived.Test.YteekigpdiklppaaSeqL
import Derived.Test.YteekigpdiklppaaWA
import Derived.OwnWalk
import Derived.Laws.AppendOwn
import Derived.Lib.SmallJoins
import Derived.DataShut
import Derived.ChangeSlices
import Derived.DataReads
import Derived.WideShapes
import Derived.ProofKit
import Derived.Maps.Own
import Derived.Maps.OwnOps
import Derived.Maps.OwnSet
import Derived.Maps.OwnIn
import Derived.Maps.Views
import Derived.DeepKeys4
import Derived.Test.YteekigpdiklppaaSeqM
import Derived.WalkMore
import Derived.Laws.OwnMore
import Derived.Maps.AppendAt
set_option linter.unusedSimpArgs false
set_option linter.unusedVariables false
namespace Go.Proofs.Yteekigpdiklppaa
open Go Go.Proofs Go.RowKit Go.Seq
attribute [local go_sem] Oper.semAt_some
/-- A set with one place more. -/
def adds (s : Nat → Bool) (v : Nat) : Nat → Bool := fun j => if j = v then true else s j
/-- The sets that a choice of so many further places gives. -/
def fillL (n : Nat) : Nat → (Nat → Bool) → Nat → List (Nat → Bool)
  | 0, s, _ => [s]
  | m + 1, s, v => (List.range' v (n - v)).flatMap fun u => fillL n m (adds s u) (u + 1)
def fillTo (n m : Nat) (s : Nat → Bool) (v k : Nat) : List (Nat → Bool) := (List.range' v k).flatMap fun u => fillL n m (adds s u) (u + 1)
theorem fillTo_succ (n m : Nat) (s : Nat → Bool) (v k : Nat) : fillTo n m s v (k + 1) = fillTo n m s v k ++ fillL n m (adds s (v + k)) (v + k + 1) := by
  unfold fillTo
  rw [List.range'_1_concat, List.flatMap_append]
  simp
theorem fillTo_rest (n m : Nat) (s : Nat → Bool) (v : Nat) {k : Nat} : ∀ {M}, k < M → ∃ rest, fillTo n m s v M = fillTo n m s v k ++ (fillL n m (adds s (v + k)) (v + k + 1) ++ rest)
  | 0, h => by omega
  | M + 1, h => by
    by_cases e : k = M
    · subst e; exact ⟨[], by rw [fillTo_succ]; simp⟩
    · obtain ⟨rest, hr⟩ := fillTo_rest n m s v (k := k) (M := M) (by omega)
      exact ⟨rest ++ fillL n m (adds s (v + M)) (v + M + 1), by rw [fillTo_succ, hr]; simp⟩
def encW (s : Nat → Bool) : Array Value := #[setV s]
section
variable {b n : Nat} {adj : Nat → Nat → Bool} {W1 : World} {l : Nat} {xs : List (Nat → Bool)} {gs : List (Nat → Bool) → (Nat → Bool) → Bool} {J : (Nat → Prop) → List (Nat → Bool) → World → Prop} {R : World → Prop}
/-- Where the visit has ended early. -/
def Cut (gs : List (Nat → Bool) → (Nat → Bool) → Bool) (xs : List (Nat → Bool)) (J : (Nat → Prop) → List (Nat → Bool) → World → Prop) (W : World) : Prop :=
  ∃ q p x post, xs = p ++ x :: post ∧ Stp.going gs p ∧ gs p x = false ∧ J q (p ++ [x]) W
set_option maxHeartbeats 2000000 in
set_option maxRecDepth 100000 in
theorem fill_gives (hn : n ≤ 12) (hJ : ∀ q q' pre W W', J q pre W → Below W.heap.size W W' → Pq.More q q' W W' → J q' pre W') (hG : ∀ q pre W, J q pre W → GraphAt W b n adj)
    (hY : ∀ q pre x W, J q pre W → Stp.going gs pre → W1.heap.size ≤ W.heap.size → (∃ post, xs = pre ++ x :: post) → YieldAt Fence.wide 0 Try.prog l (encW x) W fun e W' => e = .returned (.bool (gs pre x)) ∧ J q (pre ++ [x]) W' ∧ W.heap.size ≤ W'.heap.size ∧ (∀ k, q k → W'.heap[k]? = W.heap[k]?) ∧ W'.os = W.os ∧ W'.tape = W.tape ∧ W'.output = W.output) :
    ∀ (m : Nat), m ≤ 12 → ∀ (s : Nat → Bool) (v : Nat) (q : Nat → Prop) (pre post : List (Nat → Bool)) (W : World), v ≤ 13 → J q pre W → Stp.going gs pre → W1.heap.size ≤ W.heap.size → xs = pre ++ (fillL n m s v ++ post) →
      CallsIn Fence.wide 0 Try.prog 89 #[.pointer (some ⟨b, 0, none⟩), setV s, .int .i64 v, .int .i64 m, .func (.yield l) #[] #[]] W fun e W' => W.heap.size ≤ W'.heap.size ∧ (∀ k, q k → k < W.heap.size → W'.heap[k]? = W.heap[k]?) ∧
        ((e = .returned (.bool true) ∧ J q (pre ++ fillL n m s v) W' ∧ Stp.going gs (pre ++ fillL n m s v)) ∨ (e = .returned (.bool false) ∧ Cut gs xs J W')) := by
  intro m
  induction m with
  | zero =>
    intro _ s v q pre post W hv hj hgo hsz hx
    simp only [fillL, List.singleton_append] at hx ⊢
    obtain ⟨wa, hwa⟩ : ∃ wa, W.alloc (.cells (sc s) 79) = wa := ⟨_, rfl⟩
    have ba : Below W.heap.size W wa := by rw [← hwa]; exact (Below.refl _ _).alloc (Nat.le_refl _) _
    have fa : SetAt wa W.heap.size s := by rw [← hwa]; exact SetAt.new _ _
    obtain ⟨c0, c1, c2, c3, c4, c5, c6, c7, c8, c9, c10, c11⟩ := fa.c12
    have hqb : ∀ k, q k → k < W.heap.size → wa.heap[k]? = W.heap[k]? := fun k _ hk => ba.block k hk
    have hja := hJ q q pre W wa hj ba (.refl _ _ _)
    obtain ⟨z, hz⟩ : ∃ z, gs pre s = z := ⟨_, rfl⟩
    obtain ⟨fn, tmps, assign, body, hy, hRd⟩ := hY q pre s wa hja hgo (Nat.le_trans hsz ba.size) ⟨post, hx⟩
    unfold encW setV at hy
    unfold setV
    unfold sc at hy hwa ⊢
    have hbk := Keep.mk ba
    clear fa ba hY
    refine callsIn_of_wp Try.func89 rfl trivial ?_ rfl
    simp only [Try.ntmps89, List.size_toArray, List.length_cons, List.length_nil, Nat.reduceAdd, Nat.reduceSub, Array.replicate_succ, Array.replicate_zero, List.push_toArray, List.append_toArray, List.nil_append, List.cons_append]
    gi_wp2
    refine ⟨rfl, hRd.mono ?_⟩
    rintro e w5 ⟨rfl, hj5, hsz5, hq5, -⟩
    rw [hz]
    have hfin : ∀ k, q k → k < W.heap.size → w5.heap[k]? = W.heap[k]? := fun k hk hl => (hq5 k hk).trans (hbk.out.block k hl)
    have hsz6 := Nat.le_trans hbk.out.size hsz5
    cases z with
    | true =>
      gi_wp2
      refine bodyPost_ret (v := .bool true) (by simp [results, Try.results89, go_sem]) rfl ?_
      exact ⟨hsz6, hfin, .inl ⟨rfl, hj5, Stp.going_snoc.2 ⟨hgo, hz⟩⟩⟩
    | false =>
      gi_wp2
      refine bodyPost_ret (v := .bool false) (by simp [results, Try.results89, go_sem]) rfl ?_
      exact ⟨hsz6, hfin, .inr ⟨rfl, q, pre, s, post, hx, hgo, hz, hj5⟩⟩
  | succ m ih =>
    intro hm s v q pre post W hv hj hgo hsz hx
    obtain ⟨M, hM⟩ : ∃ M, n - v = M := ⟨_, rfl⟩
    rw [show fillL n (m + 1) s v = fillTo n m s v M by rw [← hM]; rfl] at hx ⊢
    have hmi : ((m + 1 : Nat) : Int) = (m : Int) + 1 := by omega
    rw [hmi]
    obtain ⟨wa, hwa⟩ : ∃ wa, W.alloc (.cells (sc s) 79) = wa := ⟨_, rfl⟩
    have ba : Below W.heap.size W wa := by rw [← hwa]; exact (Below.refl _ _).alloc (Nat.le_refl _) _
    have sa : wa.heap.size = W.heap.size + 1 := by rw [← hwa]; simp
    have fa : SetAt wa W.heap.size s := by rw [← hwa]; exact SetAt.new _ _
    have hja := hJ q (fun k => q k ∨ k = W.heap.size) pre W wa hj ba (fun k h => h.elim .inl (fun e => .inr ⟨by omega, by omega⟩))
    have hI0 : Keep (J (fun k => q k ∨ k = W.heap.size) (pre ++ fillTo n m s v 0) wa ∧ Stp.going gs (pre ++ fillTo n m s v 0) ∧ SetAt wa W.heap.size s ∧ W.heap.size + 1 ≤ wa.heap.size ∧ ∀ j, q j → j < W.heap.size → wa.heap[j]? = W.heap[j]?) := ⟨by simpa [fillTo] using hja, by simpa [fillTo] using hgo, fa, by omega, fun j _ hl => ba.block j hl⟩
    have hm0 : (((m : Int) + 1) == 0) = false := by rw [beq_eq_false_iff_ne]; omega
    have hm00 : ¬ ((m : Int) + 1 = 0) := by omega
    have hxk := Keep.mk hx
    clear hx
    have hm1 : IntKind.i64.wrap ((m : Int) + 1 - 1) = (m : Int) := by rw [show (m : Int) + 1 - 1 = m by omega]; exact IntWalk.i64_in _ (by omega)
    unfold setV
    unfold sc at hwa ⊢
    clear ba fa hja hgo hj sa
    refine callsIn_of_wp Try.func89 rfl trivial ?_ rfl
    simp only [Try.ntmps89, List.size_toArray, List.length_cons, List.length_nil, Nat.reduceAdd, Nat.reduceSub, Array.replicate_succ, Array.replicate_zero, List.push_toArray, List.append_toArray, List.nil_append, List.cons_append]
    gi_wp2
    try rw [hwa]
    clear hwa
    gi_loopw [11] (fun i wr => ∃ k : Nat, k ≤ M ∧ i = .int .i64 ((v + k : Nat) : Int) ∧ Keep (J (fun k => q k ∨ k = W.heap.size) (pre ++ fillTo n m s v k) wr ∧ Stp.going gs (pre ++ fillTo n m s v k) ∧ SetAt wr W.heap.size s ∧ W.heap.size + 1 ≤ wr.heap.size ∧ ∀ j, q j → j < W.heap.size → wr.heap[j]? = W.heap[j]?)) (fun i _ => n - (intOf i).toNat)
    case atStart => exact ⟨0, by omega, by simp, hI0⟩
    case round =>
      obtain ⟨k, hk, rfl, hI⟩ := hrel
      obtain ⟨u, hu⟩ : ∃ u, v + k = u := ⟨_, rfl⟩
      rw [hu]
      have hgk := Keep.mk (hG _ _ _ hI.out.1)
      have cg := hgk.out.size
      by_cases hlt : u < n
      · have hlt' : (u : Int) < (n : Int) := by omega
        have hw1 : IntKind.i64.wrap ((u : Int) + 1) = (u : Int) + 1 := IntWalk.i64_in _ (by omega)
        obtain ⟨c0, c1, c2, c3, c4, c5, c6, c7, c8, c9, c10, c11⟩ := hI.out.2.2.1.c12
        have q92 := fun W => with_any s u (by omega) W
        rw [show (fun j => if j = u then true else s j) = adds s u from rfl] at q92
        obtain ⟨rest, hrest⟩ := fillTo_rest n m s v (k := k) (M := M) (by omega)
        rw [hu] at hrest
        have qih := Keep.mk (fun W3 (hb3 : Below wr.heap.size wr W3) => ih (by omega) (adds s u) (u + 1) (fun k => q k ∨ k = W.heap.size) (pre ++ fillTo n m s v k) (rest ++ post) W3 (by omega) (hJ _ _ _ _ _ hI.out.1 hb3 (.refl _ _ _)) hI.out.2.1 (Nat.le_trans hsz (Nat.le_trans (by have := hI.out.2.2.2.1; omega) hb3.size)) (by rw [hxk.out, hrest]; simp))
        have hu1 : ((u + 1 : Nat) : Int) = (u : Int) + 1 := by omega
        unfold setV sc at qih q92
        simp only [hu1] at qih
        clear ih hG hY
        gi_wp2_with (first
          | (refine ⟨trivial, rfl, ?_⟩; gi_at_call 92; refine (callsIn_wide.2 (q92 _)).mono ?_; rintro e w3 ⟨rfl, hb3⟩; have hb3k := Keep.mk hb3; clear hb3)
          | (refine ⟨trivial, rfl, ?_⟩; gi_at_call 89; refine (qih.out _ hb3k.out).mono ?_; rintro e w6 ⟨hs6, hq6, h6⟩
             obtain ⟨z, rfl, hz⟩ : ∃ z, e = .returned (.bool z) ∧ Keep ((z = true ∧ J (fun k => q k ∨ k = W.heap.size) (pre ++ fillTo n m s v k ++ fillL n m (adds s u) (u + 1)) w6 ∧ Stp.going gs (pre ++ fillTo n m s v k ++ fillL n m (adds s u) (u + 1))) ∨ (z = false ∧ Cut gs xs J w6)) := by
               (rcases h6 with ⟨rfl, h7, h8⟩ | ⟨rfl, h7⟩)
               · exact ⟨true, rfl, ⟨.inl ⟨rfl, h7, h8⟩⟩⟩
               · exact ⟨false, rfl, ⟨.inr ⟨rfl, h7⟩⟩⟩
             have hk6 := Keep.mk (And.intro hs6 hq6); clear hs6 hq6 h6))
        all_goals rename_i hzz
        all_goals (
          have hs6 : wr.heap.size ≤ w6.heap.size := Nat.le_trans hb3k.out.size hk6.out.1
          have hq7 : ∀ j, q j → j < W.heap.size → w6.heap[j]? = W.heap[j]? := fun j hj hl => (hk6.out.2 j (.inl hj) (by have := hI.out.2.2.2.1; have := hb3k.out.size; omega)).trans ((hb3k.out.block j (by have := hI.out.2.2.2.1; omega)).trans (hI.out.2.2.2.2 j hj hl))
          have hs7 : SetAt w6 W.heap.size s := (hk6.out.2 _ (.inr rfl) (by have := hI.out.2.2.2.1; have := hb3k.out.size; omega)).trans ((hI.out.2.2.1.after hb3k.out))
          have hs7k := Keep.mk hs7
          clear hs7
          rcases hz.out with ⟨rfl, h7, h8⟩ | ⟨rfl, h7⟩)
        all_goals first
          | (exfalso; revert hzz; decide)
          | (refine ⟨⟨k + 1, by omega, by (rw [show ((v + (k + 1) : Nat) : Int) = (u : Int) + 1 by omega]), ⟨?_, ?_, hs7k.out, by have := hI.out.2.2.2.1; omega, hq7⟩⟩, by simp [intOf]; omega⟩
             · rw [fillTo_succ, hu, ← List.append_assoc]; exact h7
             · rw [fillTo_succ, hu, ← List.append_assoc]; exact h8)
          | (refine bodyPost_ret (v := .bool false) (by simp [results, Try.results89, go_sem]) rfl ?_
             exact ⟨by have := hI.out.2.2.2.1; omega, hq7, .inr ⟨rfl, h7⟩⟩)
      · have hlt' : ¬ (u : Int) < (n : Int) := by omega
        obtain rfl : k = M := by omega
        gi_wp2
        refine bodyPost_ret (v := .bool true) (by simp [results, Try.results89, go_sem]) rfl ?_
        exact ⟨by have := hI.out.2.2.2.1; omega, hI.out.2.2.2.2, .inl ⟨rfl, hJ _ _ _ _ _ hI.out.1 (Below.refl _ _) (fun k h => .inl (.inl h)), hI.out.2.1⟩⟩
end
/-- All sets that sets visits, up to so many places. -/
def setsTo (n k : Nat) : List (Nat → Bool) := (List.range k).flatMap fun i => fillL n (i + 1) (fun _ => false) 0
theorem setsTo_succ (n k : Nat) : setsTo n (k + 1) = setsTo n k ++ fillL n (k + 1) (fun _ => false) 0 := by
  unfold setsTo
  rw [List.range_succ, List.flatMap_append]
  simp
theorem setsTo_rest (n : Nat) {k : Nat} : ∀ {M}, k < M → ∃ rest, setsTo n M = setsTo n k ++ (fillL n (k + 1) (fun _ => false) 0 ++ rest)
  | 0, h => by omega
  | M + 1, h => by
    by_cases e : k = M
    · subst e; exact ⟨[], by rw [setsTo_succ]; simp⟩
    · obtain ⟨rest, hr⟩ := setsTo_rest n (k := k) (M := M) (by omega)
      exact ⟨rest ++ fillL n (M + 1) (fun _ => false) 0, by rw [setsTo_succ, hr]; simp⟩
set_option maxHeartbeats 2000000 in
set_option maxRecDepth 100000 in
theorem sets_gives {b bg n : Nat} {adj : Nat → Nat → Bool} (hn : n ≤ 12) (W1 : World) :
    Pq.GivesW Try.prog 88 #[.pointer (some ⟨bg, 0, none⟩)] encW (setsTo n n) (fun W => GraphAt W b n adj ∧ W.cell? ⟨bg, 0, none⟩ = some (.pointer (some ⟨b, 0, none⟩))) W1 := by
  intro l gs J hJ hR hY h0
  have h0r := hR _ _ _ h0
  obtain ⟨cg, cb⟩ := h0r
  have cn := cg.size
  have cgk := Keep.mk cg
  clear cg
  have qf := Keep.mk (fun (k : Nat) (hk : k < n) (q : Nat → Prop) (W : World) (hj : J q (setsTo n k) W) (hgo : Stp.going gs (setsTo n k)) (hz : W1.heap.size ≤ W.heap.size) =>
    fill_gives (b := b) (adj := adj) (W1 := W1) (l := l) (xs := setsTo n n) (gs := gs) (J := J) hn hJ (fun q pre W h => (hR q pre W h).1) hY (k + 1) (by omega) (fun _ => false) 0 q (setsTo n k) (setsTo_rest n (k := k) (M := n) hk).choose W (by omega) hj hgo hz (setsTo_rest n (k := k) (M := n) hk).choose_spec)
  unfold setV sc at qf
  have hI0 : Keep (∃ q, J q (setsTo n 0) W1) := ⟨Pq.none', by simpa [setsTo] using h0⟩
  have hg0 : Stp.going gs (setsTo n 0) := by simpa [setsTo] using Stp.going_nil gs
  clear hY h0
  refine callsIn_of_wp Try.func88 rfl trivial ?_ rfl
  simp only [Try.ntmps88, List.size_toArray, List.length_cons, List.length_nil, Nat.reduceAdd, Nat.reduceSub, Array.replicate_succ, Array.replicate_zero, List.push_toArray, List.append_toArray, List.nil_append, List.cons_append]
  gi_wp2
  gi_loopw [8] (fun i wr => ∃ k : Nat, k ≤ n ∧ i = .int .i64 k ∧ Keep (∃ q, J q (setsTo n k) wr) ∧ Stp.going gs (setsTo n k) ∧ W1.heap.size ≤ wr.heap.size) (fun i _ => n - (intOf i).toNat)
  case atStart => exact ⟨0, by omega, by simp, hI0, hg0, Nat.le_refl _⟩
  case round =>
    obtain ⟨k, hk, rfl, hI, hgo, hsz⟩ := hrel
    have hw1 : IntKind.i64.wrap ((k : Int) + 1) = (k : Int) + 1 := IntWalk.i64_in _ (by omega)
    by_cases hlt : k < n
    · have hlt' : (k : Int) < (n : Int) := by omega
      obtain ⟨q, hj⟩ := hI.out
      obtain ⟨cg2, cb2⟩ := hR _ _ _ hj
      have qf2 := qf.out k hlt q wr hj hgo hsz
      have hu1 : ((k + 1 : Nat) : Int) = (k : Int) + 1 := by omega
      rw [hu1] at qf2
      simp only [Int.ofNat_zero, Int.natCast_zero] at qf2
      have qf2k := Keep.mk qf2
      clear cg2 qf2
      gi_wp2_with (first
        | (refine ⟨trivial, rfl, ?_⟩; gi_at_call 89; refine (qf2k.out).mono ?_; rintro e w6 ⟨hs6, hq6, h6⟩
           obtain ⟨z, rfl, hz⟩ : ∃ z, e = .returned (.bool z) ∧ Keep ((z = true ∧ J q (setsTo n k ++ fillL n (k + 1) (fun _ => false) 0) w6 ∧ Stp.going gs (setsTo n k ++ fillL n (k + 1) (fun _ => false) 0)) ∨ (z = false ∧ Cut gs (setsTo n n) J w6)) := by
             (rcases h6 with ⟨rfl, h7, h8⟩ | ⟨rfl, h7⟩)
             · exact ⟨true, rfl, ⟨.inl ⟨rfl, h7, h8⟩⟩⟩
             · exact ⟨false, rfl, ⟨.inr ⟨rfl, h7⟩⟩⟩
           have hk6 := Keep.mk hs6; clear hs6 hq6 h6))
      all_goals rename_i hzz
      all_goals rcases hz.out with ⟨rfl, h7, h8⟩ | ⟨rfl, h7⟩
      all_goals first
        | (exfalso; revert hzz; decide)
        | (refine ⟨⟨k + 1, by omega, by go_num, ⟨q, ?_⟩, ?_, Nat.le_trans hsz hk6.out⟩, by simp [intOf]; omega⟩
           · rw [setsTo_succ]; exact h7
           · rw [setsTo_succ]; exact h8)
        | (refine bodyPost_ret (results_none rfl _ _ _) rfl ?_
           obtain ⟨q', p, x, post, h1, h2, h3, h4⟩ := h7
           exact ⟨⟨_, rfl⟩, ⟨q', p ++ [x], h4, .inr ⟨p, x, post, h1, rfl, h2, h3⟩⟩, Nat.le_trans hsz hk6.out⟩)
    · have hlt' : ¬ (k : Int) < (n : Int) := by omega
      obtain rfl : k = n := by omega
      gi_wp2
      go_end0
      obtain ⟨q, hj⟩ := hI.out
      exact ⟨⟨_, rfl⟩, ⟨q, _, hj, .inl ⟨rfl, hgo⟩⟩, hsz⟩
set_option maxRecDepth 100000 in
theorem sets_any {b : Nat} (w : World) : Calls Try.prog 73 #[.pointer (some ⟨b, 0, none⟩)] w fun e w' => e = .returned (.func (.func 88) #[] #[.pointer (some ⟨w.heap.size, 0, none⟩)]) ∧ w' = w.alloc (.cells #[.pointer (some ⟨b, 0, none⟩)] 77) := by
  go_enter Try.func73, Try.ntmps73
  go_wp2
  go_ret
  exact ⟨rfl, rfl⟩
end Go.Proofs.Yteekigpdiklppaa
set_option linter.unusedSimpArgs false
set_option linter.unusedVariables false
namespace Go.Proofs.Yteekigpdiklppaa
open Go Go.Proofs Go.RowKit Go.Seq
attribute [local go_sem] Oper.semAt_some
structure LeI (w : World) (b n : Nat) (adj : Nat → Nat → Bool) (fv : Value) (z : Nat → Bool) (W : World) : Prop where
  g : GraphAt W b n adj
  t2 : W.heap[w.heap.size]? = some (.cells #[.pointer (some ⟨b, 0, none⟩)] 77 (0, 0))
  t3 : W.heap[w.heap.size + 1]? = some (.cells #[fv] 93 (0, 0))
  t4 : SetAt W (w.heap.size + 1 + 1) z
  t7 : W.heap[w.heap.size + 1 + 1 + 1]? = some (.cells #[.pointer (some ⟨b, 0, none⟩)] 77 (0, 0))
  bw : Below w.heap.size w W
  sz : w.heap.size + 4 ≤ W.heap.size
theorem LeI.keepsL {w W W' : World} {b n : Nat} {adj : Nat → Nat → Bool} {fv : Value} {z : Nat → Bool} (h : LeI w b n adj fv z W) (hb : b < w.heap.size) (hk : Pv.KeepsL (w.heap.size + 4) Pq.none' W W') : LeI w b n adj fv z W' := by
  have hsz := h.sz
  have hn : ∀ k, k < w.heap.size + 4 → ¬ (k = w.heap.size + 4 ∨ k = w.heap.size + 4 + 1 ∨ Pq.none' k) := fun k hk h => by
    rcases h with h | h | h
    · omega
    · omega
    · exact h
  have hbl : Below w.heap.size W W' := Pv.KeepsV.below hk (fun k hk => by (rcases hk with h | h | h); (· omega); (· omega); (· exact h.elim)) (by omega)
  exact ⟨h.g.below hbl hb, (hk.block _ (by omega) (hn _ (by omega))).trans h.t2, (hk.block _ (by omega) (hn _ (by omega))).trans h.t3, (hk.block _ (by omega) (hn _ (by omega))).trans h.t4, (hk.block _ (by omega) (hn _ (by omega))).trans h.t7, h.bw.trans hbl, Nat.le_trans hsz hk.size⟩
theorem LeI.after {w W W' : World} {b n : Nat} {adj : Nat → Nat → Bool} {fv : Value} {z : Nat → Bool} (h : LeI w b n adj fv z W) (hb : Below W.heap.size W W') : LeI w b n adj fv z W' := by
  have hsz := h.sz
  exact ⟨h.g.below hb h.g.lt, (hb.block _ (by omega)).trans h.t2, (hb.block _ (by omega)).trans h.t3, h.t4.after hb, (hb.block _ (by omega)).trans h.t7, h.bw.trans (hb.mono h.bw.size), Nat.le_trans hsz hb.size⟩
theorem LeI.res {w W : World} {b n : Nat} {adj : Nat → Nat → Bool} {fv : Value} {z : Nat → Bool} (y : Nat → Bool) (h : LeI w b n adj fv z W) (hb : b < w.heap.size) : LeI w b n adj fv y (st12 W (w.heap.size + 1 + 1) y) :=
  ⟨⟨(World.cell?_of_block (a := ⟨b, 0, none⟩) (st12_heap _ _ _ (by show b ≠ w.heap.size + 1 + 1; omega))).trans h.g.size, fun i j hi hj => (World.cell?_of_block (a := ⟨b, 1 + i * 12 + j, none⟩) (st12_heap _ _ _ (by show b ≠ w.heap.size + 1 + 1; omega))).trans (h.g.at_ i j hi hj)⟩,
    (st12_heap _ _ _ (by omega)).trans h.t2, (st12_heap _ _ _ (by omega)).trans h.t3, st12_set h.t4, (st12_heap _ _ _ (by omega)).trans h.t7, st12_below h.bw (by omega), by rw [st12_size]; exact h.sz⟩
def leastOf (n : Nat) (isW : (Nat → Bool) → Bool) : Nat → Bool := ((setsTo n n).find? isW).getD (allS n)
theorem find_going {isW : (Nat → Bool) → Bool} : ∀ {p : List (Nat → Bool)}, Stp.going (fun _ x => !isW x) p → ∀ y ∈ p, isW y = false := by
  intro p hg y hy
  obtain ⟨a, c, rfl⟩ := List.append_of_mem hy
  have := hg a y c rfl
  simpa using this
theorem leastOf_stop {n : Nat} {isW : (Nat → Bool) → Bool} {p post : List (Nat → Bool)} {x : Nat → Bool} (hx : setsTo n n = p ++ x :: post) (hg : Stp.going (fun _ x => !isW x) p) (hw : isW x = true) : leastOf n isW = x := by
  unfold leastOf
  rw [hx, List.find?_append, List.find?_eq_none.2 (fun y hy => by simp [find_going hg y hy])]
  simp [hw]
theorem leastOf_done {n : Nat} {isW : (Nat → Bool) → Bool} (hg : Stp.going (fun _ x => !isW x) (setsTo n n)) : leastOf n isW = allS n := by
  unfold leastOf
  rw [List.find?_eq_none.2 (fun y hy => by simp [find_going hg y hy])]
  rfl
set_option maxHeartbeats 4000000 in
set_option maxRecDepth 100000 in
theorem least_any {b n f : Nat} {bd cp : Array Value} {adj : Nat → Nat → Bool} {rd : (Nat → Bool) → Nat → Bool} {R : World → Prop} {w : World} (kf : (Nat → Bool) → Nat) (hg : GraphAt w b n adj) (hn : n ≤ 12) (hq : Rnd f bd cp rd R) (hK : ∀ s, Stops rd s (kf s))
    (hR : ∀ W, Below w.heap.size w W → R W) :
    Calls Try.prog 70 #[.pointer (some ⟨b, 0, none⟩), .func (.func f) bd cp] w fun e w' => e = .returned (setV (leastOf n fun s => eqb (stg rd s (kf s)) (allS n))) ∧ Below w.heap.size w w' := by
  have hgl := hg.lt
  obtain ⟨isW, hisW⟩ : ∃ isW : (Nat → Bool) → Bool, (fun s => eqb (stg rd s (kf s)) (allS n)) = isW := ⟨_, rfl⟩
  have q75 : Keep (∀ s W, GraphAt W b n adj → Below w.heap.size w W → Calls Try.prog 75 #[.pointer (some ⟨b, 0, none⟩), setV s, .func (.func f) bd cp] W fun e w' => e = .returned (.bool (isW s)) ∧ Below W.heap.size W w') := ⟨fun s W hg' hb => by
    rw [← hisW]
    exact wets_any hg' hn hq (hK s) (fun W' hb' => hR W' (hb.trans (hb'.mono hb.size)))⟩
  rw [hisW]
  clear hisW hR hK hq
  obtain ⟨wa, hwa⟩ : ∃ wa, w.alloc (.cells #[.pointer (some ⟨b, 0, none⟩)] 77) = wa := ⟨_, rfl⟩
  obtain ⟨wb, hwb⟩ : ∃ wb, wa.alloc (.cells #[.func (.func f) bd cp] 93) = wb := ⟨_, rfl⟩
  obtain ⟨wc, hwc⟩ : ∃ wc, wb.alloc (.cells (sc (fun _ => false)) 79) = wc := ⟨_, rfl⟩
  obtain ⟨wd, hwd⟩ : ∃ wd, wc.alloc (.cells #[.pointer (some ⟨b, 0, none⟩)] 77) = wd := ⟨_, rfl⟩
  have sa : wa.heap.size = w.heap.size + 1 := by rw [← hwa]; simp
  have sb : wb.heap.size = w.heap.size + 1 + 1 := by rw [← hwb]; simp [sa]
  have ss : wc.heap.size = w.heap.size + 1 + 1 + 1 := by rw [← hwc]; simp [sb]
  have sd : wd.heap.size = w.heap.size + 4 := by rw [← hwd]; simp [ss]
  have ba : Below w.heap.size w wa := by rw [← hwa]; exact (Below.refl _ _).alloc (Nat.le_refl _) _
  have bb : Below wa.heap.size wa wb := by rw [← hwb]; exact (Below.refl _ _).alloc (Nat.le_refl _) _
  have bc : Below wb.heap.size wb wc := by rw [← hwc]; exact (Below.refl _ _).alloc (Nat.le_refl _) _
  have be : Below wc.heap.size wc wd := by rw [← hwd]; exact (Below.refl _ _).alloc (Nat.le_refl _) _
  have fa : wa.heap[w.heap.size]? = some (.cells #[.pointer (some ⟨b, 0, none⟩)] 77 (0, 0)) := by rw [← hwa]; exact World.alloc_heap_new w _
  have fb : wb.heap[w.heap.size + 1]? = some (.cells #[.func (.func f) bd cp] 93 (0, 0)) := by rw [← sa, ← hwb]; exact World.alloc_heap_new wa _
  have fc : SetAt wc (w.heap.size + 1 + 1) (fun _ => false) := by rw [← sb, ← hwc]; exact SetAt.new _ _
  have fd : wd.heap[w.heap.size + 1 + 1 + 1]? = some (.cells #[.pointer (some ⟨b, 0, none⟩)] 77 (0, 0)) := by rw [← ss, ← hwd]; exact World.alloc_heap_new wc _
  have bce := bc.trans (be.mono bc.size)
  have bbe := bb.trans (bce.mono bb.size)
  have bw := ba.trans (bbe.mono ba.size)
  have hI : Keep (LeI w b n adj (.func (.func f) bd cp) (fun _ => false) wd) := ⟨hg.below bw hgl, (bbe.block _ (by omega)).trans fa, (bce.block _ (by omega)).trans fb, fc.after be, fd, bw, by omega⟩
  have c2 : wc.cell? ⟨w.heap.size, 0, none⟩ = some (.pointer (some ⟨b, 0, none⟩)) := by simp [World.cell?, ((bb.trans (bc.mono bb.size)).block _ (by omega)).trans fa]
  have q84 := Keep.mk (fun W (h : GraphAt W b n adj) => all_any h hn)
  obtain ⟨A, hA⟩ : ∃ A, allS n = A := ⟨_, rfl⟩
  rw [show (fun j => decide (j < n)) = A from hA] at q84
  have hw : ((w.alloc (.cells #[.pointer (some ⟨b, 0, none⟩)] 77)).alloc (.cells #[.func (.func f) bd cp] 93)).alloc (.cells (sc (fun _ => false)) 79) = wc := by rw [hwa, hwb, hwc]
  have q73 := fun w => sets_any (b := b) w
  clear hwa hwb hwc sa sb ba bb bc be fa fb fc fd bce bbe bw
  obtain ⟨L, hL⟩ : ∃ L, leastOf n isW = L := ⟨_, rfl⟩
  rw [hL]
  unfold setV
  unfold sc at hw ⊢
  refine (callsIn_wide (n := 0)).1 ?_
  refine callsIn_of_wp_marks Try.func70 rfl trivial ?_ rfl
  simp only [Try.ntmps70, List.size_toArray, List.length_cons, List.length_nil, Nat.reduceAdd, Nat.reduceSub, Array.replicate_succ, Array.replicate_zero, List.push_toArray, List.append_toArray, List.nil_append, List.cons_append]
  refine wpIn_wide.2 ?_
  go_wp2_with (first
    | (go_at_call 73; (with_reducible refine (q73 _).mono ?_); rintro e w5 ⟨rfl, hw5⟩; rw [hw5]; clear hw5 w5))
  refine (wpIn_wide (n := 0)).1 ?_
  try rw [hwd]
  clear hw hwd q73 c2
  refine Pq.range_givesW (gf := 88) (lb := #[.pointer (some ⟨w.heap.size + 1 + 1 + 1, 0, none⟩)]) (by first | rfl | (simp [ss]; done)) (enters_of Try.func88 (by kernel_rfl) rfl) (encs := encW) (xs := setsTo n n)
    (R := fun V => GraphAt V b n adj ∧ V.cell? ⟨w.heap.size + 1 + 1 + 1, 0, none⟩ = some (.pointer (some ⟨b, 0, none⟩))) (fun x => rfl) (fun W1' h1 hb1 => sets_gives hn W1')
    (fun _ x => !isW x) .ret .ret (.inl ⟨rfl, rfl⟩)
    (fun q pre V => LeI w b n adj (.func (.func f) bd cp) (fun _ => false) V) (fun q pre V => LeI w b n adj (.func (.func f) bd cp) (pre.getLast?.getD (fun _ => false)) V) ?_ ?_ ?_ ?_ hI.out
    (fun x a' V => ∃ g, a' = { tmps := #[.pointer (some ⟨b, 0, none⟩), .func (.func f) bd cp, .pointer (some ⟨w.heap.size, 0, none⟩), .pointer (some ⟨w.heap.size + 1, 0, none⟩), .pointer (some ⟨w.heap.size + 1 + 1, 0, none⟩), .pointer (some ⟨g, 0, none⟩), .pointer (some ⟨b, 0, none⟩), .func (.func 88) #[] #[.pointer (some ⟨w.heap.size + 1 + 1 + 1, 0, none⟩)], .agg #[.bool (x 0), .bool (x 1), .bool (x 2), .bool (x 3), .bool (x 4), .bool (x 5), .bool (x 6), .bool (x 7), .bool (x 8), .bool (x 9), .bool (x 10), .bool (x 11)], undef, undef, undef, undef, undef, undef, undef], defers := [] } ∧ SetAt V g x ∧ w.heap.size + 6 ≤ g)
    ?_ ?assign ?body ?done ?stop
  · intro q q' pre V V' h hk _; rw [sd] at hk; exact h.keepsL hgl hk
  · intro q q' pre V V' h hk _; rw [sd] at hk; exact h.keepsL hgl hk
  · intro q pre V h; exact ⟨h.g, by simp [World.cell?, h.t7]⟩
  · intro q pre V h; exact ⟨h.g, by simp [World.cell?, h.t7]⟩
  · rintro x a' V V' ⟨g, rfl, h1, h2⟩ hs hk
    rw [sd] at hk
    exact ⟨g, rfl, (hk.block g h1.lt (by rintro (h | h | h); (· omega); (· omega); (· exact h))).trans h1, h2⟩
  case assign =>
    intro l2 q pre x V K hi hsz2 hK
    obtain ⟨V1, hV1⟩ : ∃ V1, V.alloc (.cells (sc x) 79) = V1 := ⟨_, rfl⟩
    have hb1 : Below V.heap.size V V1 := by rw [← hV1]; exact (Below.refl _ _).alloc (Nat.le_refl _) _
    have hn1 : SetAt V1 V.heap.size x := by rw [← hV1]; exact SetAt.new _ _
    unfold encW setV
    unfold sc at hV1 ⊢
    gi_wp2
    try rw [hV1]
    exact hK _ _ hb1 ⟨V.heap.size, rfl, hn1, by omega⟩
  case body =>
    rintro l2 qs pre x a' V hi hqb ⟨g, rfl, hg', hg6⟩ hsz2 ⟨post, hpost⟩ - -
    obtain ⟨c0, c1, c2, c3, c4, c5, c6, c7, c8, c9, c10, c11⟩ := hg'.c12
    have c2 : V.cell? ⟨w.heap.size, 0, none⟩ = some (.pointer (some ⟨b, 0, none⟩)) := by simp [World.cell?, hi.t2]
    have c3 : V.cell? ⟨w.heap.size + 1, 0, none⟩ = some (.func (.func f) bd cp) := by simp [World.cell?, hi.t3]
    have q := q75.out x V hi.g hi.bw
    unfold setV sc at q
    have hik := Keep.mk (And.intro hi hg')
    clear hi hg' hI
    cases hz : isW x with
    | false =>
      rw [hz] at q
      gi_wp2_with (first
        | (refine ⟨trivial, rfl, ?_⟩; gi_at_call 75; refine (CallsIn.inRound l2 (callsIn_wide.2 q)).mono ?_; rintro e V5 ⟨rfl, hb5⟩; have hb5k := Keep.mk hb5; clear hb5))
      have hb5 := hb5k.out
      exact ⟨hik.out.1.after hb5, ⟨hb5.size, hb5.block _ (by omega), hb5.block _ (by omega), fun k hk => hb5.block k (hqb k hk).2⟩, hb5.os, hb5.tape, hb5.output⟩
    | true =>
      rw [hz] at q
      gi_wp2_with (first
        | (refine ⟨trivial, rfl, ?_⟩; gi_at_call 75; refine (CallsIn.inRound l2 (callsIn_wide.2 q)).mono ?_; rintro e V5 ⟨rfl, hb5⟩
           have hi5 := hik.out.1.after hb5
           obtain ⟨d0, d1, d2, d3, d4, d5, d6, d7, d8, d9, d10, d11⟩ := (hik.out.2.after hb5).c12
           obtain ⟨z0, z1, z2, z3, z4, z5, z6, z7, z8, z9, z10, z11⟩ := hi5.t4.c12
           obtain ⟨f0, f1, f2, f3, f4, f5, f6, f7, f8, f9, f10, f11⟩ := hi5.t4.f12
           obtain ⟨V9, hV9⟩ : ∃ V9, st12 V5 (w.heap.size + 1 + 1) x = V9 := ⟨_, rfl⟩
           have hr9 := hi5.res x hgl
           have hb9 : Below w.heap.size V5 V9 := by rw [← hV9]; exact st12_below (Below.refl _ _) (by omega)
           have hk9 : ∀ k, k ≠ w.heap.size + 1 + 1 → V9.heap[k]? = V5.heap[k]? := fun k hk => by rw [← hV9]; exact st12_heap _ _ _ hk
           rw [hV9] at hr9
           have hb5k := Keep.mk (And.intro hb5 (And.intro hr9 (And.intro hb9 hk9))); clear hb5 hi5 hr9 hb9 hk9
           unfold st12 at hV9))
      obtain ⟨hb5, hr9, hb9, hk9⟩ := hb5k.out
      have hz5 := hb5.size
      exact ⟨hr9, ⟨Nat.le_trans hz5 hb9.size, (hk9 _ (by omega)).trans (hb5.block _ (by omega)), (hk9 _ (by omega)).trans (hb5.block _ (by omega)), fun k hk => (hk9 k (by have := hqb k hk; omega)).trans (hb5.block k (hqb k hk).2)⟩, hb9.os.trans hb5.os, hb9.tape.trans hb5.tape, hb9.output.trans hb5.output⟩
  case done =>
    intro q V hi hgo hsz2 hD
    have hLA : L = A := by rw [← hL, leastOf_done hgo, hA]
    subst hLA
    have c2 : V.cell? ⟨w.heap.size, 0, none⟩ = some (.pointer (some ⟨b, 0, none⟩)) := by simp [World.cell?, hi.t2]
    have q := q84.out V hi.g
    unfold setV sc at q
    have hik := Keep.mk hi
    have hDk := Keep.mk hD
    have hLk := Keep.mk hL
    clear hi hI hD hL hA q84
    gi_wp2
    go_wp2_with (first
      | (go_at_call 84; (with_reducible refine q.mono ?_); rintro e V5 ⟨rfl, hb5⟩
         have hi5 := hik.out.after hb5
         obtain ⟨z0, z1, z2, z3, z4, z5, z6, z7, z8, z9, z10, z11⟩ := hi5.t4.c12
         obtain ⟨f0, f1, f2, f3, f4, f5, f6, f7, f8, f9, f10, f11⟩ := hi5.t4.f12
         obtain ⟨V9, hV9⟩ : ∃ V9, st12 V5 (w.heap.size + 1 + 1) L = V9 := ⟨_, rfl⟩
         have hr9 := hi5.res L hgl
         have hd9 : V9.heap[wd.heap.size]? = some (.deferred (some [])) := by rw [← hV9, st12_heap _ _ _ (by omega), hb5.block _ (by omega)]; exact hDk.out
         rw [hV9] at hr9
         have hb5k := Keep.mk (And.intro hr9 hd9); clear hb5 hi5 hr9 hd9
         unfold st12 at hV9))
    try rw [hV9]
    obtain ⟨hr9, hd9⟩ := hb5k.out
    rw [sd] at hd9
    have hz9 := hr9.sz
    refine Qr.leaves_mark hd9 fun w' hk => ⟨.agg #[.bool (L 0), .bool (L 1), .bool (L 2), .bool (L 3), .bool (L 4), .bool (L 5), .bool (L 6), .bool (L 7), .bool (L 8), .bool (L 9), .bool (L 10), .bool (L 11)], ?_, rfl, hr9.bw.trans (hk.below (by omega) (by omega))⟩
    have hst2 : SetAt w' (w.heap.size + 1 + 1) L := (hk.block _ (by omega) (by omega) (by omega)).trans hr9.t4
    obtain ⟨c0, c1, c2, c3, c4, c5, c6, c7, c8, c9, c10, c11⟩ := hst2.c12
    first
      | (rw [results_cell rfl]; go_simp; done)
      | (simp [results, Try.results70, go_sem]; go_simp)
  case stop =>
    intro q V p x post hx hgo hf hi hsz2 hD
    have hLx : L = x := by rw [← hL]; exact leastOf_stop hx hgo (by simpa using hf)
    subst hLx
    have hi2 : LeI w b n adj (.func (.func f) bd cp) L V := by simpa using hi
    have hz9 := hi2.sz
    clear hI hi q84 hL
    gi_wp2
    refine Qr.leaves_mark hD fun w' hk => ⟨.agg #[.bool (L 0), .bool (L 1), .bool (L 2), .bool (L 3), .bool (L 4), .bool (L 5), .bool (L 6), .bool (L 7), .bool (L 8), .bool (L 9), .bool (L 10), .bool (L 11)], ?_, rfl, hi2.bw.trans (hk.below (by omega) (by omega))⟩
    have hst2 : SetAt w' (w.heap.size + 1 + 1) L := (hk.block _ (by omega) (by omega) (by omega)).trans hi2.t4
    obtain ⟨c0, c1, c2, c3, c4, c5, c6, c7, c8, c9, c10, c11⟩ := hst2.c12
    first
      | (rw [results_cell rfl]; go_simp; done)
      | (simp [results, Try.results70, go_sem]; go_simp)
end Go.Proofs.Yteekigpdiklppaa
set_option linter.unusedSimpArgs false
set_option linter.unusedVariables false
namespace Go.Proofs.Yteekigpdiklppaa
open Go Go.Proofs Go.RowKit Go.Seq
attribute [local go_sem] Oper.semAt_some
set_option maxHeartbeats 1000000 in
set_option maxRecDepth 100000 in
theorem vertices_givesQ {b : Nat} {s : Nat → Bool} (W1 : World) :
    Qr.GivesQ Try.prog 83 #[.pointer (some ⟨b, 0, none⟩)] encK (vsTo s 12) (fun W => SetAt W b s) W1 := by
  intro l J hJ hR hY h0
  have hS := hR _ _ h0
  obtain ⟨c0, _⟩ := hS.cell (k := 0) (by omega)
  obtain ⟨c1, _⟩ := hS.cell (k := 1) (by omega)
  obtain ⟨c2, _⟩ := hS.cell (k := 2) (by omega)
  obtain ⟨c3, _⟩ := hS.cell (k := 3) (by omega)
  obtain ⟨c4, _⟩ := hS.cell (k := 4) (by omega)
  obtain ⟨c5, _⟩ := hS.cell (k := 5) (by omega)
  obtain ⟨c6, _⟩ := hS.cell (k := 6) (by omega)
  obtain ⟨c7, _⟩ := hS.cell (k := 7) (by omega)
  obtain ⟨c8, _⟩ := hS.cell (k := 8) (by omega)
  obtain ⟨c9, _⟩ := hS.cell (k := 9) (by omega)
  obtain ⟨c10, _⟩ := hS.cell (k := 10) (by omega)
  obtain ⟨c11, _⟩ := hS.cell (k := 11) (by omega)
  refine callsIn_of_wp Try.func83 rfl trivial ?_ rfl
  simp only [Try.ntmps83, List.size_toArray, List.length_cons, List.length_nil, Nat.reduceAdd, Nat.reduceSub, Array.replicate_succ, Array.replicate_zero, List.push_toArray, List.append_toArray, List.nil_append, List.cons_append]
  gi_wp2
  clear c0 c1 c2 c3 c4 c5 c6 c7 c8 c9 c10 c11
  gi_loopw [6] (fun i wr => ∃ k : Nat, k ≤ 12 ∧ i = .int .i64 k ∧ J (vsTo s k) wr ∧ W1.heap.size ≤ wr.heap.size) (fun i _ => 12 - (intOf i).toNat)
  case atStart => exact ⟨0, by omega, rfl, by simpa [vsTo] using h0, by simp⟩
  case round =>
    obtain ⟨k, hk, rfl, hj, hsz⟩ := hrel
    have hw1 : IntKind.i64.wrap ((k : Int) + 1) = (k : Int) + 1 := IntWalk.i64_in _ (by omega)
    by_cases hlt : k < 12
    · have hlt' : (k : Int) < 12 := by omega
      have hidx := fun w => idx49 s k hlt w
      unfold sc at hidx
      cases hs : s k with
      | true =>
        rw [hs] at hidx
        obtain ⟨fn, tmps, assign, body, hy, hRd⟩ := hY (vsTo s k) k wr hj hsz (vsTo_rest s hs hlt)
        unfold encK at hy
        gi_wp2
        refine ⟨rfl, hRd.mono ?_⟩
        rintro e w5 ⟨rfl, hj5, hf5, _⟩
        have hsz5 := Nat.le_trans hsz hf5
        gi_wp2
        exact ⟨⟨k + 1, by omega, by go_num, by rw [vsTo_succ, if_pos hs]; exact hj5, hsz5⟩, by simp [intOf]; omega⟩
      | false =>
        rw [hs] at hidx
        gi_wp2
        refine ⟨fun f hf => (by cases hf), ?_⟩
        gi_wp2
        exact ⟨⟨k + 1, by omega, by go_num, by rw [vsTo_succ, hs]; exact hj, hsz⟩, by simp [intOf]; omega⟩
    · have : k = 12 := by omega
      subst this
      gi_wp2
      go_end0
      exact ⟨⟨_, rfl⟩, hj, hsz⟩
def ik (k : Nat) : Value := .int .i64 k
theorem row_keeps {n B e s k : Nat} {W W' : World} {v : Value} {xs : List Value} (h : W.ownsRow B e s v k xs) (hk : Qr.Keeps n W W') (hB : n + 2 ≤ B) : W'.ownsRow B e s v k xs := by
  obtain ⟨h1, h2⟩ := h
  refine ⟨h1, ?_⟩
  rcases h2 with h2 | ⟨g, cap, cur, rfl, hg, hh, hr⟩
  · exact .inl h2
  · exact .inr ⟨g, cap, cur, rfl, hg, (hk.block g (Array.getElem?_eq_some_iff.1 hh).1 (by omega) (by omega)).trans hh, hr⟩
theorem info3 : (Try.prog.info? 3).map (fun i => (i.zero, i.size, i.bytes)) = some (some (.int .i64 0), 1, 8) := by kernel_rfl
theorem ty24 : Try.prog.underlying 23 = some (.slice 3) := by kernel_rfl
set_option maxHeartbeats 2000000 in
set_option maxRecDepth 100000 in
theorem list_any (s : Nat → Bool) (w : World) : Calls Try.prog 60 #[setV s] w fun e w' => ∃ v, e = .returned v ∧ w'.ownsRow w.heap.size 3 1 v (vsTo s 12).length ((vsTo s 12).map ik) ∧ Below w.heap.size w w' := by
  obtain ⟨i0, hi, hz0, hz1, hz2⟩ : ∃ i, Try.prog.info? 3 = some i ∧ i.zero = some (.int .i64 0) ∧ i.size = 1 ∧ i.bytes = 8 := by
    have h := info3
    cases hI : Try.prog.info? 3 with
    | none => rw [hI] at h; cases h
    | some i =>
      rw [hI] at h
      simp only [Option.map_some, Option.some.injEq, Prod.mk.injEq] at h
      exact ⟨i, rfl, h.1, h.2.1, h.2.2⟩
  obtain ⟨wa, hwa⟩ : ∃ wa, w.alloc (.cells (sc s) 79) = wa := ⟨_, rfl⟩
  have sa : wa.heap.size = w.heap.size + 1 := by rw [← hwa]; simp
  have ba : Below w.heap.size w wa := by rw [← hwa]; exact (Below.refl _ _).alloc (Nat.le_refl _) _
  have fa : SetAt wa w.heap.size s := by rw [← hwa]; exact SetAt.new _ _
  obtain ⟨x0, x1, x2, x3, x4, x5, x6, x7, x8, x9, x10, x11⟩ := fa.c12
  have q39 := fun w => vertices_any s w
  unfold setV sc at q39 ⊢
  unfold sc at hwa
  refine (callsIn_wide (n := 0)).1 ?_
  refine callsIn_of_wp_marks Try.func60 rfl trivial ?_ rfl
  simp only [Try.ntmps60, List.size_toArray, List.length_cons, List.length_nil, Nat.reduceAdd, Nat.reduceSub, Array.replicate_succ, Array.replicate_zero, List.push_toArray, List.append_toArray, List.nil_append, List.cons_append]
  refine wpIn_wide.2 ?_
  go_wp2_with (first
    | (go_at_call 62; (with_reducible refine (q39 _).mono ?_); rintro e w5 ⟨rfl, hw5⟩; rw [hw5]; clear hw5 w5))
  refine (wpIn_wide (n := 0)).1 ?_
  obtain ⟨wb, hwb⟩ : ∃ wb, wa.alloc (.cells #[.slice none 0 0] 23) = wb := ⟨_, rfl⟩
  have sb : wb.heap.size = w.heap.size + 1 + 1 := by rw [← hwb]; simp [sa]
  have bb : Below wa.heap.size wa wb := by rw [← hwb]; exact (Below.refl _ _).alloc (Nat.le_refl _) _
  have t3 : wb.heap[w.heap.size + 1]? = some (.cells #[.slice none 0 0] 23 (0, 0)) := by rw [← sa, ← hwb]; exact World.alloc_heap_new wa _
  obtain ⟨w2, hw2⟩ : ∃ w2, wb.alloc (.cells (sc s) 79) = w2 := ⟨_, rfl⟩
  have bc : Below wb.heap.size wb w2 := by rw [← hw2]; exact (Below.refl _ _).alloc (Nat.le_refl _) _
  have s2 : w2.heap.size = w.heap.size + 3 := by rw [← hw2]; simp [sb]
  have f2 : SetAt w2 (w.heap.size + 1 + 1) s := by rw [← sb, ← hw2]; exact SetAt.new _ _
  have t3 := (bc.block (w.heap.size + 1) (by omega)).trans t3
  have bw : Below w.heap.size w w2 := (ba.trans (bb.mono (by omega))).trans (bc.mono (by omega))
  unfold sc at hw2
  rw [hwb, hw2]
  clear hwa hwb hw2 sb bb bc fa ba sa x0 x1 x2 x3 x4 x5 x6 x7 x8 x9 x10 x11 q39
  refine Qr.range_givesQ (gf := 83) (lb := #[.pointer (some ⟨w.heap.size + 1 + 1, 0, none⟩)]) rfl (enters_of Try.func83 (by kernel_rfl) rfl) (encs := encK) (xs := vsTo s 12)
    (R := fun W => SetAt W (w.heap.size + 1 + 1) s) (fun x => rfl) (fun W1' _ _ => vertices_givesQ W1')
    (fun pre W => SetAt W (w.heap.size + 1 + 1) s ∧ (∃ v, W.cell? ⟨w.heap.size + 1, 0, none⟩ = some v ∧ W.frozen? ⟨w.heap.size + 1, 0, none⟩ = false ∧ W.ownsRow (w.heap.size + 5) 3 1 v pre.length (pre.map ik)) ∧ Below w.heap.size w W ∧ w.heap.size + 3 ≤ W.heap.size)
    ?_ (fun pre W h => h.1) ⟨f2, ⟨_, by simp [World.cell?, t3], by simp [World.frozen?, t3], World.ownsRow_nil _ _ _ _⟩, bw, by omega⟩
    (fun x a' W => a' = { tmps := #[.agg (sc s), .pointer (some ⟨w.heap.size, 0, none⟩), .slice none 0 0, .pointer (some ⟨w.heap.size + 1, 0, none⟩), .int .i64 (x : Nat), .agg (sc s), .func (.func 83) #[] #[.pointer (some ⟨w.heap.size + 1 + 1, 0, none⟩)], .int .i64 (x : Nat), undef, undef, undef, undef, undef], defers := [] })
    ?_ ?assign ?body ?done
  · rintro pre W W' ⟨k1, ⟨v, k2, k3, k4⟩, k5, k6⟩ hk
    have hb : Below w2.heap.size W W' := hk.below (Nat.le_refl _) (by omega)
    refine ⟨k1.below hb (by omega), ⟨v, (hb.cell (p := ⟨w.heap.size + 1, 0, none⟩) (by show w.heap.size + 1 < _; omega)).trans k2, ?_, row_keeps k4 hk (by omega)⟩, k5.trans (hb.mono (by omega)), Nat.le_trans k6 hk.size⟩
    rw [World.frozen?_of_block (a := ⟨w.heap.size + 1, 0, none⟩) (hb.block _ (by show w.heap.size + 1 < _; omega))]; exact k3
  · rintro x a' W W' h _ _
    exact h
  case assign =>
    intro l2 pre x W K hi2 hsz2 hK
    unfold encK
    gi_wp2
    exact hK _ _ (Below.refl W.heap.size W) (by first | rfl | simp [sc])
  case body =>
    rintro l2 pre x a' W ⟨k1, ⟨v, k2, k3, k4⟩, k5, k6⟩ rfl hsz2 ⟨post, hpost⟩
    have hl : pre.length ≤ 12 := by
      have := vsTo_len s 12
      rw [hpost] at this
      simp at this; omega
    gi_wp2_with (gi_at_builtin; refine wpListIn_append_own _ rfl _ _ 23 rfl (w.heap.size + 5) 3 i0 (.int .i64 0) 1 8 ty24 hi hz0 hz1 hz2 rfl (by decide) _ _ _ rfl (k4.alloc _) ⟨W.heap.size, 0, none⟩ 1 1 [.int .i64 x] rfl rfl (cell_one_new _ _ _) (by simp [Value.oneCell']) (by unfold maxLen; omega) (by omega) (by simp; omega) ?_; intro v' w1 hown hgrow _
                 have hb1 : Below (w.heap.size + 5) W w1 := Below.grown ((Below.refl _ W).alloc (by omega) _) hgrow (by simp; omega) (fun j hj => (k4.lt _ hj).1)
                 obtain ⟨g', cap', rfl⟩ := ownsRow_succ hown
                 have c3 := (hb1.cell (p := ⟨w.heap.size + 1, 0, none⟩) (by show w.heap.size + 1 < w.heap.size + 5; omega)).trans k2
                 have f3 := (World.frozen?_of_block (a := ⟨w.heap.size + 1, 0, none⟩) (hb1.block _ (by show w.heap.size + 1 < w.heap.size + 5; omega))).trans k3)
    have hd := ownsRow_setCell_below hown (a := ⟨w.heap.size + 1, 0, none⟩) (by show w.heap.size + 1 < w.heap.size + 5; omega) (.slice (some ⟨g', 0, none⟩) (pre.length + 1) cap')
    have hsz1 : W.heap.size ≤ w1.heap.size := hb1.size
    refine ⟨⟨(k1.below hb1 (by omega)).other (by omega), hd, (k5.trans (hb1.mono (by omega))).setCell (p := ⟨w.heap.size + 1, 0, none⟩) (by show w.heap.size ≤ w.heap.size + 1; omega) _, by omega⟩, ⟨hsz1, ?_, ?_⟩, hb1.os, hb1.tape, hb1.output⟩
    · rw [Below.heap_setCell _ _ _ _ (by show w.heap.size + 3 ≠ w.heap.size + 1; omega)]; exact hb1.block _ (by omega)
    · rw [Below.heap_setCell _ _ _ _ (by show w.heap.size + 3 + 1 ≠ w.heap.size + 1; omega)]; exact hb1.block _ (by omega)
  case done =>
    rintro W ⟨k1, ⟨v, k2, k3, k4⟩, k5, k6⟩ hszW hD
    gi_wp2
    go_wp2
    refine Qr.leaves_mark hD fun w' hk => ⟨v, by simp [results, Try.results60, go_sem], v, rfl, ?_, k5.trans (hk.below (by omega) (by omega))⟩
    have h := row_keeps k4 hk (by omega)
    obtain ⟨h1, h2⟩ := h
    refine ⟨h1, ?_⟩
    rcases h2 with h2 | ⟨g, cap, cur, rfl, hg, hr⟩
    · exact .inl h2
    · exact .inr ⟨g, cap, cur, rfl, by omega, hr⟩
end Go.Proofs.Yteekigpdiklppaa
set_option linter.unusedSimpArgs false
set_option linter.unusedVariables false
namespace Go.Proofs.Yteekigpdiklppaa
open Go Go.Proofs Go.RowKit Go.Seq
attribute [local go_sem] Oper.semAt_some
/-- A list of places in memory, at new blocks. -/
def ListV (w w' : World) (v : Value) (s : Nat → Bool) : Prop := w'.ownsRow w.heap.size 3 1 v (vsTo s 12).length ((vsTo s 12).map ik)
theorem row_base {W : World} {B B' e s k : Nat} {v : Value} {xs : List Value} (h : W.ownsRow B e s v k xs) (hB : B' ≤ B) : W.ownsRow B' e s v k xs := by
  obtain ⟨h1, h2⟩ := h
  refine ⟨h1, ?_⟩
  rcases h2 with h2 | ⟨g, cap, cur, rfl, hg, hr⟩
  · exact .inl h2
  · exact .inr ⟨g, cap, cur, rfl, by omega, hr⟩
theorem row_after {W W' : World} {B e s k : Nat} {v : Value} {xs : List Value} (h : W.ownsRow B e s v k xs) (hb : Below W.heap.size W W') : W'.ownsRow B e s v k xs := by
  obtain ⟨h1, h2⟩ := h
  refine ⟨h1, ?_⟩
  rcases h2 with h2 | ⟨g, cap, cur, rfl, hg, hh, hr⟩
  · exact .inl h2
  · exact .inr ⟨g, cap, cur, rfl, hg, (hb.block g (Array.getElem?_eq_some_iff.1 hh).1).trans hh, hr⟩
set_option maxHeartbeats 2000000 in
set_option maxRecDepth 100000 in
theorem close_yes {n K : Nat} {v v2 : Value} {ps : Pts} {zs : List Int} {w : World} (hv : PairsOf w v ps) (hok : GrOk n ps) (hl : ps.length ≤ 200) (hv2 : IntsO w v2 zs) (hzk : ListOk n zs) (hl2 : zs.length ≤ 100)
    (hK : Stops (fround (adjOf ps)) (setOf zs) K) :
    Calls Try.prog 19 #[.int .i64 n, v, v2] w fun e w' => ∃ lv, e = .returned (.tuple #[lv, .int .i64 K, .int .i64 0]) ∧ ListV w w' lv (stg (fround (adjOf ps)) (setOf zs) K) ∧ Below w.heap.size w w' := by
  have q57 := readSet_yes hv hok hl hv2 hzk hl2
  have q58 := Keep.mk (fun (g : Nat) (W : World) (hg : GraphAt W g n (adjOf ps)) => closure_any (w := W) (rnd_force g n (adjOf ps)) hK (fun W' hb => hg.below hb hg.lt))
  obtain ⟨F, hF⟩ : ∃ F, stg (fround (adjOf ps)) (setOf zs) K = F := ⟨_, rfl⟩
  rw [hF] at q58 ⊢
  obtain ⟨S, hS⟩ : ∃ S, setOf zs = S := ⟨_, rfl⟩
  rw [hS] at q57 q58
  have q60 := fun W => list_any F W
  clear hF hS hv hv2
  unfold setV sc at q57 q60
  go_enter Try.func19, Try.ntmps19
  go_wp2_with (first
    | (go_at_call 57; (with_reducible refine q57.mono ?_); rintro e w5 ⟨g, rfl, hg5, hgl, hb5⟩
       obtain ⟨w6, hw6⟩ : ∃ w6, w5.alloc (.cells (sc S) 79) = w6 := ⟨_, rfl⟩
       have hb6 : Below w5.heap.size w5 w6 := by rw [← hw6]; exact (Below.refl _ _).alloc (Nat.le_refl _) _
       have hf6 : SetAt w6 w5.heap.size S := by rw [← hw6]; exact SetAt.new _ _
       have q5 := q58.out g w6 (hg5.below hb6 hg5.lt).at
       obtain ⟨x0, x1, x2, x3, x4, x5, x6, x7, x8, x9, x10, x11⟩ := hf6.c12
       have hbb := Keep.mk (hb5.trans (hb6.mono hb5.size))
       clear hg5 hb5 hb6 hf6
       unfold sc at hw6
       unfold setV sc at q5)
    | (go_at_call 58; (with_reducible refine q5.mono ?_); rintro e w7 ⟨rfl, hb7⟩
       obtain ⟨w8, hw8⟩ : ∃ w8, w7.alloc (.cells (sc F) 79) = w8 := ⟨_, rfl⟩
       have hb8 : Below w7.heap.size w7 w8 := by rw [← hw8]; exact (Below.refl _ _).alloc (Nat.le_refl _) _
       have hf8 : SetAt w8 w7.heap.size F := by rw [← hw8]; exact SetAt.new _ _
       obtain ⟨y0, y1, y2, y3, y4, y5, y6, y7, y8, y9, y10, y11⟩ := hf8.c12
       have hbc := Keep.mk (hbb.out.trans ((hb7.trans (hb8.mono hb7.size)).mono hbb.out.size))
       clear hb7 hb8 hf8 q5
       unfold sc at hw8)
    | (go_at_call 60; (with_reducible refine (q60 _).mono ?_); rintro e w9 ⟨lv, rfl, hrow, hb9⟩
       have hfin := Keep.mk (And.intro hrow hb9)
       clear hrow hb9))
  refine bodyPost_ret (v := .tuple #[lv, .int .i64 K, .int .i64 0]) (by simp [results, Try.results19, go_sem]) rfl ?_
  exact ⟨lv, rfl, row_base hfin.out.1 hbc.out.size, hbc.out.trans (hfin.out.2.mono hbc.out.size)⟩
set_option maxHeartbeats 2000000 in
set_option maxRecDepth 100000 in
theorem Least_yes {n : Nat} {v : Value} {ps : Pts} {w : World} (kf : (Nat → Bool) → Nat) (hv : PairsOf w v ps) (hok : GrOk n ps) (hl : ps.length ≤ 200) (hK : ∀ s, Stops (fround (adjOf ps)) s (kf s)) :
    Calls Try.prog 34 #[.int .i64 n, v] w fun e w' => ∃ lv, e = .returned (.tuple #[lv, .int .i64 0]) ∧ ListV w w' lv (leastOf n fun s => eqb (stg (fround (adjOf ps)) s (kf s)) (allS n)) ∧ Below w.heap.size w w' := by
  have q69 := readGraph_yes hv hok hl
  have hn : n ≤ 12 := by have := hok.n12; omega
  have q70 := Keep.mk (fun (g : Nat) (W : World) (hg : GraphAt W g n (adjOf ps)) => least_any (w := W) kf hg hn (rnd_force g n (adjOf ps)) hK (fun W' hb => hg.below hb hg.lt))
  obtain ⟨F, hF⟩ : ∃ F, (leastOf n fun s => eqb (stg (fround (adjOf ps)) s (kf s)) (allS n)) = F := ⟨_, rfl⟩
  rw [hF] at q70 ⊢
  have q60 := fun W => list_any F W
  clear hF hv
  unfold setV sc at q60
  go_enter Try.func34, Try.ntmps34
  go_wp2_with (first
    | (go_at_call 69; (with_reducible refine q69.mono ?_); rintro e w5 ⟨rfl, hg5, hb5⟩
       have q7 := q70.out w.heap.size w5 hg5.at
       have hbb := Keep.mk hb5
       clear hg5 hb5
       unfold setV sc at q7)
    | (go_at_call 70; (with_reducible refine q7.mono ?_); rintro e w7 ⟨rfl, hb7⟩
       have hbc := Keep.mk (hbb.out.trans (hb7.mono hbb.out.size))
       clear hb7 q7)
    | (go_at_call 60; (with_reducible refine (q60 _).mono ?_); rintro e w9 ⟨lv, rfl, hrow, hb9⟩
       have hfin := Keep.mk (And.intro hrow hb9)
       clear hrow hb9))
  refine bodyPost_ret (v := .tuple #[lv, .int .i64 0]) (by simp [results, Try.results34, go_sem]) rfl ?_
  exact ⟨lv, rfl, row_base hfin.out.1 hbc.out.size, hbc.out.trans (hfin.out.2.mono hbc.out.size)⟩
set_option maxHeartbeats 2000000 in
set_option maxRecDepth 100000 in
theorem Fewest_yes {n : Nat} {r : Int} {v : Value} {ps : Pts} {w : World} (kf : (Nat → Bool) → Nat) (hv : PairsOf w v ps) (hok : GrOk n ps) (hl : ps.length ≤ 200) (hr1 : 1 ≤ r) (hr6 : r ≤ 6) (hK : ∀ s, Stops (sokd n (adjOf ps) r) s (kf s)) :
    Calls Try.prog 39 #[.int .i64 n, v, .int .i64 r] w fun e w' => ∃ lv, e = .returned (.tuple #[lv, .int .i64 0]) ∧ ListV w w' lv (leastOf n fun s => eqb (stg (sokd n (adjOf ps) r) s (kf s)) (allS n)) ∧ Below w.heap.size w w' := by
  have q69 := readGraph_yes hv hok hl
  have hn : n ≤ 12 := by have := hok.n12; omega
  have q66 := threshold_any r
  rw [decide_eq_true (And.intro hr1 hr6)] at q66
  have q67 := fun W => soak_any w.heap.size r W
  have q70 : Keep (∀ (W W1 : World), GraphAt W w.heap.size n (adjOf ps) → w.heap.size < W.heap.size → W1 = (W.alloc (.cells #[.pointer (some ⟨w.heap.size, 0, none⟩)] 77)).alloc (.cells #[.int .i64 r] 3) →
      Calls Try.prog 70 #[.pointer (some ⟨w.heap.size, 0, none⟩), .func (.func 86) #[] #[.pointer (some ⟨W.heap.size, 0, none⟩), .pointer (some ⟨W.heap.size + 1, 0, none⟩)]] W1 fun e w' => e = .returned (setV (leastOf n fun s => eqb (stg (sokd n (adjOf ps) r) s (kf s)) (allS n))) ∧ Below W.heap.size W w') := ⟨fun W W1 hg hlt hW1 => by
    have b0 : Below W.heap.size W (W.alloc (.cells #[.pointer (some ⟨w.heap.size, 0, none⟩)] 77)) := (Below.refl _ _).alloc (Nat.le_refl _) _
    have b1 : Below (W.heap.size + 1) (W.alloc (.cells #[.pointer (some ⟨w.heap.size, 0, none⟩)] 77)) W1 := by rw [hW1]; exact (Below.refl _ _).alloc (by simp) _
    have h0 : W1.heap[W.heap.size]? = some (.cells #[.pointer (some ⟨w.heap.size, 0, none⟩)] 77 (0, 0)) := (b1.block _ (by omega)).trans (World.alloc_heap_new W _)
    have h1 : W1.heap[W.heap.size + 1]? = some (.cells #[.int .i64 r] 3 (0, 0)) := by
      rw [hW1, show W.heap.size + 1 = (W.alloc (.cells #[.pointer (some ⟨w.heap.size, 0, none⟩)] 77)).heap.size by simp]; exact World.alloc_heap_new _ _
    have bw : Below W.heap.size W W1 := b0.trans (b1.mono (by omega))
    have s1 : W1.heap.size = W.heap.size + 2 := by rw [hW1]; simp
    have hg1 := hg.below bw hlt
    refine (least_any (w := W1) kf hg1 hn (rnd_soak w.heap.size n W.heap.size (W.heap.size + 1) (adjOf ps) r hn) hK (fun W' hb => ⟨hg1.below hb (by omega), ?_, ?_⟩)).mono ?_
    · have := (hb.block W.heap.size (by omega)).trans h0
      simp [World.cell?, this]
    · have := (hb.block (W.heap.size + 1) (by omega)).trans h1
      simp [World.cell?, this]
    · rintro e w' ⟨h2, h3⟩
      exact ⟨h2, bw.trans (h3.mono (by omega))⟩⟩
  obtain ⟨F, hF⟩ : ∃ F, (leastOf n fun s => eqb (stg (sokd n (adjOf ps) r) s (kf s)) (allS n)) = F := ⟨_, rfl⟩
  rw [hF] at q70 ⊢
  have q60 := fun W => list_any F W
  clear hF hv
  unfold setV sc at q60
  go_enter Try.func39, Try.ntmps39
  go_wp2_with (first
    | (go_at_call 69; (with_reducible refine q69.mono ?_); rintro e w5 ⟨rfl, hg5, hb5⟩
       have q7 := fun W1 => q70.out w5 W1 hg5.at hg5.lt
       have hbb := Keep.mk hb5
       clear hg5 hb5
       unfold setV sc at q7)
    | (go_at_call 66; (with_reducible refine (q66 _).mono ?_); rintro e w6 ⟨rfl, he6⟩; rw [he6]; clear he6 w6)
    | (go_at_call 67; (with_reducible refine (q67 _).mono ?_); rintro e w6 ⟨rfl, he6⟩; have q8 := q7 w6 he6; clear he6)
    | (go_at_call 70; (with_reducible refine q8.mono ?_); rintro e w7 ⟨rfl, hb7⟩
       have hbc := Keep.mk (hbb.out.trans (hb7.mono hbb.out.size))
       clear hb7 q7)
    | (go_at_call 60; (with_reducible refine (q60 _).mono ?_); rintro e w9 ⟨lv, rfl, hrow, hb9⟩
       have hfin := Keep.mk (And.intro hrow hb9)
       clear hrow hb9))
  refine bodyPost_ret (v := .tuple #[lv, .int .i64 0]) (by simp [results, Try.results39, go_sem]) rfl ?_
  exact ⟨lv, rfl, row_base hfin.out.1 hbc.out.size, hbc.out.trans (hfin.out.2.mono hbc.out.size)⟩
end Go.Proofs.Yteekigpdiklppaa
set_option linter.unusedSimpArgs false
set_option linter.unusedVariables false
namespace Go.Proofs.Yteekigpdiklppaa
open Go Go.Proofs Go.RowKit Go.Seq
attribute [local go_sem] Oper.semAt_some
theorem laid79 : laidOutB Try.prog = true := by kernel_rfl
theorem row79 : (79 : TypeId) < Try.prog.types.size := of_decide_eq_true (by kernel_rfl)
theorem wide79 : (match Try.prog.underlying 79 with | some (.array _ _) | some (.struct _) => true | _ => false) = true := by rw [Try.underlying79]
set_option maxRecDepth 100000 in
theorem keylaw79 : WideMaps.KeyLaw Try.prog 79 := deep_law_laid laid79 (m := 2) (by omega) row79 (by kernel_rfl) wide79
theorem law79 : Maps.Keyed Try.prog 79 := Maps.Keyed.of_law keylaw79
theorem zero4 (w : World) : (zeroValue 4).run Try.prog w = .ok (.bool false) w := by kernel_rfl
theorem ty119 : Try.prog.underlying 119 = some (.map 79 4) := by kernel_rfl
def keyS (s : Nat → Bool) : Lit := .string (keyBytes [.bool (s 0), .bool (s 1), .bool (s 2), .bool (s 3), .bool (s 4), .bool (s 5), .bool (s 6), .bool (s 7), .bool (s 8), .bool (s 9), .bool (s 10), .bool (s 11)])
theorem cells79 : Try.prog.cellsOf 79 = 12 := by kernel_rfl
theorem cells4' : Try.prog.cellsOf 4 = 1 := by kernel_rfl
set_option maxHeartbeats 1000000 in
set_option maxRecDepth 100000 in
theorem key79 (s : Nat → Bool) : keyOf Try.prog 79 (setV s) = some (keyS s) := by
  have hk : Try.prog.keyType 79 = true := by kernel_rfl
  have hf : (setV s).formed Try.prog 79 = true := by unfold setV sc; simp [Value.formed, Try.underlying79, cells79]
  obtain ⟨m, hm⟩ : ∃ m, Try.prog.types.size = m + 1 := ⟨Try.prog.types.size - 1, by have h : (79 : Nat) < Try.prog.types.size := row79; omega⟩
  have h4 : ∀ x : Bool, Try.prog.keyLits (m + 1) 4 [.bool x] = some [.bool x] := fun x => by
    unfold Program.keyLits
    rw [Try.underlying4]
  unfold keyOf
  rw [Try.underlying79]
  simp only [hk, hf, Bool.and_self, if_true]
  rw [hm]
  unfold Program.keyLits
  rw [Try.underlying79]
  simp [setV, sc, Value.cells, cells79, cells4', h4, keyS, List.range_succ]
theorem keyS_ext {s t : Nat → Bool} (h : ∀ j, j < 12 → s j = t j) : keyS s = keyS t := by
  unfold keyS
  rw [h 0 (by omega), h 1 (by omega), h 2 (by omega), h 3 (by omega), h 4 (by omega), h 5 (by omega), h 6 (by omega), h 7 (by omega), h 8 (by omega), h 9 (by omega), h 10 (by omega), h 11 (by omega)]
theorem keyS_inj {s t : Nat → Bool} (h : keyS s = keyS t) : eqb s t = true := by
  have k1 := key79 s
  have k2 := key79 t
  rw [h] at k1
  have e := keylaw79.inj k1 k2
  unfold setV sc at e
  simp only [Value.agg.injEq, Array.mk.injEq, List.cons.injEq, Value.bool.injEq, and_true] at e
  obtain ⟨e0, e1, e2, e3, e4, e5, e6, e7, e8, e9, e10, e11⟩ := e
  unfold eqb
  rw [List.all_eq_true]
  intro j hj
  have hj : j < 12 := by simpa using hj
  match j, hj with
  | 0, _ => simp [e0]
  | 1, _ => simp [e1]
  | 2, _ => simp [e2]
  | 3, _ => simp [e3]
  | 4, _ => simp [e4]
  | 5, _ => simp [e5]
  | 6, _ => simp [e6]
  | 7, _ => simp [e7]
  | 8, _ => simp [e8]
  | 9, _ => simp [e9]
  | 10, _ => simp [e10]
  | 11, _ => simp [e11]
theorem eqb_iff {s t : Nat → Bool} : eqb s t = true ↔ ∀ j, j < 12 → s j = t j := by
  unfold eqb
  rw [List.all_eq_true]
  constructor
  · intro h j hj
    have := h j (by simpa using hj)
    simpa using this
  · intro h j hj
    have hj : j < 12 := by simpa using hj
    simp [h j hj]
theorem keyS_key (s : Nat → Bool) : WideAt.IsKeyLit (keyS s) := law79.key (key79 s)
abbrev DU := DataW Unit
/-- A map whose keys are sets, as the function that it is. -/
def HoldsAt (W : World) (M k : Nat) (h : (Nat → Bool) → Bool) : Prop :=
  ∃ D : DU, W.ownsMap Try.prog 79 (plainElem Try.prog 4) M k D ∧ ∀ s, D.atKey (keyS s) (.lit (.bool false)) = .lit (.bool (h s))
theorem HoldsAt.made (W : World) : HoldsAt (W.alloc (.map #[] 0)) W.heap.size 0 (fun _ => false) :=
  ⟨.map [], World.ownsMap_made _ _ _ _, fun s => rfl⟩
theorem HoldsAt.same {W W' : World} {M k : Nat} {h : (Nat → Bool) → Bool} (hh : HoldsAt W M k h) (e : W'.heap[M]? = W.heap[M]?) : HoldsAt W' M k h := by
  obtain ⟨D, ⟨es, clock, hb, r⟩, h2⟩ := hh
  exact ⟨D, ⟨es, clock, e.trans hb, r⟩, h2⟩
theorem HoldsAt.lt {W : World} {M k : Nat} {h : (Nat → Bool) → Bool} (hh : HoldsAt W M k h) : M < W.heap.size := by
  obtain ⟨D, ⟨es, clock, hb, r⟩, h2⟩ := hh
  exact (Array.getElem?_eq_some_iff.1 hb).1
theorem plainElem_bool_inv {v : Value} {x : Bool} {ps : List MemPlace} (h : plainElem (H := Unit) Try.prog 4 v = some (.lit (.bool x), ps)) : v = .bool x := by
  unfold plainElem at h
  have hu := Try.underlying4
  generalize Try.prog.underlying 4 = U at h hu
  subst hu
  cases v <;> simp at h
  rw [h.1]
set_option maxRecDepth 100000 in
theorem HoldsAt.look {W : World} {M k : Nat} {h : (Nat → Bool) → Bool} (hh : HoldsAt W M k h) (s : Nat → Bool) : (Instr.lookup 119 (.map (some M)) (setV s) false).run Try.prog W = .ok (.bool (h s)) W := by
  obtain ⟨D, ho, h2⟩ := hh
  obtain ⟨v, ps, hrun, hv⟩ := ho.lookup law79 ty119 (zero4 W) (zd := .lit (.bool false)) (zp := []) (plainElem_bool Try.underlying4 false) (key79 s)
  rw [h2 s] at hv
  rw [hrun, plainElem_bool_inv hv]
def addH (h : (Nat → Bool) → Bool) (s t : Nat → Bool) : Bool := eqb t s || h t
set_option maxRecDepth 100000 in
theorem HoldsAt.put {W : World} {M k : Nat} {h : (Nat → Bool) → Bool} {F : Fence} {nF : Nat} {ops : Array Oper} {rest : List Oper} {o : Oper} {a : Act} {Q : Exit → Act → World → Prop} (hh : HoldsAt W M k h) (hk : k < 100000) (s : Nat → Bool)
    (hg : o.guard = none) (m x v : Operand) (hop : o.op = Op.mapUpdate 119 m x v) (hm : a.eval m = .map (some M)) (hx : a.eval x = setV s) (hv : a.eval v = .bool true)
    (hK : ∀ W', HoldsAt W' M (k + 1) (addH h s) → W.grownBy W' (some M) → wpListIn F nF Try.prog ops Q rest (a.put o.dst undef) W') :
    wpListIn F nF Try.prog ops Q (o :: rest) a W := by
  obtain ⟨D, ho, h2⟩ := hh
  refine wpListIn_mapUpdate_own _ hg m x v 119 hop 79 4 law79 ty119 _ M k D hm ho (by unfold maxLen; omega) _ _ (keyS s) hx hv (key79 s) (.lit (.bool true)) [] (plainElem_bool Try.underlying4 true) ?_
  intro W' ho' hgr
  refine hK W' ⟨_, ho', fun t => ?_⟩ hgr
  unfold addH
  by_cases e : keyS t = keyS s
  · rw [e, keyS_inj e, Maps.atKey_put_same (ho.isMap) (keyS_key s)]
    rfl
  · rw [Maps.atKey_put_other e, h2 t]
    have : eqb t s = false := by
      rw [Bool.eq_false_iff]
      intro h; exact e (keyS_ext (eqb_iff.1 h))
    rw [this]; rfl
end Go.Proofs.Yteekigpdiklppaa
set_option linter.unusedSimpArgs false
set_option linter.unusedVariables false
namespace Go.Proofs.Yteekigpdiklppaa
open Go Go.Proofs Go.RowKit Go.Seq
attribute [local go_sem] Oper.semAt_some
structure FoI (w : World) (b n : Nat) (adj : Nat → Nat → Bool) (s Wt : Nat → Bool) (g5 : Nat) (s4 s5 : Bool) (W : World) : Prop where
  g : GraphAt W b n adj
  x : SetAt W w.heap.size s
  y : s4 = true → SetAt W g5 (if s5 = true then Wt else fun _ => false) ∧ w.heap.size + 1 ≤ g5
  bw : Below w.heap.size w W
  sz : w.heap.size + 1 ≤ W.heap.size
theorem FoI.after {w W W' : World} {b n : Nat} {adj : Nat → Nat → Bool} {s Wt : Nat → Bool} {g5 : Nat} {s4 s5 : Bool} (h : FoI w b n adj s Wt g5 s4 s5 W) (hb : Below W.heap.size W W') : FoI w b n adj s Wt g5 s4 s5 W' :=
  ⟨h.g.below hb h.g.lt, h.x.after hb, fun e => ⟨(h.y e).1.after hb, (h.y e).2⟩, h.bw.trans (hb.mono h.bw.size), Nat.le_trans h.sz hb.size⟩
set_option maxHeartbeats 4000000 in
set_option maxRecDepth 100000 in
theorem isFort_any {b n : Nat} {adj : Nat → Nat → Bool} {w : World} (s : Nat → Bool) (hg : GraphAt w b n adj) (hn : n ≤ 12) {Wt Fc : Nat → Bool} (hWt : Wt = fun j => decide (j < n) && !s j) (hFc : Fc = fcd adj Wt (vsTo Wt 12)) {E R : Bool} (hE : eqb s (fun _ => false) = E) (hR : eqb Fc Wt = R) :
    Calls Try.prog 78 #[.pointer (some ⟨b, 0, none⟩), setV s] w fun e w' => e = .returned (.bool (!E && R)) ∧ Below w.heap.size w w' := by
  have hmx : Try.prog.follows .mixedOrders = true := by kernel_rfl
  have hgl := hg.lt
  have heq := fun w => eq49 Fc Wt w
  rw [show ((List.range 12).all fun k => Fc k == Wt k) = R from hR] at heq
  have heq0 := fun w => eq49 s (fun _ => false) w
  rw [show ((List.range 12).all fun k => s k == (fun _ => false) k) = E from hE] at heq0
  have q38 := fun W (h : GraphAt W b n adj) => all_any h hn
  have q47 := fun W => minus_any (fun j => decide (j < n)) s W
  have q22 := fun W (h : GraphAt W b n adj) => force_any Wt h
  rw [← hWt] at q47
  rw [← hFc] at q22
  obtain ⟨A, hA⟩ : ∃ A : Nat → Bool, (fun j => decide (j < n)) = A := ⟨_, rfl⟩
  rw [hA] at q38 q47
  clear hWt hFc hA
  obtain ⟨wa, hwa⟩ : ∃ wa, w.alloc (.cells (sc s) 79) = wa := ⟨_, rfl⟩
  have ba : Below w.heap.size w wa := by rw [← hwa]; exact (Below.refl _ _).alloc (Nat.le_refl _) _
  have fa : SetAt wa w.heap.size s := by rw [← hwa]; exact SetAt.new _ _
  have hI : Keep (FoI w b n adj s Wt 0 false false wa) := ⟨hg.below ba hgl, fa, fun e => (by cases e), ba, by rw [← hwa]; simp⟩
  clear fa ba
  unfold setV sc at *
  go_enter Try.func78, Try.ntmps78
  go_wp2
  try rw [hwa]
  clear hwa
  refine (wpIn_wide (n := 0)).1 ?_
  refine Inv.region_inv (fun t a W => ∃ g5, a = { tmps := #[.pointer (some ⟨b, 0, none⟩), .agg #[.bool (s 0), .bool (s 1), .bool (s 2), .bool (s 3), .bool (s 4), .bool (s 5), .bool (s 6), .bool (s 7), .bool (s 8), .bool (s 9), .bool (s 10), .bool (s 11)], undef, .pointer (some ⟨w.heap.size, 0, none⟩), .bool false, if t 4 = true then .pointer (some ⟨g5, 0, none⟩) else undef, if t 0 = true then .pointer (some ⟨b, 0, none⟩) else undef, if t 1 = true then .agg #[.bool (A 0), .bool (A 1), .bool (A 2), .bool (A 3), .bool (A 4), .bool (A 5), .bool (A 6), .bool (A 7), .bool (A 8), .bool (A 9), .bool (A 10), .bool (A 11)] else undef, if t 2 = true then .agg #[.bool (s 0), .bool (s 1), .bool (s 2), .bool (s 3), .bool (s 4), .bool (s 5), .bool (s 6), .bool (s 7), .bool (s 8), .bool (s 9), .bool (s 10), .bool (s 11)] else undef, if t 3 = true then .agg #[.bool (Wt 0), .bool (Wt 1), .bool (Wt 2), .bool (Wt 3), .bool (Wt 4), .bool (Wt 5), .bool (Wt 6), .bool (Wt 7), .bool (Wt 8), .bool (Wt 9), .bool (Wt 10), .bool (Wt 11)] else undef, undef, undef, undef, undef, undef, undef, undef, undef, undef, undef], defers := [] } ∧ FoI w b n adj s Wt g5 (t 4) (t 5) W) hmx (by kernel_rfl) ?_ ?_ ?_
  · intro t hs
    refine ⟨0, ?_, ?_⟩
    · simp only [hs 0 (by decide), hs 1 (by decide), hs 2 (by decide), hs 3 (by decide), hs 4 (by decide), hs 5 (by decide), Bool.false_eq_true, if_false]
    · rw [hs 4 (by decide), hs 5 (by decide)]; exact hI.out.after ((Below.refl _ _).drew)
  · refine ⟨?_, ?_, ?_, ?_, ?_, ?_, trivial⟩
    · rintro t a W hun hdep hbeh ⟨g5, rfl, hT⟩
      (try simp only [Nat.reduceAdd] at hun)
      refine .inl ⟨by rfl, Inv.comesV_val (.pointer (some ⟨b, 0, none⟩)) W (by (go_simp; (try rfl); try (intro hneg; omega))) ⟨g5, by (simp only [Act.put, List.setIfInBounds_toArray, List.set_cons_succ, List.set_cons_zero, Manyd.upd, Nat.reduceAdd, Nat.reduceBEq, Bool.or_false, Bool.or_true, if_true]), by simpa [Manyd.upd] using hT⟩⟩
    · rintro t a W hun hdep hbeh ⟨g5, rfl, hT⟩
      (try simp only [Nat.reduceAdd] at hun)
      have h0 : t 0 = true := Inv.depB_mem 0 hdep (by rfl)
      refine .inl ⟨by rfl, Inv.comesV_call 84 #[.pointer (some ⟨b, 0, none⟩)] W (by (simp only [h0, if_true]; go_simp; try rfl)) ((q38 W hT.g).mono fun e w5 hw5 => ⟨.agg #[.bool (A 0), .bool (A 1), .bool (A 2), .bool (A 3), .bool (A 4), .bool (A 5), .bool (A 6), .bool (A 7), .bool (A 8), .bool (A 9), .bool (A 10), .bool (A 11)], hw5.1, g5, ?_, ?_⟩)⟩
      · simp only [Act.put, List.setIfInBounds_toArray, List.set_cons_succ, List.set_cons_zero, Manyd.upd, Nat.reduceAdd, Nat.reduceBEq, Bool.or_false, Bool.or_true, if_true]
      · simpa [Manyd.upd] using hT.after hw5.2
    · rintro t a W hun hdep hbeh ⟨g5, rfl, hT⟩
      (try simp only [Nat.reduceAdd] at hun)
      obtain ⟨x0, x1, x2, x3, x4, x5, x6, x7, x8, x9, x10, x11⟩ := hT.x.c12
      refine .inl ⟨by rfl, Inv.comesV_val (.agg #[.bool (s 0), .bool (s 1), .bool (s 2), .bool (s 3), .bool (s 4), .bool (s 5), .bool (s 6), .bool (s 7), .bool (s 8), .bool (s 9), .bool (s 10), .bool (s 11)]) W (by (go_simp; (try rfl); try (intro hneg; omega))) ⟨g5, by (simp only [Act.put, List.setIfInBounds_toArray, List.set_cons_succ, List.set_cons_zero, Manyd.upd, Nat.reduceAdd, Nat.reduceBEq, Bool.or_false, Bool.or_true, if_true]), by simpa [Manyd.upd] using hT⟩⟩
    · rintro t a W hun hdep hbeh ⟨g5, rfl, hT⟩
      (try simp only [Nat.reduceAdd] at hun)
      have h1 : t 1 = true := Inv.depB_mem 1 hdep (by rfl)
      have h2 : t 2 = true := Inv.depB_mem 2 hdep (by rfl)
      refine .inl ⟨by rfl, Inv.comesV_call 85 #[.agg #[.bool (A 0), .bool (A 1), .bool (A 2), .bool (A 3), .bool (A 4), .bool (A 5), .bool (A 6), .bool (A 7), .bool (A 8), .bool (A 9), .bool (A 10), .bool (A 11)], .agg #[.bool (s 0), .bool (s 1), .bool (s 2), .bool (s 3), .bool (s 4), .bool (s 5), .bool (s 6), .bool (s 7), .bool (s 8), .bool (s 9), .bool (s 10), .bool (s 11)]] W (by (simp only [h1, h2, if_true]; go_simp; try rfl)) ((q47 W).mono fun e w5 hw5 => ⟨.agg #[.bool (Wt 0), .bool (Wt 1), .bool (Wt 2), .bool (Wt 3), .bool (Wt 4), .bool (Wt 5), .bool (Wt 6), .bool (Wt 7), .bool (Wt 8), .bool (Wt 9), .bool (Wt 10), .bool (Wt 11)], hw5.1, g5, ?_, ?_⟩)⟩
      · simp only [Act.put, List.setIfInBounds_toArray, List.set_cons_succ, List.set_cons_zero, Manyd.upd, Nat.reduceAdd, Nat.reduceBEq, Bool.or_false, Bool.or_true, if_true]
      · simpa [Manyd.upd] using hT.after hw5.2
    · rintro t a W hun hdep hbeh ⟨g5, rfl, hT⟩
      (try simp only [Nat.reduceAdd] at hun)
      have n5 : t 5 = false := hbeh 5 (by kernel_rfl)
      have hz : SetAt (W.alloc (.cells (sc (fun _ => false)) 79)) W.heap.size (fun _ => false) := SetAt.new _ _
      have hT2 := hT.after ((Below.refl W.heap.size W).alloc (Nat.le_refl _) (.cells (sc (fun _ => false)) 79))
      refine .inl ⟨by rfl, Inv.comesV_val (.pointer (some ⟨W.heap.size, 0, none⟩)) (W.alloc (.cells (sc (fun _ => false)) 79)) (by (unfold sc; go_simp; try rfl)) ⟨W.heap.size, ?_, ?_⟩⟩
      · simp only [Act.put, List.setIfInBounds_toArray, List.set_cons_succ, List.set_cons_zero, Manyd.upd, Nat.reduceAdd, Nat.reduceBEq, Bool.or_false, Bool.or_true, if_true]
      · rw [show Manyd.upd t 4 4 = true by simp [Manyd.upd], show Manyd.upd t 4 5 = false by simp [Manyd.upd, n5]]
        exact ⟨hT2.g, hT2.x, fun _ => ⟨by simpa using hz, hT.sz⟩, hT2.bw, hT2.sz⟩
    · rintro t a W hun hdep hbeh ⟨g5, rfl, hT⟩
      (try simp only [Nat.reduceAdd] at hun)
      have h4 : t 4 = true := Inv.depB_mem 4 hdep (by rfl)
      have h3 : t 3 = true := Inv.depB_mem 3 hdep (by rfl)
      rw [h4, hun] at hT
      obtain ⟨hy, hy2⟩ := hT.y rfl
      have hy : SetAt W g5 (fun _ => false) := by simpa using hy
      obtain ⟨z0, z1, z2, z3, z4, z5, z6, z7, z8, z9, z10, z11⟩ := hy.c12
      obtain ⟨f0, f1, f2, f3, f4, f5, f6, f7, f8, f9, f10, f11⟩ := hy.f12
      refine .inl ⟨by rfl, Inv.comesV_skip (st12 W g5 Wt) (by (unfold st12; simp only [h4, h3, if_true]; go_simp; try rfl)) ⟨g5, ?_, ?_⟩⟩
      · simp only [Act.put, List.setIfInBounds_toArray, List.set_cons_succ, List.set_cons_zero, Manyd.upd, Nat.reduceAdd, Nat.reduceBEq, Bool.or_false, Bool.or_true, if_true]
      · rw [show Manyd.upd t 5 4 = true by simp [Manyd.upd, h4], show Manyd.upd t 5 5 = true by simp [Manyd.upd]]
        have hb : Below (w.heap.size + 1) W (st12 W g5 Wt) := st12_below (Below.refl _ _) hy2
        exact ⟨hT.g.below hb (by omega), hT.x.below hb (by omega), fun _ => ⟨by simpa using st12_set hy, hy2⟩, st12_below hT.bw (by omega), Nat.le_trans hT.sz hb.size⟩
  rintro t a W hs ⟨g5, rfl, hT⟩
  rw [hs 4 (by decide), hs 5 (by decide)] at hT
  simp only [hs 0 (by decide), hs 1 (by decide), hs 2 (by decide), hs 3 (by decide), hs 4 (by decide), if_true]
  clear hs hI q38 q47
  have hTk := Keep.mk hT
  clear hT
  go_wp2

  refine (wpIn_wide (n := 0)).1 ?_
  refine Many.region_many (fun _ W => FoI w b n adj s Wt g5 true true W) hmx (by kernel_rfl) (fun s s' W' h hc => hc) (fun s hs => hTk.out.after ((Below.refl _ _).drew)) ?_
  refine Many.lex_want (by rfl) (Many.tr_read (v := .agg #[.bool (s 0), .bool (s 1), .bool (s 2), .bool (s 3), .bool (s 4), .bool (s 5), .bool (s 6), .bool (s 7), .bool (s 8), .bool (s 9), .bool (s 10), .bool (s 11)]) (FoI w b n adj s Wt g5 true true) (fun s W h => h) (fun s W h => h) (fun W h => by (obtain ⟨x0, x1, x2, x3, x4, x5, x6, x7, x8, x9, x10, x11⟩ := h.x.c12; clear h; go_simp; (try rfl)))) ?_
  simp only [Act.put, List.setIfInBounds_toArray, List.set_cons_succ, List.set_cons_zero, Nat.reduceAdd]
  refine Many.lex_want (by rfl) (Many.tr_read (v := .agg #[.bool false, .bool false, .bool false, .bool false, .bool false, .bool false, .bool false, .bool false, .bool false, .bool false, .bool false, .bool false]) (FoI w b n adj s Wt g5 true true) (fun s W h => h) (fun s W h => h) (fun W h => by (clear h; go_simp; (try rfl)))) ?_
  simp only [Act.put, List.setIfInBounds_toArray, List.set_cons_succ, List.set_cons_zero, Nat.reduceAdd]
  cases E with
  | true =>
    refine Many.lex_want (by rfl) (Many.tr_read (v := .bool false) (FoI w b n adj s Wt g5 true true) (fun s W h => h) (fun s W h => h) (fun W h => by (clear h; go_simp; (try rfl)))) ?_
    simp only [Act.put, List.setIfInBounds_toArray, List.set_cons_succ, List.set_cons_zero, Nat.reduceAdd]
    refine Many.lex_want (by rfl) (Many.tr_read (v := .bool false) (FoI w b n adj s Wt g5 true true) (fun s W h => h) (fun s W h => h) (fun W h => by (clear h; go_simp; (try rfl)))) ?_
    simp only [Act.put, List.setIfInBounds_toArray, List.set_cons_succ, List.set_cons_zero, Nat.reduceAdd]
    refine lex_skip (by rfl) (fun s W h => h) ?_
    simp only [Act.put, List.setIfInBounds_toArray, List.set_cons_succ, List.set_cons_zero, Nat.reduceAdd]
    refine lex_skip (by rfl) (fun s W h => h) ?_
    simp only [Act.put, List.setIfInBounds_toArray, List.set_cons_succ, List.set_cons_zero, Nat.reduceAdd]
    refine lex_skip (by rfl) (fun s W h => h) ?_
    simp only [Act.put, List.setIfInBounds_toArray, List.set_cons_succ, List.set_cons_zero, Nat.reduceAdd]
    refine lex_skip (by rfl) (fun s W h => h) ?_
    simp only [Act.put, List.setIfInBounds_toArray, List.set_cons_succ, List.set_cons_zero, Nat.reduceAdd]
    refine lex_skip (by rfl) (fun s W h => h) ?_
    simp only [Act.put, List.setIfInBounds_toArray, List.set_cons_succ, List.set_cons_zero, Nat.reduceAdd]
    refine Many.lex_want (by rfl) (Many.tr_read (v := .bool false) (FoI w b n adj s Wt g5 true true) (fun s W h => h) (fun s W h => h) (fun W h => by (clear h; go_simp; (try rfl)))) ?_
    simp only [Act.put, List.setIfInBounds_toArray, List.set_cons_succ, List.set_cons_zero, Nat.reduceAdd]
    refine Many.lex_want (by rfl) (Many.tr_read (v := .bool false) (FoI w b n adj s Wt g5 true true) (fun s W h => h) (fun s W h => h) (fun W h => by (clear h; go_simp; (try rfl)))) ?_
    simp only [Act.put, List.setIfInBounds_toArray, List.set_cons_succ, List.set_cons_zero, Nat.reduceAdd]
    refine Many.lex_nil fun s9 W4 hs9 hS4 => ?_
    go_wp2
    go_ret
    exact ⟨rfl, hS4.bw⟩
  | false =>
    refine Many.lex_want (by rfl) (Many.tr_read (v := .bool true) (FoI w b n adj s Wt g5 true true) (fun s W h => h) (fun s W h => h) (fun W h => by (clear h; go_simp; (try rfl)))) ?_
    simp only [Act.put, List.setIfInBounds_toArray, List.set_cons_succ, List.set_cons_zero, Nat.reduceAdd]
    refine Many.lex_want (by rfl) (Many.tr_read (v := .bool true) (FoI w b n adj s Wt g5 true true) (fun s W h => h) (fun s W h => h) (fun W h => by (clear h; go_simp; (try rfl)))) ?_
    simp only [Act.put, List.setIfInBounds_toArray, List.set_cons_succ, List.set_cons_zero, Nat.reduceAdd]
    refine Many.lex_want (by rfl) (Many.tr_read (v := .pointer (some ⟨b, 0, none⟩)) (FoI w b n adj s Wt g5 true true) (fun s W h => h) (fun s W h => h) (fun W h => by (clear h; go_simp; (try rfl)))) ?_
    simp only [Act.put, List.setIfInBounds_toArray, List.set_cons_succ, List.set_cons_zero, Nat.reduceAdd]
    refine Many.lex_want (by rfl) (Many.tr_read (v := .agg #[.bool (Wt 0), .bool (Wt 1), .bool (Wt 2), .bool (Wt 3), .bool (Wt 4), .bool (Wt 5), .bool (Wt 6), .bool (Wt 7), .bool (Wt 8), .bool (Wt 9), .bool (Wt 10), .bool (Wt 11)]) (FoI w b n adj s Wt g5 true true) (fun s W h => h) (fun s W h => h) (fun W h => by (have hy := (h.y rfl).1; rw [if_pos rfl] at hy; obtain ⟨y0, y1, y2, y3, y4, y5, y6, y7, y8, y9, y10, y11⟩ := hy.c12; clear h; go_simp; (try rfl)))) ?_
    simp only [Act.put, List.setIfInBounds_toArray, List.set_cons_succ, List.set_cons_zero, Nat.reduceAdd]
    refine Many.lex_want (by rfl) (Many.tr_call (v := .agg #[.bool (Fc 0), .bool (Fc 1), .bool (Fc 2), .bool (Fc 3), .bool (Fc 4), .bool (Fc 5), .bool (Fc 6), .bool (Fc 7), .bool (Fc 8), .bool (Fc 9), .bool (Fc 10), .bool (Fc 11)]) (f := 59) (args := #[.pointer (some ⟨b, 0, none⟩), .agg #[.bool (Wt 0), .bool (Wt 1), .bool (Wt 2), .bool (Wt 3), .bool (Wt 4), .bool (Wt 5), .bool (Wt 6), .bool (Wt 7), .bool (Wt 8), .bool (Wt 9), .bool (Wt 10), .bool (Wt 11)]]) (FoI w b n adj s Wt g5 true true) (fun s W h => h) (fun s W h => (q22 W h.g).mono fun e w' q => ⟨q.1, h.after q.2⟩) (fun W h => by (clear h; go_simp; try rfl))) ?_
    simp only [Act.put, List.setIfInBounds_toArray, List.set_cons_succ, List.set_cons_zero, Nat.reduceAdd]
    refine Many.lex_want (by rfl) (Many.tr_read (v := .agg #[.bool (Wt 0), .bool (Wt 1), .bool (Wt 2), .bool (Wt 3), .bool (Wt 4), .bool (Wt 5), .bool (Wt 6), .bool (Wt 7), .bool (Wt 8), .bool (Wt 9), .bool (Wt 10), .bool (Wt 11)]) (FoI w b n adj s Wt g5 true true) (fun s W h => h) (fun s W h => h) (fun W h => by (have hy := (h.y rfl).1; rw [if_pos rfl] at hy; obtain ⟨y0, y1, y2, y3, y4, y5, y6, y7, y8, y9, y10, y11⟩ := hy.c12; clear h; go_simp; (try rfl)))) ?_
    simp only [Act.put, List.setIfInBounds_toArray, List.set_cons_succ, List.set_cons_zero, Nat.reduceAdd]
    refine Many.lex_want (by rfl) (Many.tr_read (v := .bool R) (FoI w b n adj s Wt g5 true true) (fun s W h => h) (fun s W h => h) (fun W h => by (clear h; go_simp; (try rfl)))) ?_
    simp only [Act.put, List.setIfInBounds_toArray, List.set_cons_succ, List.set_cons_zero, Nat.reduceAdd]
    refine Many.lex_want (by rfl) (Many.tr_read (v := .bool R) (FoI w b n adj s Wt g5 true true) (fun s W h => h) (fun s W h => h) (fun W h => by (clear h; go_simp; (try rfl)))) ?_
    simp only [Act.put, List.setIfInBounds_toArray, List.set_cons_succ, List.set_cons_zero, Nat.reduceAdd]
    refine Many.lex_want (by rfl) (Many.tr_read (v := .bool R) (FoI w b n adj s Wt g5 true true) (fun s W h => h) (fun s W h => h) (fun W h => by (clear h; go_simp; (try rfl)))) ?_
    simp only [Act.put, List.setIfInBounds_toArray, List.set_cons_succ, List.set_cons_zero, Nat.reduceAdd]
    refine Many.lex_nil fun s9 W4 hs9 hS4 => ?_
    go_wp2
    go_ret
    exact ⟨rfl, hS4.bw⟩
end Go.Proofs.Yteekigpdiklppaa
set_option linter.unusedSimpArgs false
set_option linter.unusedVariables false
namespace Go.Proofs.Yteekigpdiklppaa
open Go Go.Proofs Go.RowKit Go.Seq
attribute [local go_sem] Oper.semAt_some
def woS (s : Nat → Bool) (v : Nat) : Nat → Bool := fun j => if j = v then false else s j
def dryS (n : Nat) (s : Nat → Bool) : Nat → Bool := fun j => decide (j < n) && !s j
def isF (n : Nat) (adj : Nat → Nat → Bool) (s : Nat → Bool) : Bool := !(eqb s fun _ => false) && eqb (fround adj (dryS n s)) (dryS n s)
abbrev Hst := ((Nat → Bool) → Bool) × List (Nat → Bool)
/-- What the search for the least forts does with a set. -/
def stepF (n : Nat) (adj : Nat → Nat → Bool) (st : Hst) (s : Nat → Bool) : Hst :=
  if ((vsTo s 12).any fun v => st.1 (woS s v)) = true then (addH st.1 s, st.2) else if isF n adj s = true then (addH st.1 s, st.2 ++ [s]) else st
def stF (n : Nat) (adj : Nat → Nat → Bool) (pre : List (Nat → Bool)) : Hst := pre.foldl (stepF n adj) (fun _ => false, [])
theorem stF_snoc (n : Nat) (adj : Nat → Nat → Bool) (pre : List (Nat → Bool)) (s : Nat → Bool) : stF n adj (pre ++ [s]) = stepF n adj (stF n adj pre) s := by simp [stF]
def fortsOf (n : Nat) (adj : Nat → Nat → Bool) : List (Nat → Bool) := (stF n adj (setsTo n n)).2
def encs12 (L : List (Nat → Bool)) : List Value := L.flatMap fun s => (sc s).toList
theorem stepF_len (n : Nat) (adj : Nat → Nat → Bool) (st : Hst) (s : Nat → Bool) : (stepF n adj st s).2.length ≤ st.2.length + 1 := by
  unfold stepF
  split
  · exact Nat.le_succ _
  · split
    · simp
    · exact Nat.le_succ _
/-- How many sets there are. -/
def lenF (n : Nat) : Nat → Nat → Nat
  | 0, _ => 1
  | m + 1, v => ((List.range' v (n - v)).map fun u => lenF n m (u + 1)).sum
theorem fillL_len (n : Nat) : ∀ m s v, (fillL n m s v).length = lenF n m v
  | 0, s, v => rfl
  | m + 1, s, v => by
    unfold fillL lenF
    rw [List.length_flatMap]
    congr 1
    apply List.map_congr_left
    intro u _
    exact fillL_len n m _ _
theorem setsTo_len (n k : Nat) : (setsTo n k).length = ((List.range k).map fun i => lenF n (i + 1) 0).sum := by
  unfold setsTo
  rw [List.length_flatMap]
  congr 1
  apply List.map_congr_left
  intro u _
  exact fillL_len n _ _ _
def lenAll : Bool := (List.range 13).all fun n => decide (((List.range n).map fun i => lenF n (i + 1) 0).sum ≤ 4095)
theorem lenAll_yes : lenAll = true := by kernel_rfl
theorem setsTo_le {n : Nat} (hn : n ≤ 12) : (setsTo n n).length ≤ 4095 := by
  rw [setsTo_len]
  have h := List.all_eq_true.1 (show (List.range 13).all _ = true from lenAll_yes) n (by simp; omega)
  simpa using h
structure LfI (w : World) (b n : Nat) (adj : Nat → Nat → Bool) (h : (Nat → Bool) → Bool) (L : List (Nat → Bool)) (k : Nat) (v : Value) (W : World) : Prop where
  g : GraphAt W b n adj
  t1 : W.heap[w.heap.size]? = some (.cells #[.pointer (some ⟨b, 0, none⟩)] 77 (0, 0))
  t3 : W.heap[w.heap.size + 1]? = some (.cells #[v] 99 (0, 0))
  row : W.ownsRow (w.heap.size + 7) 79 12 v L.length (encs12 L)
  t4 : W.heap[w.heap.size + 3]? = some (.cells #[.map (some (w.heap.size + 2))] 119 (0, 0))
  m : HoldsAt W (w.heap.size + 2) k h
  t9 : W.heap[w.heap.size + 4]? = some (.cells #[.pointer (some ⟨b, 0, none⟩)] 77 (0, 0))
  bw : Below w.heap.size w W
  sz : w.heap.size + 5 ≤ W.heap.size
theorem row_same {W W' : World} {B e s k : Nat} {v : Value} {xs : List Value} (h : W.ownsRow B e s v k xs) (hk : ∀ g, v.ownBlock = some g → W'.heap[g]? = W.heap[g]?) : W'.ownsRow B e s v k xs := by
  obtain ⟨h1, h2⟩ := h
  refine ⟨h1, ?_⟩
  rcases h2 with h2 | ⟨g, cap, cur, rfl, hg, hh, hr⟩
  · exact .inl h2
  · exact .inr ⟨g, cap, cur, rfl, hg, (hk g rfl).trans hh, hr⟩
/-- Wherever all that it speaks of lies as it lay. -/
theorem LfI.same {w W W' : World} {b n : Nat} {adj : Nat → Nat → Bool} {h : (Nat → Bool) → Bool} {L : List (Nat → Bool)} {k : Nat} {v : Value} (hI : LfI w b n adj h L k v W) (hgl : b < w.heap.size)
    (hb : Below w.heap.size W W') (ho : ∀ i, w.heap.size ≤ i → i < w.heap.size + 5 → W'.heap[i]? = W.heap[i]?) (hr : ∀ g, v.ownBlock = some g → W'.heap[g]? = W.heap[g]?) : LfI w b n adj h L k v W' :=
  ⟨hI.g.below hb hgl, (ho _ (by omega) (by omega)).trans hI.t1, (ho _ (by omega) (by omega)).trans hI.t3, row_same hI.row hr, (ho _ (by omega) (by omega)).trans hI.t4, hI.m.same (ho _ (by omega) (by omega)), (ho _ (by omega) (by omega)).trans hI.t9, hI.bw.trans hb, Nat.le_trans hI.sz hb.size⟩
theorem LfI.after {w W W' : World} {b n : Nat} {adj : Nat → Nat → Bool} {h : (Nat → Bool) → Bool} {L : List (Nat → Bool)} {k : Nat} {v : Value} (hI : LfI w b n adj h L k v W) (hgl : b < w.heap.size) (hb : Below W.heap.size W W') : LfI w b n adj h L k v W' :=
  hI.same hgl (hb.mono hI.bw.size) (fun i _ h2 => hb.block i (by have := hI.sz; omega)) (fun g hg => hb.block g (hI.row.lt g hg).2)
theorem LfI.keepsL {w W W' : World} {b n : Nat} {adj : Nat → Nat → Bool} {h : (Nat → Bool) → Bool} {L : List (Nat → Bool)} {k : Nat} {v : Value} (hI : LfI w b n adj h L k v W) (hgl : b < w.heap.size) (hk : Pv.KeepsL (w.heap.size + 5) Pq.none' W W') : LfI w b n adj h L k v W' := by
  have hsz := hI.sz
  have hn : ∀ k, k ≠ w.heap.size + 5 → k ≠ w.heap.size + 5 + 1 → ¬ (k = w.heap.size + 5 ∨ k = w.heap.size + 5 + 1 ∨ Pq.none' k) := fun k h1 h2 h => by
    rcases h with h | h | h
    · exact h1 h
    · exact h2 h
    · exact h
  refine hI.same hgl (Pv.KeepsV.below hk (fun k hk => by (rcases hk with h | h | h); (· omega); (· omega); (· exact h.elim)) (by omega)) (fun i h1 h2 => hk.block i (by omega) (hn _ (by omega) (by omega))) (fun g hg => ?_)
  have := hI.row.lt g hg
  exact hk.block g this.2 (hn _ (by omega) (by omega))
theorem LfI.mapped {w W W' : World} {b n : Nat} {adj : Nat → Nat → Bool} {h h' : (Nat → Bool) → Bool} {L : List (Nat → Bool)} {k k' : Nat} {v : Value} (hI : LfI w b n adj h L k v W) (hgl : b < w.heap.size) (hm : HoldsAt W' (w.heap.size + 2) k' h') (hg : W.grownBy W' (some (w.heap.size + 2))) : LfI w b n adj h' L k' v W' := by
  have hz := hI.sz
  have ho : ∀ i, i ≠ w.heap.size + 2 → i < W.heap.size → W'.heap[i]? = W.heap[i]? := fun i h1 h2 => hg.block i h2 (by simp; omega)
  have hb : Below w.heap.size W W' := ⟨hg.os, hg.tape, hg.output, hg.size, fun i hi => ho i (by omega) (by omega)⟩
  refine ⟨hI.g.below hb hgl, (ho _ (by omega) (by omega)).trans hI.t1, (ho _ (by omega) (by omega)).trans hI.t3, row_same hI.row (fun g hg' => ?_), (ho _ (by omega) (by omega)).trans hI.t4, hm, (ho _ (by omega) (by omega)).trans hI.t9, hI.bw.trans hb, Nat.le_trans hz hg.size⟩
  have := hI.row.lt g hg'
  exact ho g (by omega) this.2
theorem encs12_push (L : List (Nat → Bool)) (x : Nat → Bool) : encs12 (L ++ [x]) = encs12 L ++ (sc x).toList := by simp [encs12]
theorem LfI.push {w W W1 : World} {b n : Nat} {adj : Nat → Nat → Bool} {h : (Nat → Bool) → Bool} {L : List (Nat → Bool)} {k : Nat} {v v' : Value} {x : Nat → Bool} {o : Obj} (hI : LfI w b n adj h L k v W) (hgl : b < w.heap.size) (h7 : w.heap.size + 7 ≤ W.heap.size)
    (hrow : W1.ownsRow (w.heap.size + 7) 79 12 v' (L.length + 1) (encs12 L ++ (sc x).toList)) (hg : (W.alloc o).grownBy W1 v.ownBlock) : LfI w b n adj h (L ++ [x]) k v' (W1.setCell ⟨w.heap.size + 1, 0, none⟩ v') := by
  have hz := hI.sz
  have hgs := hg.size
  rw [World.size_alloc] at hgs
  have ho : ∀ i, i < w.heap.size + 7 → W1.heap[i]? = W.heap[i]? := fun i h2 => (hg.block i (by rw [World.size_alloc]; omega) (by
    intro e
    have := hI.row.lt i e.symm
    omega)).trans (Below.heap_alloc _ _ _ (by omega))
  have hs : ∀ i, i ≠ w.heap.size + 1 → (W1.setCell ⟨w.heap.size + 1, 0, none⟩ v').heap[i]? = W1.heap[i]? := fun i hi => Below.heap_setCell W1 ⟨w.heap.size + 1, 0, none⟩ v' i hi
  have hb : Below w.heap.size W (W1.setCell ⟨w.heap.size + 1, 0, none⟩ v') := ⟨hg.os, hg.tape, hg.output, by simp [World.setCell]; omega, fun i hi => (hs i (by omega)).trans (ho i (by omega))⟩
  refine ⟨hI.g.below hb hgl, (hs _ (by omega)).trans ((ho _ (by omega)).trans hI.t1), ?_, ?_, (hs _ (by omega)).trans ((ho _ (by omega)).trans hI.t4), hI.m.same ((hs _ (by omega)).trans (ho _ (by omega))), (hs _ (by omega)).trans ((ho _ (by omega)).trans hI.t9), hI.bw.trans hb, by simp [World.setCell]; omega⟩
  · have h3 := (ho (w.heap.size + 1) (by omega)).trans hI.t3
    rw [heap_set h3]; rfl
  · rw [encs12_push, List.length_append]
    refine row_same hrow (fun g hg' => hs g ?_)
    have := hrow.lt g hg'
    omega
theorem rdC {P : Program} {md : Region.Mode} {ops : Array Oper} {k : Nat} {o : Oper} {a : Act} {v : Value} {C : World → Prop} (h : ∀ W, C W → (execOp a.eval o).run P W = .ok (.value v) W) : Manyd.Tr P md ops (fun _ W => C W) k o a v := fun s W _ _ hC => by
  rw [h W hC]; exact ⟨rfl, hC⟩
theorem callC {P : Program} {md : Region.Mode} {ops : Array Oper} {k : Nat} {o : Oper} {a : Act} {v : Value} {C : World → Prop} {f : FuncId} {args : Array Value} (hc : ∀ W, C W → Calls P f args W fun e w' => e = .returned v ∧ C w') (h : ∀ W, C W → (execOp a.eval o).run P W = .ok (.enter f args) W) : Manyd.Tr P md ops (fun _ W => C W) k o a v := fun s W _ _ hC => by
  rw [h W hC]; exact hc W hC
theorem ty99 : Try.prog.underlying 99 = some (.slice 79) := by kernel_rfl
theorem info79 : (Try.prog.info? 79).map (fun i => (i.zero, i.size, i.bytes)) = some (some (.agg #[.bool false, .bool false, .bool false, .bool false, .bool false, .bool false, .bool false, .bool false, .bool false, .bool false, .bool false, .bool false]), 12, 12) := by kernel_rfl
theorem cell_set_new (w : World) (x : Nat → Bool) : ∀ j u, (sc x).toList[j]? = some u → (w.alloc (.cells (sc x) 79)).cell? ((⟨w.heap.size, 0, none⟩ : Addr).add j) = some u := by
  intro j u hj
  have hj2 : (sc x)[j]? = some u := by rw [← Array.getElem?_toList]; exact hj
  have h1 := World.alloc_heap_new w (.cells (sc x) 79)
  by_cases e : j = 0
  · subst e
    have e2 : (⟨w.heap.size, 0, none⟩ : Addr).add 0 = ⟨w.heap.size, 0, none⟩ := by simp [Addr.add]
    rw [e2]; simp only [World.cell?, h1]; exact hj2
  · have e2 : (⟨w.heap.size, 0, none⟩ : Addr).add j = ⟨w.heap.size, j, none⟩ := by simp [Addr.add, e]
    rw [e2]; simp only [World.cell?, h1]; exact hj2
theorem set_one (x : Nat → Bool) : ∀ u ∈ (sc x).toList, u.oneCell' = true := by
  intro u hu
  simp only [sc, List.mem_cons, List.not_mem_nil, or_false] at hu
  rcases hu with rfl | rfl | rfl | rfl | rfl | rfl | rfl | rfl | rfl | rfl | rfl | rfl <;> rfl
theorem stF_len0 (n : Nat) (adj : Nat → Nat → Bool) : ∀ (pre : List (Nat → Bool)) (st : Hst), (pre.foldl (stepF n adj) st).2.length ≤ st.2.length + pre.length
  | [], st => by simp
  | x :: l, st => by
    have h1 := stF_len0 n adj l (stepF n adj st x)
    have h2 := stepF_len n adj st x
    simp only [List.foldl_cons, List.length_cons]
    omega
theorem stF_len (n : Nat) (adj : Nat → Nat → Bool) (pre : List (Nat → Bool)) : (stF n adj pre).2.length ≤ pre.length := by
  have := stF_len0 n adj pre (fun _ => false, [])
  simpa [stF] using this
set_option maxHeartbeats 1000000 in
set_option maxRecDepth 100000 in
theorem leastForts_any {b n : Nat} {adj : Nat → Nat → Bool} {w : World} (hg : GraphAt w b n adj) (hn : n ≤ 12) :
    Calls Try.prog 71 #[.pointer (some ⟨b, 0, none⟩)] w fun e w' => ∃ v, e = .returned v ∧ w'.ownsRow w.heap.size 79 12 v (fortsOf n adj).length (encs12 (fortsOf n adj)) ∧ Below w.heap.size w w' := by
  have hmx : Try.prog.follows .mixedOrders = true := by kernel_rfl
  have hgl := hg.lt
  obtain ⟨wa, hwa⟩ : ∃ wa, w.alloc (.cells #[.pointer (some ⟨b, 0, none⟩)] 77) = wa := ⟨_, rfl⟩
  obtain ⟨wb, hwb⟩ : ∃ wb, wa.alloc (.cells #[.slice none 0 0] 99) = wb := ⟨_, rfl⟩
  obtain ⟨wm, hwm⟩ : ∃ wm, wb.alloc (.map #[] 0) = wm := ⟨_, rfl⟩
  obtain ⟨wc, hwc⟩ : ∃ wc, wm.alloc (.cells #[.map (some (w.heap.size + 1 + 1))] 119) = wc := ⟨_, rfl⟩
  obtain ⟨wd, hwd⟩ : ∃ wd, wc.alloc (.cells #[.pointer (some ⟨b, 0, none⟩)] 77) = wd := ⟨_, rfl⟩
  have sa : wa.heap.size = w.heap.size + 1 := by rw [← hwa]; simp
  have sb : wb.heap.size = w.heap.size + 1 + 1 := by rw [← hwb]; simp [sa]
  have sm : wm.heap.size = w.heap.size + 1 + 1 + 1 := by rw [← hwm]; simp [sb]
  have ss : wc.heap.size = w.heap.size + 4 := by rw [← hwc]; simp [sm]
  have sd : wd.heap.size = w.heap.size + 5 := by rw [← hwd]; simp [ss]
  have ba : Below w.heap.size w wa := by rw [← hwa]; exact (Below.refl _ _).alloc (Nat.le_refl _) _
  have bb : Below wa.heap.size wa wb := by rw [← hwb]; exact (Below.refl _ _).alloc (Nat.le_refl _) _
  have bm : Below wb.heap.size wb wm := by rw [← hwm]; exact (Below.refl _ _).alloc (Nat.le_refl _) _
  have bc : Below wm.heap.size wm wc := by rw [← hwc]; exact (Below.refl _ _).alloc (Nat.le_refl _) _
  have be : Below wc.heap.size wc wd := by rw [← hwd]; exact (Below.refl _ _).alloc (Nat.le_refl _) _
  have fa : wa.heap[w.heap.size]? = some (.cells #[.pointer (some ⟨b, 0, none⟩)] 77 (0, 0)) := by rw [← hwa]; exact World.alloc_heap_new w _
  have fb : wb.heap[w.heap.size + 1]? = some (.cells #[.slice none 0 0] 99 (0, 0)) := by rw [← sa, ← hwb]; exact World.alloc_heap_new wa _
  have fm : HoldsAt wm (w.heap.size + 2) 0 (fun _ => false) := by rw [show w.heap.size + 2 = wb.heap.size from sb.symm, ← hwm]; exact HoldsAt.made wb
  have fc : wc.heap[w.heap.size + 3]? = some (.cells #[.map (some (w.heap.size + 2))] 119 (0, 0)) := by rw [show w.heap.size + 3 = wm.heap.size from sm.symm, ← hwc]; exact World.alloc_heap_new wm _
  have fd : wd.heap[w.heap.size + 4]? = some (.cells #[.pointer (some ⟨b, 0, none⟩)] 77 (0, 0)) := by rw [← ss, ← hwd]; exact World.alloc_heap_new wc _
  have bce := bc.trans (be.mono bc.size)
  have bme := bm.trans (bce.mono bm.size)
  have bbe := bb.trans (bme.mono bb.size)
  have bw := ba.trans (bbe.mono ba.size)
  have hI : Keep (LfI w b n adj (stF n adj []).1 (stF n adj []).2 0 (.slice none 0 0) wd) := ⟨hg.below bw hgl, (bbe.block _ (by omega)).trans fa, (bme.block _ (by omega)).trans fb, World.ownsRow_nil _ _ _ _, (be.block _ (by omega)).trans fc, fm.same (bce.block _ (by omega)), fd, bw, by omega⟩
  have c1 : wc.cell? ⟨w.heap.size, 0, none⟩ = some (.pointer (some ⟨b, 0, none⟩)) := by simp [World.cell?, ((bb.trans ((bm.trans (bc.mono bm.size)).mono bb.size)).block _ (by omega)).trans fa]
  have q73 := fun w => sets_any (b := b) w
  have hwk := Keep.mk hwd
  have hmm := @run_makeMap Try.prog
  clear hwd ba bb bm bc be fa fb fm fc fd bce bme bbe bw hg
  refine (callsIn_wide (n := 0)).1 ?_
  refine callsIn_of_wp_marks Try.func71 rfl trivial ?_ rfl
  simp only [Try.ntmps71, List.size_toArray, List.length_cons, List.length_nil, Nat.reduceAdd, Nat.reduceSub, Array.replicate_succ, Array.replicate_zero, List.push_toArray, List.append_toArray, List.nil_append, List.cons_append]
  refine wpIn_wide.2 ?_
  go_wp2
  go_step3
  go_wp2
  try go_step3
  go_wp2_with (first
    | (go_at_call 73; (with_reducible refine (q73 _).mono ?_); rintro e w5 ⟨rfl, hw5⟩; rw [hw5]; clear hw5 w5))
  refine (wpIn_wide (n := 0)).1 ?_
  rw [hwk.out]
  clear hwk hwa hwb hwm hwc sa sb sm ss c1 q73 hmm
  obtain ⟨i0, hi0, hz0, hz1, hz2⟩ : ∃ i, Try.prog.info? 79 = some i ∧ i.zero = some (.agg #[.bool false, .bool false, .bool false, .bool false, .bool false, .bool false, .bool false, .bool false, .bool false, .bool false, .bool false, .bool false]) ∧ i.size = 12 ∧ i.bytes = 12 := by
    have h := info79
    cases hI : Try.prog.info? 79 with
    | none => rw [hI] at h; cases h
    | some i =>
      rw [hI] at h
      simp only [Option.map_some, Option.some.injEq, Prod.mk.injEq] at h
      exact ⟨i, rfl, h.1, h.2.1, h.2.2⟩
  have q62 := Keep.mk (fun (s : Nat → Bool) (W : World) => vertices_any s W)
  have q87 := Keep.mk (fun (s : Nat → Bool) (u : Nat) (hu : u < 12) (W : World) => without_any s u hu W)
  have q78 := Keep.mk (fun (s : Nat → Bool) (W : World) (h : GraphAt W b n adj) => isFort_any s h hn (Wt := dryS n s) (Fc := fround adj (dryS n s)) rfl rfl rfl rfl)
  refine Pq.range_givesW (gf := 88) (lb := #[.pointer (some ⟨w.heap.size + 4, 0, none⟩)]) rfl (enters_of Try.func88 (by kernel_rfl) rfl) (encs := encW) (xs := setsTo n n)
    (R := fun V => GraphAt V b n adj ∧ V.cell? ⟨w.heap.size + 4, 0, none⟩ = some (.pointer (some ⟨b, 0, none⟩))) (fun x => rfl) (fun W1' h1 hb1 => sets_gives hn W1')
    (fun _ _ => true) .ret .ret (.inl ⟨rfl, rfl⟩)
    (fun q pre V => ∃ k v, k ≤ pre.length ∧ (∀ g, v.ownBlock = some g → ¬ q g) ∧ LfI w b n adj (stF n adj pre).1 (stF n adj pre).2 k v V) (fun q pre V => ∃ k v, k ≤ pre.length ∧ (∀ g, v.ownBlock = some g → ¬ q g) ∧ LfI w b n adj (stF n adj pre).1 (stF n adj pre).2 k v V) ?_ ?_ ?_ ?_ ⟨0, _, Nat.le_refl _, fun g hg => (by cases hg), hI.out⟩
    (fun x a' V => ∃ g, a' = { tmps := #[.pointer (some ⟨b, 0, none⟩), .pointer (some ⟨w.heap.size, 0, none⟩), .slice none 0 0, .pointer (some ⟨w.heap.size + 1, 0, none⟩), .pointer (some ⟨w.heap.size + 1 + 1 + 1, 0, none⟩), .pointer (some ⟨g, 0, none⟩), undef, .map (some (w.heap.size + 1 + 1)), .pointer (some ⟨b, 0, none⟩), .func (.func 88) #[] #[.pointer (some ⟨w.heap.size + 4, 0, none⟩)], .agg #[.bool (x 0), .bool (x 1), .bool (x 2), .bool (x 3), .bool (x 4), .bool (x 5), .bool (x 6), .bool (x 7), .bool (x 8), .bool (x 9), .bool (x 10), .bool (x 11)], undef, undef, undef, undef, undef, undef, undef, undef, undef, undef, undef, undef, undef, undef, undef, undef, undef, undef, undef, undef], defers := [] } ∧ SetAt V g x ∧ w.heap.size + 7 ≤ g)
    ?_ ?assign ?body ?done ?stop
  · rintro q q' pre V V' ⟨k, v, h1, h2, h3⟩ hk hm
    rw [sd] at hk
    exact ⟨k, v, h1, fun g hg hq => (hm g hq).elim (h2 g hg) (fun h => by have := (h3.row.lt g hg).2; omega), h3.keepsL hgl hk⟩
  · rintro q q' pre V V' ⟨k, v, h1, h2, h3⟩ hk hm
    rw [sd] at hk
    exact ⟨k, v, h1, fun g hg hq => (hm g hq).elim (h2 g hg) (fun h => by have := (h3.row.lt g hg).2; omega), h3.keepsL hgl hk⟩
  · rintro q pre V ⟨k, v, h1, h2, h3⟩; exact ⟨h3.g, by simp [World.cell?, h3.t9]⟩
  · rintro q pre V ⟨k, v, h1, h2, h3⟩; exact ⟨h3.g, by simp [World.cell?, h3.t9]⟩
  · rintro x a' V V' ⟨g, rfl, h1, h2⟩ hs hk
    rw [sd] at hk
    exact ⟨g, rfl, (hk.block g h1.lt (by rintro (h | h | h); (· omega); (· omega); (· exact h))).trans h1, h2⟩
  case assign =>
    intro l2 q pre x V K hi hsz2 hK
    obtain ⟨V1, hV1⟩ : ∃ V1, V.alloc (.cells (sc x) 79) = V1 := ⟨_, rfl⟩
    have hb1 : Below V.heap.size V V1 := by rw [← hV1]; exact (Below.refl _ _).alloc (Nat.le_refl _) _
    have hn1 : SetAt V1 V.heap.size x := by rw [← hV1]; exact SetAt.new _ _
    unfold encW setV
    unfold sc at hV1 ⊢
    gi_wp2
    try rw [hV1]
    exact hK _ _ hb1 ⟨V.heap.size, rfl, hn1, by omega⟩
  case body =>
    rintro l2 qs pre x a' V ⟨k, v, hk, hvq, hi⟩ hqb ⟨g, rfl, hg', hg6⟩ hsz2 ⟨post, hpost⟩ hl2 ⟨rl, hrl⟩
    have hkl : k ≤ 4095 := by
      have h1 := setsTo_le hn
      rw [hpost] at h1
      simp at h1; omega
    have hLl := stF_len n adj pre
    rw [stF_snoc]
    obtain ⟨h, hh⟩ : ∃ h, (stF n adj pre).1 = h := ⟨_, rfl⟩
    obtain ⟨L, hL⟩ : ∃ L, (stF n adj pre).2 = L := ⟨_, rfl⟩
    rw [hh, hL] at hi
    rw [hL] at hLl
    obtain ⟨N, hN⟩ : ∃ N, pre.length = N := ⟨_, rfl⟩
    have hN1 : (pre ++ [x]).length = N + 1 := by simp [hN]
    rw [hN1]
    rw [hN] at hk hLl
    have hN2 : N ≤ 4095 := by
      have h1 := setsTo_le hn
      rw [hpost] at h1
      simp at h1; omega
    obtain ⟨st', hst'⟩ : ∃ st', stepF n adj (stF n adj pre) x = st' := ⟨_, rfl⟩
    rw [hst']
    unfold stepF at hst'
    rw [hh, hL] at hst'
    clear hpost hI
    obtain ⟨c0, c1, c2, c3, c4, c5, c6, c7, c8, c9, c10, c11⟩ := hg'.c12
    obtain ⟨V1, hV1⟩ : ∃ V1, V.alloc (.cells (sc x) 79) = V1 := ⟨_, rfl⟩
    have hb1 : Below V.heap.size V V1 := by rw [← hV1]; exact (Below.refl _ _).alloc (Nat.le_refl _) _
    have hs1 : V1.heap.size = V.heap.size + 1 := by rw [← hV1]; simp
    have hn1 : SetAt V1 V.heap.size x := by rw [← hV1]; exact SetAt.new _ _
    have q := q62.out x V
    rw [hV1] at q
    have hk1 := Keep.mk (And.intro hb1 (And.intro hs1 (And.intro hn1 (And.intro hi hg'))))
    clear hb1 hs1 hn1 hi hg' hV1
    unfold setV sc at q
    gi_wp2_with (first
      | (refine ⟨trivial, rfl, ?_⟩; gi_at_call 62; refine (CallsIn.inRound l2 (callsIn_wide.2 q)).mono ?_; rintro e V5 ⟨rfl, hV5⟩; rw [hV5]; clear hV5 V5))
    obtain ⟨hb1, hs1, hn1, hi, hg'⟩ := hk1.out
    have hi1 := hi.after hgl hb1
    have hg1 := hg'.after hb1
    have hzz := hi.sz
    refine Nst.range_givesN (l₀ := l2) (r₀ := rl) ((hb1.block _ (by omega)).trans hrl) (gf := 83) (lb := #[.pointer (some ⟨V.heap.size, 0, none⟩)]) rfl (enters_of Try.func83 (by kernel_rfl) rfl) (encs := encK) (xs := vsTo x 12)
      (R := fun U => SetAt U V.heap.size x) (fun u => rfl) (fun W1' _ _ => vertices_gives W1')
      (fun _ u => !(h (woS x u))) (.exit 1) (.exit 1) (.inr ⟨1, rfl, rfl⟩)
      (fun us U => Below V1.heap.size V1 U) (fun us U => SetAt U V.heap.size x ∧ LfI w b n adj (addH h x) L (k + 1) v U ∧ V1.heap.size ≤ U.heap.size ∧ (∀ i, i < V1.heap.size → i ≠ w.heap.size + 2 → U.heap[i]? = V1.heap[i]?) ∧ U.os = V1.os ∧ U.tape = V1.tape ∧ U.output = V1.output)
      ?_ ?olds (fun us U hU => hn1.below hU hn1.lt) (fun us U hU => hU.1) (Below.refl _ _)
      (fun u a' U => a' = { tmps := #[.pointer (some ⟨b, 0, none⟩), .pointer (some ⟨w.heap.size, 0, none⟩), .slice none 0 0, .pointer (some ⟨w.heap.size + 1, 0, none⟩), .pointer (some ⟨w.heap.size + 1 + 1 + 1, 0, none⟩), .pointer (some ⟨g, 0, none⟩), .int .i64 (u : Nat), .map (some (w.heap.size + 1 + 1)), .pointer (some ⟨b, 0, none⟩), .func (.func 88) #[] #[.pointer (some ⟨w.heap.size + 4, 0, none⟩)], .agg #[.bool (x 0), .bool (x 1), .bool (x 2), .bool (x 3), .bool (x 4), .bool (x 5), .bool (x 6), .bool (x 7), .bool (x 8), .bool (x 9), .bool (x 10), .bool (x 11)], .agg #[.bool (x 0), .bool (x 1), .bool (x 2), .bool (x 3), .bool (x 4), .bool (x 5), .bool (x 6), .bool (x 7), .bool (x 8), .bool (x 9), .bool (x 10), .bool (x 11)], .func (.func 83) #[] #[.pointer (some ⟨V.heap.size, 0, none⟩)], .int .i64 (u : Nat), undef, undef, undef, undef, undef, undef, undef, undef, undef, undef, undef, undef, undef, undef, undef, undef, undef], defers := [] })
      ?_ ?assign2 ?body2 ?done2 ?stop2
    · intro us U U' hU hb; exact hU.trans hb
    case olds =>
      rintro us U U' ⟨u1, u2, u3, u4, u5, u6, u7⟩ hb
      have hb' : Below w.heap.size U U' := hb.mono (by omega)
      refine ⟨u1.below hb hn1.lt, u2.same hgl hb' (fun i _ h2 => hb.block i (by omega)) (fun g2 hg2 => hb.block g2 (by have := (hi1.row.lt g2 hg2).2; omega)), Nat.le_trans u3 hb.size, fun i h1 h2 => (hb.block i h1).trans (u4 i h1 h2), hb.os.trans u5, hb.tape.trans u6, hb.output.trans u7⟩
    · rintro u a' U U' hU _; exact hU
    case assign2 =>
      intro l3 us u U K hU hsz3 hK
      unfold encK
      gi_wp2
      exact hK _ _ (Below.refl U.heap.size U) (by first | rfl | simp)
    case body2 =>
      rintro l3 us u a' U hU rfl hsz3 ⟨post2, hpost2⟩
      have hu : u < 12 := (vsTo_lt (s := x) (k := 12) (by rw [hpost2]; simp)).1
      have hiU := hi1.after hgl hU
      have hgU := hg1.after hU
      have qw := q87.out x u hu
      rw [show (fun j => if j = u then false else x j) = woS x u from rfl] at qw
      obtain ⟨D, hD⟩ : ∃ D, woS x u = D := ⟨_, rfl⟩
      rw [hD] at qw ⊢
      obtain ⟨z, hz⟩ : ∃ z, h D = z := ⟨_, rfl⟩
      rw [hz]
      obtain ⟨CX, hCX⟩ : ∃ CX : World → Prop, CX = fun W => Below U.heap.size U W := ⟨_, rfl⟩
      have hCa : ∀ W W', CX W → Below W.heap.size W W' → CX W' := fun W W' h1 hb => by rw [hCX] at h1 ⊢; exact h1.trans (hb.mono h1.size)
      have hC0 : CX U.drew := by rw [hCX]; exact (Below.refl _ _).drew
      have hC4 : ∀ W, CX W → W.cell? ⟨w.heap.size + 1 + 1 + 1, 0, none⟩ = some (.map (some (w.heap.size + 1 + 1))) := fun W h1 => by rw [hCX] at h1; simp [World.cell?, (hiU.after hgl h1).t4]
      have hC5 : ∀ W, CX W → Cells12 W g x := fun W h1 => by rw [hCX] at h1; exact (hgU.after h1).c12
      have hCl : ∀ W, CX W → (Instr.lookup 119 (.map (some (w.heap.size + 1 + 1))) (setV D) false).run Try.prog W = .ok (.bool z) W := fun W h1 => by rw [hCX] at h1; rw [← hz]; exact (hiU.after hgl h1).m.look D
      have hCf : ∀ W, CX W → Keep (Below U.heap.size U W) := fun W h1 => by rw [hCX] at h1; exact ⟨h1⟩
      have hkk := Keep.mk (And.intro hiU (And.intro hgU (And.intro hU hn1)))
      have hk5 := Keep.mk (And.intro hi1 (And.intro hg1 hzz))
      clear hiU hgU hU hn1 hi1 hg1 hzz hi hg' hb1 hCX hk1
      unfold setV sc at qw hCl
      gi_wp2
      refine Manyd.region_round (fun _ W => CX W) hmx (by kernel_rfl) (by kernel_rfl) (fun s s' W h1 hc => hc) (fun s hs => hC0) ?_
      refine Manyd.lex_want (by rfl) (rdC (v := .map (some (w.heap.size + 1 + 1))) (fun W h1 => by have c4 := hC4 W h1; clear h1; go_simp; (try rfl))) ?_
      simp only [Act.put, List.setIfInBounds_toArray, List.set_cons_succ, List.set_cons_zero, Nat.reduceAdd]
      refine Manyd.lex_want (by rfl) (rdC (v := .agg #[.bool (x 0), .bool (x 1), .bool (x 2), .bool (x 3), .bool (x 4), .bool (x 5), .bool (x 6), .bool (x 7), .bool (x 8), .bool (x 9), .bool (x 10), .bool (x 11)]) (fun W h1 => by
        obtain ⟨e0, e1, e2, e3, e4, e5, e6, e7, e8, e9, e10, e11⟩ := hC5 W h1
        clear h1; go_simp; (try rfl))) ?_
      simp only [Act.put, List.setIfInBounds_toArray, List.set_cons_succ, List.set_cons_zero, Nat.reduceAdd]
      refine Manyd.lex_want (by rfl) (rdC (v := .int .i64 (u : Nat)) (fun W h1 => by clear h1; go_simp; (try rfl))) ?_
      simp only [Act.put, List.setIfInBounds_toArray, List.set_cons_succ, List.set_cons_zero, Nat.reduceAdd]
      refine Manyd.lex_want (by rfl) (callC (v := .agg #[.bool (D 0), .bool (D 1), .bool (D 2), .bool (D 3), .bool (D 4), .bool (D 5), .bool (D 6), .bool (D 7), .bool (D 8), .bool (D 9), .bool (D 10), .bool (D 11)]) (f := 87) (args := #[.agg #[.bool (x 0), .bool (x 1), .bool (x 2), .bool (x 3), .bool (x 4), .bool (x 5), .bool (x 6), .bool (x 7), .bool (x 8), .bool (x 9), .bool (x 10), .bool (x 11)], .int .i64 (u : Nat)]) (fun W h1 => (qw W).mono fun e W' hw => ⟨hw.1, hCa _ _ h1 hw.2⟩) (fun W h1 => by clear h1; go_simp; try rfl)) ?_
      simp only [Act.put, List.setIfInBounds_toArray, List.set_cons_succ, List.set_cons_zero, Nat.reduceAdd]
      refine Manyd.lex_want (by rfl) (rdC (v := .bool z) (fun W h1 => by have cl := hCl W h1; clear h1; go_simp; (try rfl))) ?_
      simp only [Act.put, List.setIfInBounds_toArray, List.set_cons_succ, List.set_cons_zero, Nat.reduceAdd]
      refine Manyd.lex_nil fun s9 W4 hs9 hS4 => ?_
      have hf4 := hCf _ hS4
      clear hCf
      cases z with
      | false =>
        clear hS4
        gi_wp2
        obtain ⟨hiU, hgU, hU, hn1⟩ := hkk.out
        exact ⟨by rw [← hs1]; exact hU.trans (hf4.out.mono hU.size), From.of_below hf4.out (Nat.le_refl _), hf4.out.os, hf4.out.tape, hf4.out.output⟩
      | true =>
        have c4 := hC4 W4 hS4
        obtain ⟨e0, e1, e2, e3, e4, e5, e6, e7, e8, e9, e10, e11⟩ := hC5 W4 hS4
        clear hS4 hCl hC5 hC4 hCa hC0 qw
        have hi4 := hkk.out.1.after hgl hf4.out
        have hi4k := Keep.mk hi4
        have hm4 := hi4.m
        clear hi4
        gi_wp2_with (gi_at_mapUpdate; refine HoldsAt.put (k := k) (h := h) hm4 (by omega) x rfl _ _ _ rfl rfl rfl rfl ?_; intro W9 hm9 hgr9)
        obtain ⟨hiU, hgU, hU, hn1⟩ := hkk.out
        have hzU := hU.size
        have hz4 := hf4.out.size
        have hz9 := hgr9.size
        have hzw := hk5.out.2.2
        have e9 : ∀ i, i < U.heap.size → i ≠ w.heap.size + 2 → W9.heap[i]? = U.heap[i]? := fun i h1 h2 => (hgr9.block i (by omega) (by simp; omega)).trans (hf4.out.block i h1)
        refine ⟨⟨(e9 _ (by omega) (by omega)).trans (hn1.below hU (by omega)), hi4k.out.mapped hgl hm9 hgr9, by omega, fun i h1 h2 => (e9 i (by omega) h2).trans (hU.block i (by omega)), hgr9.os.trans (hf4.out.os.trans hU.os), hgr9.tape.trans (hf4.out.tape.trans hU.tape), hgr9.output.trans (hf4.out.output.trans hU.output)⟩, ⟨by omega, fun i h1 h2 => e9 i h2 (by omega)⟩, hgr9.os.trans hf4.out.os, hgr9.tape.trans hf4.out.tape, hgr9.output.trans hf4.out.output⟩
    case done2 =>
      intro U hU hgo hsz3
      have hany : ((vsTo x 12).any fun u => h (woS x u)) = false := by
        rw [List.any_eq_false]
        intro u hu
        obtain ⟨a, c, e⟩ := List.append_of_mem hu
        have := hgo a u c e
        simpa using this
      rw [hany] at hst'
      simp only [Bool.false_eq_true, if_false] at hst'
      have hiU := hi1.after hgl hU
      have hgU := hg1.after hU
      have q7 := q78.out x U hiU.g
      rw [show (!(eqb x fun _ => false) && eqb (fround adj (dryS n x)) (dryS n x)) = isF n adj x from rfl] at q7
      obtain ⟨z, hz⟩ : ∃ z, isF n adj x = z := ⟨_, rfl⟩
      rw [hz] at q7 hst'
      have c1 : U.cell? ⟨w.heap.size, 0, none⟩ = some (.pointer (some ⟨b, 0, none⟩)) := by simp [World.cell?, hiU.t1]
      obtain ⟨d0, d1, d2, d3, d4, d5, d6, d7, d8, d9, d10, d11⟩ := hgU.c12
      have hkk := Keep.mk (And.intro hiU (And.intro hgU hU))
      have hbV := hb1
      have hzV : w.heap.size + 7 ≤ V.heap.size := by omega
      have hbk := Keep.mk (And.intro hb1 (And.intro hzV hsz2))
      unfold setV sc at q7
      clear hiU hgU hU hi1 hg1 hi hg' hb1 hbV hn1 hk1 hgo hany hz
      cases z with
      | false =>
        simp only [Bool.false_eq_true, if_false] at hst'
        gi_wp2_with (first
          | (refine ⟨trivial, rfl, ?_⟩; gi_at_call 78; refine (CallsIn.inRound l2 (callsIn_wide.2 q7)).mono ?_; rintro e V5 ⟨rfl, hb5⟩; have hb5k := Keep.mk hb5; clear hb5))
        obtain ⟨hiU, hgU, hU⟩ := hkk.out
        have hb5 := hb5k.out
        have hbA := (hbk.out.1.trans (hU.mono (by omega))).trans (hb5.mono (by have := hU.size; omega))
        subst hst'
        rw [hh, hL]
        exact ⟨⟨k, by omega, v, hvq, hiU.after hgl hb5⟩, ⟨hbA.size, hbA.block _ (by omega), hbA.block _ (by omega), fun j hj => hbA.block j (hqb j hj).2⟩, hbA.os, hbA.tape, hbA.output⟩
      | true =>
        simp only [if_true] at hst'
        gi_wp2_with (first
          | (refine ⟨trivial, rfl, ?_⟩; gi_at_call 78; refine (CallsIn.inRound l2 (callsIn_wide.2 q7)).mono ?_; rintro e V5 ⟨rfl, hb5⟩
             have hi5 := hkk.out.1.after hgl hb5
             have hg5 := hkk.out.2.1.after hb5
             have c4 : V5.cell? ⟨w.heap.size + 1 + 1 + 1, 0, none⟩ = some (.map (some (w.heap.size + 1 + 1))) := by simp [World.cell?, hi5.t4]
             obtain ⟨e0, e1, e2, e3, e4, e5, e6, e7, e8, e9, e10, e11⟩ := hg5.c12
             have hm5 := hi5.m
             have hb5k := Keep.mk (And.intro hb5 (And.intro hi5 hg5))
             clear hb5 hi5 hg5)
          | (gi_at_mapUpdate; refine HoldsAt.put (k := k) (h := h) hm5 (by omega) x rfl _ _ _ rfl rfl rfl rfl ?_; intro W9 hm9 hgr9
             have hi9 := hb5k.out.2.1.mapped hgl hm9 hgr9
             have hg9 : SetAt W9 g x := (hgr9.block g hb5k.out.2.2.lt (by simp; omega)).trans hb5k.out.2.2
             have c3 : W9.cell? ⟨w.heap.size + 1, 0, none⟩ = some v := by simp [World.cell?, hi9.t3]
             have f3 : W9.frozen? ⟨w.heap.size + 1, 0, none⟩ = false := by simp [World.frozen?, hi9.t3]
             obtain ⟨y0, y1, y2, y3, y4, y5, y6, y7, y8, y9, y10, y11⟩ := hg9.c12
             have h9k := Keep.mk (And.intro hi9 (And.intro hg9 hgr9))
             clear hi9 hg9 hgr9 hm9)
          | (gi_at_builtin; refine wpListIn_append_own_at _ rfl _ _ 99 rfl (w.heap.size + 7) 79 i0 (.agg #[.bool false, .bool false, .bool false, .bool false, .bool false, .bool false, .bool false, .bool false, .bool false, .bool false, .bool false, .bool false]) 12 12 ty99 hi0 hz0 hz1 hz2 rfl (by decide) v L.length (encs12 L) rfl (h9k.out.1.row.alloc _) ⟨W9.heap.size, 0, none⟩ 1 1 (sc x).toList rfl rfl (cell_set_new W9 x) (set_one x) (by unfold maxLen; omega) (by omega) (by have := h9k.out.1.row; have := h9k.out.2.2.size; have := hb5k.out.1.size; have := hkk.out.2.2.size; simp; omega) ?_; intro v' w1 hown hgrow _ hblk
             have hpu := h9k.out.1.push hgl (by have := h9k.out.2.2.size; have := hb5k.out.1.size; have := hkk.out.2.2.size; omega) hown hgrow
             have hv' := hown.lt
             have hst3 : w1.heap[w.heap.size + 1]? = some (.cells #[v] 99 (0, 0)) := (hgrow.block _ (by have := h9k.out.1.sz; simp; omega) (by intro e; have := (h9k.out.1.row.lt _ e.symm).1; omega)).trans ((Below.heap_alloc _ _ _ (by have := h9k.out.1.sz; omega)).trans h9k.out.1.t3)
             have c10 : w1.cell? ⟨w.heap.size + 1, 0, none⟩ = some v := by simp [World.cell?, hst3]
             have f10 : w1.frozen? ⟨w.heap.size + 1, 0, none⟩ = false := by simp [World.frozen?, hst3]
             obtain ⟨g', cap', rfl⟩ := ownsRow_succ hown
             have h10k := Keep.mk (And.intro hpu (And.intro hblk (And.intro hgrow hv')))
             clear hst3 hpu hown hgrow hblk hv'))
        obtain ⟨hpu, hblk, hgrow, hv'⟩ := h10k.out
        obtain ⟨hi9, hg9, hgr9⟩ := h9k.out
        obtain ⟨hb5, hi5, hg5⟩ := hb5k.out
        obtain ⟨hiU, hgU, hU⟩ := hkk.out
        obtain ⟨hb1, hzV, -⟩ := hbk.out
        have z1 := hb1.size
        have z2 := hU.size
        have z3 := hb5.size
        have z4 := hgr9.size
        have z5 := hgrow.size
        rw [World.size_alloc] at z5
        have hrw : ∀ i, i < V.heap.size → i ≠ w.heap.size + 2 → i ≠ w.heap.size + 1 → v.ownBlock ≠ some i → (w1.setCell ⟨w.heap.size + 1, 0, none⟩ (.slice (some ⟨g', 0, none⟩) (L.length + 1) cap')).heap[i]? = V.heap[i]? := fun i h1 h2 h3 h4 =>
          (Below.heap_setCell w1 ⟨w.heap.size + 1, 0, none⟩ _ i h3).trans ((hgrow.block i (by rw [World.size_alloc]; omega) (fun e => h4 e.symm)).trans ((Below.heap_alloc _ _ _ (by omega)).trans ((hgr9.block i (by omega) (by simp; omega)).trans ((hb5.block i (by omega)).trans ((hU.block i (by omega)).trans (hb1.block i h1))))))
        have hrow := hi9.row
        have hlo : ∀ i, i < w.heap.size + 7 → v.ownBlock ≠ some i := fun i hi e => by have := (hrow.lt i e).1; omega
        subst hst'
        refine ⟨⟨k + 1, by omega, _, ?_, hpu⟩, ⟨by omega, hrw _ (by omega) (by omega) (by omega) (hlo _ (by omega)), hrw _ (by omega) (by omega) (by omega) (hlo _ (by omega)), fun j hj => hrw j (hqb j hj).2 (by have := (hqb j hj).1; omega) (by have := (hqb j hj).1; omega) (fun e => hvq j e hj)⟩, hgrow.os.trans (hgr9.os.trans (hb5.os.trans (hU.os.trans hb1.os))), hgrow.tape.trans (hgr9.tape.trans (hb5.tape.trans (hU.tape.trans hb1.tape))), hgrow.output.trans (hgr9.output.trans (hb5.output.trans (hU.output.trans hb1.output)))⟩
        intro j hj hq
        rcases hblk with e | e
        · rw [e] at hj; exact hvq j hj hq
        · rw [e] at hj
          simp at hj
          have := (hqb j hq).2
          omega
    case stop2 =>
      rintro U p u post2 hx hgo hf ⟨hU1, hiU, hzU, hoU, o1, o2, o3⟩ hsz3
      have hany : ((vsTo x 12).any fun u => h (woS x u)) = true := by
        rw [hx, List.any_append]
        simp at hf
        simp [hf]
      rw [hany] at hst'
      simp only [if_true] at hst'
      subst hst'
      have hok := Keep.mk (And.intro o1 (And.intro o2 o3))
      clear o1 o2 o3
      gi_wp2
      obtain ⟨o1, o2, o3⟩ := hok.out
      have hrw : ∀ i, i < V.heap.size → i ≠ w.heap.size + 2 → U.heap[i]? = V.heap[i]? := fun i h1 h2 => (hoU i (by omega) h2).trans (hb1.block i h1)
      exact ⟨⟨k + 1, by omega, v, hvq, hiU⟩, ⟨by omega, hrw _ (by omega) (by omega), hrw _ (by omega) (by omega), fun j hj => hrw j (hqb j hj).2 (by have := (hqb j hj).1; omega)⟩, o1.trans hb1.os, o2.trans hb1.tape, o3.trans hb1.output⟩
  case done =>
    rintro q V ⟨k, v, h1, h2, h3⟩ hgo hsz2 hD
    have c3 : V.cell? ⟨w.heap.size + 1, 0, none⟩ = some v := by simp [World.cell?, h3.t3]
    have hik := Keep.mk (And.intro h3 hD)
    clear h3 hD hI
    gi_wp2
    go_wp2
    obtain ⟨h3, hD⟩ := hik.out
    have hz := h3.sz
    rw [Exit.noGoto_ret]
    show bodyPostM Fence.wide 0 Try.prog Try.f71 _ Exit.ret _ _
    refine Qr.leaves_mark hD fun w' hk => ⟨v, by simp [results, Try.results71, go_sem], v, rfl, ?_, h3.bw.trans (hk.below (by omega) (by omega))⟩
    have h := row_same h3.row (W' := w') (fun g hg => hk.block g (h3.row.lt g hg).2 (by have := (h3.row.lt g hg).1; omega) (by have := (h3.row.lt g hg).1; omega))
    obtain ⟨h1, h2⟩ := h
    unfold fortsOf
    refine ⟨h1, ?_⟩
    rcases h2 with h2 | ⟨g, cap, cur, rfl, hg, hr⟩
    · exact .inl h2
    · exact .inr ⟨g, cap, cur, rfl, by omega, hr⟩
  case stop =>
    intro q V p x post _ _ h
    cases h
end Go.Proofs.Yteekigpdiklppaa
set_option linter.unusedSimpArgs false
set_option linter.unusedVariables false
namespace Go.Proofs.Yteekigpdiklppaa
open Go Go.Proofs Go.RowKit Go.Seq
attribute [local go_sem] Oper.semAt_some
theorem encs12_len (L : List (Nat → Bool)) : (encs12 L).length = L.length * 12 := by
  unfold encs12
  induction L with
  | nil => rfl
  | cons p l ih => simp only [List.flatMap_cons, List.length_append, List.length_cons, ih]; simp [sc]; omega
theorem encs12_at : ∀ (L : List (Nat → Bool)) {i : Nat} (hi : i < L.length) {j : Nat}, j < 12 → (encs12 L)[i * 12 + j]? = some (.bool (L[i] j))
  | [], i, hi, j, hj => by simp at hi
  | p :: l, 0, hi, j, hj => by
    have : (encs12 (p :: l)) = (sc p).toList ++ encs12 l := by simp [encs12]
    rw [this, List.getElem?_append_left (by simp [sc]; omega), Nat.zero_mul, Nat.zero_add, Array.getElem?_toList, sc_at p j hj]
    rfl
  | p :: l, i + 1, hi, j, hj => by
    have h := encs12_at l (i := i) (by simpa using hi) hj
    have : (encs12 (p :: l)) = (sc p).toList ++ encs12 l := by simp [encs12]
    have hs : (sc p).toList.length = 12 := by simp [sc]
    rw [this, List.getElem?_append_right (by omega), hs, show (i + 1) * 12 + j - 12 = i * 12 + j by omega, h]
    rfl
/-- Lists of places in memory. -/
structure ListsV (B : Nat) (W : World) (v : Value) (L : List (Nat → Bool)) (svs : List Value) : Prop where
  row : W.ownsRow B 23 1 v L.length svs
  len : svs.length = L.length
  el : ∀ i (hi : i < L.length) sv, svs[i]? = some sv → W.ownsRow B 3 1 sv (vsTo L[i] 12).length ((vsTo L[i] 12).map ik)
  one : ∀ sv ∈ svs, sv.oneCell' = true
  ne : ∀ sv ∈ svs, ∀ g, sv.ownBlock = some g → v.ownBlock ≠ some g
theorem ListsV.after {B : Nat} {W W' : World} {v : Value} {L : List (Nat → Bool)} {svs : List Value} (h : ListsV B W v L svs) (hb : Below W.heap.size W W') : ListsV B W' v L svs :=
  ⟨row_after h.row hb, h.len, fun i hi sv hs => row_after (h.el i hi sv hs) hb, h.one, h.ne⟩
theorem ListsV.base {B B' : Nat} {W : World} {v : Value} {L : List (Nat → Bool)} {svs : List Value} (h : ListsV B W v L svs) (hB : B' ≤ B) : ListsV B' W v L svs :=
  ⟨row_base h.row hB, h.len, fun i hi sv hs => row_base (h.el i hi sv hs) hB, h.one, h.ne⟩
theorem ListsV.nil (B : Nat) (W : World) : ListsV B W (.slice none 0 0) [] [] :=
  ⟨World.ownsRow_nil _ _ _ _, rfl, fun i hi => by simp at hi, fun sv h => by simp at h, fun sv h => by simp at h⟩
/-- One list more. -/
theorem ListsV.push {B : Nat} {W W1 W2 : World} {v v' lv : Value} {L : List (Nat → Bool)} {svs : List Value} {F : Nat → Bool} {o : Obj} (h : ListsV B W v L svs) (hb : Below W.heap.size W W1) (hl : W1.ownsRow W.heap.size 3 1 lv (vsTo F 12).length ((vsTo F 12).map ik)) (h1 : lv.oneCell' = true) (hB : B ≤ W.heap.size)
    (hrow : W2.ownsRow B 23 1 v' (L.length + 1) (svs ++ [lv])) (hg : (W1.alloc o).grownBy W2 v.ownBlock) (hv : v'.ownBlock = v.ownBlock ∨ v'.ownBlock = some (W1.alloc o).heap.size) : ListsV B W2 v' (L ++ [F]) (svs ++ [lv]) := by
  have hz := hb.size
  have ho : ∀ i, i < W1.heap.size → v.ownBlock ≠ some i → W2.heap[i]? = W1.heap[i]? := fun i h2 h3 => (hg.block i (by rw [World.size_alloc]; omega) (fun e => h3 e.symm)).trans (Below.heap_alloc _ _ _ (by omega))
  have hA := h.after hb
  have hvlt : ∀ g, v.ownBlock = some g → g < W.heap.size := fun g hg' => (h.row.lt g hg').2
  refine ⟨by rw [List.length_append]; exact hrow, by simp [h.len], fun i hi sv hs => ?_, fun sv hs => ?_, fun sv hs g hg' => ?_⟩
  · rw [List.length_append] at hi
    by_cases e : i < L.length
    · rw [List.getElem?_append_left (by rw [h.len]; exact e)] at hs
      have hrs := hA.el i e sv hs
      simp only [List.getElem_append_left e]
      refine row_same hrs (fun g hg' => ho g (hrs.lt g hg').2 (h.ne sv (List.mem_of_getElem? hs) g hg'))
    · have e2 : i = L.length := by simp at hi; omega
      subst e2
      rw [List.getElem?_append_right (by rw [h.len]; omega), h.len] at hs
      simp at hs
      subst hs
      simp only [List.getElem_concat_length]
      have hl' := row_base hl hB
      refine row_same hl' (fun g hg' => ho g (hl.lt g hg').2 (fun e => by have := hvlt g e; have := (hl.lt g hg').1; omega))
  · rcases List.mem_append.1 hs with hs | hs
    · exact h.one sv hs
    · simp at hs; subst hs; exact h1
  · rcases List.mem_append.1 hs with hs | hs
    · obtain ⟨i, hi⟩ := List.getElem?_of_mem hs
      have hil : i < L.length := by
        have := (List.getElem?_eq_some_iff.1 hi).1
        rw [h.len] at this; exact this
      have hlt := ((h.el i hil sv hi).lt g hg').2
      rcases hv with e | e
      · rw [e]; exact h.ne sv hs g hg'
      · rw [e, World.size_alloc]; intro e2; simp at e2; omega
    · simp at hs; subst hs
      have hlt := hl.lt g hg'
      rcases hv with e | e
      · rw [e]; intro e2; have := hvlt g e2; omega
      · rw [e, World.size_alloc]; intro e2; simp at e2; omega
theorem ty45 : Try.prog.underlying 45 = some (.slice 23) := by kernel_rfl
theorem info23 : (Try.prog.info? 23).map (fun i => (i.zero, i.size, i.bytes)) = some (some (.slice none 0 0), 1, 24) := by kernel_rfl
theorem slice_of_row {W : World} {B e s k : Nat} {v : Value} {xs : List Value} (h : W.ownsRow B e s v k xs) : ∃ A c, v = .slice A k c ∧ (0 < k → ∃ g, A = some ⟨g, 0, none⟩) := by
  obtain ⟨h1, h2⟩ := h
  rcases h2 with ⟨rfl, h0⟩ | ⟨g, cap, cur, rfl, _⟩
  · exact ⟨_, _, by rw [h0], fun h => by omega⟩
  · exact ⟨_, _, rfl, fun _ => ⟨g, rfl⟩⟩
set_option maxHeartbeats 2000000 in
set_option maxRecDepth 100000 in
theorem Forts_yes {n : Nat} {v : Value} {ps : Pts} {w : World} (hv : PairsOf w v ps) (hok : GrOk n ps) (hl : ps.length ≤ 200) :
    Calls Try.prog 35 #[.int .i64 n, v] w fun e w' => ∃ lv svs, e = .returned (.tuple #[lv, .int .i64 0]) ∧ ListsV w.heap.size w' lv (fortsOf n (adjOf ps)) svs ∧ Below w.heap.size w w' := by
  have q69 := readGraph_yes hv hok hl
  have hn : n ≤ 12 := by have := hok.n12; omega
  have q71 := Keep.mk (fun (g : Nat) (W : World) (hg : GraphAt W g n (adjOf ps)) => leastForts_any (w := W) hg hn)
  have hLn : (fortsOf n (adjOf ps)).length ≤ 4095 := Nat.le_trans (stF_len _ _ _) (setsTo_le hn)
  obtain ⟨L, hL⟩ : ∃ L, fortsOf n (adjOf ps) = L := ⟨_, rfl⟩
  rw [hL] at q71 hLn ⊢
  obtain ⟨i0, hi0, hz0, hz1, hz2⟩ : ∃ i, Try.prog.info? 23 = some i ∧ i.zero = some (.slice none 0 0) ∧ i.size = 1 ∧ i.bytes = 24 := by
    have h := info23
    cases hI : Try.prog.info? 23 with
    | none => rw [hI] at h; cases h
    | some i =>
      rw [hI] at h
      simp only [Option.map_some, Option.some.injEq, Prod.mk.injEq] at h
      exact ⟨i, rfl, h.1, h.2.1, h.2.2⟩
  have q60 := fun (F : Nat → Bool) W => list_any F W
  clear hL hv
  unfold setV sc at q60
  go_enter Try.func35, Try.ntmps35
  go_wp2_with (first
    | (go_at_call 69; (with_reducible refine q69.mono ?_); rintro e w5 ⟨rfl, hg5, hb5⟩
       have q7 := q71.out w.heap.size w5 hg5.at
       have hbb := Keep.mk hb5
       clear hg5 hb5)
    | (go_at_call 71; (with_reducible refine q7.mono ?_); rintro e w7 ⟨fv, rfl, hr7, hb7⟩
       obtain ⟨A, c, rfl, hA⟩ := slice_of_row hr7
       have hbc := Keep.mk (And.intro (hbb.out.trans (hb7.mono hbb.out.size)) (And.intro hr7 hbb.out.size))
       clear hb7 q7 hr7))
  go_loopw [22, 8] (fun i o wr => ∃ k : Nat, ∃ svs, k ≤ L.length ∧ i = .int .i64 k ∧ Keep (ListsV w7.heap.size wr o (L.take k) svs ∧ Below w7.heap.size w7 wr) ∧ ∃ A2 d2, o = .slice A2 k d2) (fun i _ _ => L.length - (intOf i).toNat)
  case atStart => exact ⟨0, [], by omega, rfl, ⟨by simpa using ListsV.nil _ _, Below.refl _ _⟩, _, _, rfl⟩
  case round =>
    obtain ⟨k, svs, hk, rfl, hI, A2, d2, rfl⟩ := hrel
    have hw1 : IntKind.i64.wrap ((k : Int) + 1) = (k : Int) + 1 := IntWalk.i64_in _ (by omega)
    by_cases hlt : k < L.length
    · have hlt' : (k : Int) < (L.length : Int) := by omega
      obtain ⟨g, rfl⟩ := hA (by omega)
      have hrw := row_after hbc.out.2.1 hI.out.2
      have hcell : Keep (∀ j, j < 12 → wr.cell? ⟨g, k * 12 + j, none⟩ = some (.bool (L[k] j))) := ⟨fun j hj => (hrw.cellAt (k * 12 + j) (by omega)).trans (encs12_at L hlt hj)⟩
      have htk : L.take (k + 1) = L.take k ++ [L[k]] := by rw [List.take_add_one, List.getElem?_eq_getElem hlt]; rfl
      generalize L[k] = F at hcell htk
      have q := q60 F
      have hlen : (L.take k).length = k := by simp; omega
      clear hrw
      have c0 := hcell.out 0 (by omega)
      have c1 := hcell.out 1 (by omega)
      have c2 := hcell.out 2 (by omega)
      have c3 := hcell.out 3 (by omega)
      have c4 := hcell.out 4 (by omega)
      have c5 := hcell.out 5 (by omega)
      have c6 := hcell.out 6 (by omega)
      have c7 := hcell.out 7 (by omega)
      have c8 := hcell.out 8 (by omega)
      have c9 := hcell.out 9 (by omega)
      have c10 := hcell.out 10 (by omega)
      have c11 := hcell.out 11 (by omega)
      try simp only [Nat.add_zero] at c0
      obtain ⟨w8, hw8⟩ : ∃ w8, wr.alloc (.cells (sc F) 79) = w8 := ⟨_, rfl⟩
      have hb8 : Below wr.heap.size wr w8 := by rw [← hw8]; exact (Below.refl _ _).alloc (Nat.le_refl _) _
      have hf8 : SetAt w8 wr.heap.size F := by rw [← hw8]; exact SetAt.new _ _
      obtain ⟨y0, y1, y2, y3, y4, y5, y6, y7, y8, y9, y10, y11⟩ := hf8.c12
      have hb8k := Keep.mk hb8
      clear hb8 hf8 hcell
      unfold sc at hw8
      go_wp2_with (first
        | (go_at_call 60; (with_reducible refine (q _).mono ?_); rintro e w9 ⟨sv, rfl, hr9, hb9⟩
           obtain ⟨A9, c9, rfl, hA9⟩ := slice_of_row hr9
           have h9k := Keep.mk (And.intro hr9 hb9)
           have hsv : Keep (w9.ownsRow w7.heap.size 23 1 (.slice A2 k d2) k svs) := ⟨by have h := ((hI.out.1.after hb8k.out).after hb9).row; rw [hlen] at h; exact h⟩
           clear hr9 hb9 q)
        | (at_builtin; refine wpList_append_own_at _ rfl _ _ 45 rfl w7.heap.size 23 i0 (.slice none 0 0) 1 24 ty45 hi0 hz0 hz1 hz2 rfl (by decide) _ k svs rfl (hsv.out.alloc _) ⟨w9.heap.size, 0, none⟩ 1 1 [.slice A9 (vsTo F 12).length c9] rfl rfl (cell_one_new _ _ _) (by simp [Value.oneCell']) (by unfold maxLen; omega) (by omega) (by have := hbc.out.1.size; have := hI.out.2.size; have := hb8k.out.size; have := h9k.out.2.size; simp; omega) ?_; intro v' w10 hown hgrow _ hblk
           obtain ⟨g', cap', rfl⟩ := ownsRow_succ hown
           have h10k := Keep.mk (And.intro hown (And.intro hgrow hblk))
           clear hown hgrow hblk))
      obtain ⟨hown, hgrow, hblk⟩ := h10k.out
      have z8 := hb8k.out.size
      have z9 := h9k.out.2.size
      have z10 := hgrow.size
      rw [World.size_alloc] at z10
      have hLV := (hI.out.1.after hb8k.out).push (F := F) h9k.out.2 h9k.out.1 rfl (by have := hbc.out.1.size; have := hI.out.2.size; omega) (by rw [hlen]; exact hown) hgrow hblk
      have hb10 : Below w7.heap.size w7 w10 := by
        have h1 : Below w7.heap.size w7 w9 := hI.out.2.trans ((hb8k.out.trans (h9k.out.2.mono z8)).mono hI.out.2.size)
        have hz := hI.out.2.size
        refine h1.trans (Below.grown ((Below.refl _ w9).alloc (by omega) _) hgrow (by simp; omega) (fun j hj => ?_))
        have hj' : (Value.slice A2 k d2).ownBlock = some j := hj
        exact (hsv.out.lt j hj').1
      refine ⟨⟨k + 1, svs ++ [.slice A9 (vsTo F 12).length c9], by omega, by go_num, ⟨by rw [htk]; exact hLV, hb10⟩, _, _, rfl⟩, by simp [intOf]; omega⟩
    · obtain rfl : k = L.length := by omega
      have hlt' : ¬ (L.length : Int) < (L.length : Int) := by omega
      go_wp2
      refine bodyPost_ret (v := .tuple #[.slice A2 L.length d2, .int .i64 0]) (by simp [results, Try.results35, go_sem]) rfl ?_
      have h := hI.out.1
      rw [List.take_length] at h
      exact ⟨_, rfl, ⟨svs, h.base hbc.out.1.size⟩, hbc.out.1.trans (hI.out.2.mono hbc.out.1.size)⟩
end Go.Proofs.Yteekigpdiklppaa
