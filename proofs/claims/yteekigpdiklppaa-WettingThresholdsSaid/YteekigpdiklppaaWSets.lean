import Derived.Test.YteekigpdiklppaaWStages
import Derived.Test.YteekigpdiklppaaSeqL
set_option linter.unusedSimpArgs false
set_option linter.unusedVariables false
namespace Go.Proofs.Yteekigpdiklppaa
open Go Go.Proofs Go.RowKit Go.Seq
attribute [local go_sem] Oper.semAt_some
/-- A set with one place more. -/
def adds (s : Nat → Bool) (v : Nat) : Nat → Bool := fun j => if j = v then true else s j
/-- The sets that a choice of so many further places gives. -/
def fillL (n : Nat) : Nat → (Nat → Bool) → Nat → List (Nat → Bool)
  | 0, s, _ => [s]
  | m + 1, s, v => (List.range' v (n - v)).flatMap fun u => fillL n m (adds s u) (u + 1)
def fillTo (n m : Nat) (s : Nat → Bool) (v k : Nat) : List (Nat → Bool) := (List.range' v k).flatMap fun u => fillL n m (adds s u) (u + 1)
theorem fillTo_succ (n m : Nat) (s : Nat → Bool) (v k : Nat) : fillTo n m s v (k + 1) = fillTo n m s v k ++ fillL n m (adds s (v + k)) (v + k + 1) := by
  unfold fillTo
  rw [List.range'_1_concat, List.flatMap_append]
  simp
theorem fillTo_rest (n m : Nat) (s : Nat → Bool) (v : Nat) {k : Nat} : ∀ {M}, k < M → ∃ rest, fillTo n m s v M = fillTo n m s v k ++ (fillL n m (adds s (v + k)) (v + k + 1) ++ rest)
  | 0, h => by omega
  | M + 1, h => by
    by_cases e : k = M
    · subst e; exact ⟨[], by rw [fillTo_succ]; simp⟩
    · obtain ⟨rest, hr⟩ := fillTo_rest n m s v (k := k) (M := M) (by omega)
      exact ⟨rest ++ fillL n m (adds s (v + M)) (v + M + 1), by rw [fillTo_succ, hr]; simp⟩
def encW (s : Nat → Bool) : Array Value := #[setV s]
section
variable {b n : Nat} {adj : Nat → Nat → Bool} {W1 : World} {l : Nat} {xs : List (Nat → Bool)} {gs : List (Nat → Bool) → (Nat → Bool) → Bool} {J : (Nat → Prop) → List (Nat → Bool) → World → Prop} {R : World → Prop}
/-- Where the visit has ended early. -/
def Cut (gs : List (Nat → Bool) → (Nat → Bool) → Bool) (xs : List (Nat → Bool)) (J : (Nat → Prop) → List (Nat → Bool) → World → Prop) (W : World) : Prop :=
  ∃ q p x post, xs = p ++ x :: post ∧ Stp.going gs p ∧ gs p x = false ∧ J q (p ++ [x]) W
set_option maxHeartbeats 2000000 in
set_option maxRecDepth 100000 in
theorem fill_gives (hn : n ≤ 12) (hJ : ∀ q q' pre W W', J q pre W → Below W.heap.size W W' → Pq.More q q' W W' → J q' pre W') (hG : ∀ q pre W, J q pre W → GraphAt W b n adj)
    (hY : ∀ q pre x W, J q pre W → Stp.going gs pre → W1.heap.size ≤ W.heap.size → (∃ post, xs = pre ++ x :: post) → YieldAt Fence.wide 0 Try.prog l (encW x) W fun e W' => e = .returned (.bool (gs pre x)) ∧ J q (pre ++ [x]) W' ∧ W.heap.size ≤ W'.heap.size ∧ (∀ k, q k → W'.heap[k]? = W.heap[k]?) ∧ W'.os = W.os ∧ W'.tape = W.tape ∧ W'.output = W.output) :
    ∀ (m : Nat), m ≤ 12 → ∀ (s : Nat → Bool) (v : Nat) (q : Nat → Prop) (pre post : List (Nat → Bool)) (W : World), v ≤ 13 → J q pre W → Stp.going gs pre → W1.heap.size ≤ W.heap.size → xs = pre ++ (fillL n m s v ++ post) →
      CallsIn Fence.wide 0 Try.prog 89 #[.pointer (some ⟨b, 0, none⟩), setV s, .int .i64 v, .int .i64 m, .func (.yield l) #[] #[]] W fun e W' => W.heap.size ≤ W'.heap.size ∧ (∀ k, q k → k < W.heap.size → W'.heap[k]? = W.heap[k]?) ∧
        ((e = .returned (.bool true) ∧ J q (pre ++ fillL n m s v) W' ∧ Stp.going gs (pre ++ fillL n m s v)) ∨ (e = .returned (.bool false) ∧ Cut gs xs J W')) := by
  intro m
  induction m with
  | zero =>
    intro _ s v q pre post W hv hj hgo hsz hx
    simp only [fillL, List.singleton_append] at hx ⊢
    obtain ⟨wa, hwa⟩ : ∃ wa, W.alloc (.cells (sc s) 79) = wa := ⟨_, rfl⟩
    have ba : Below W.heap.size W wa := by rw [← hwa]; exact (Below.refl _ _).alloc (Nat.le_refl _) _
    have fa : SetAt wa W.heap.size s := by rw [← hwa]; exact SetAt.new _ _
    obtain ⟨c0, c1, c2, c3, c4, c5, c6, c7, c8, c9, c10, c11⟩ := fa.c12
    have hqb : ∀ k, q k → k < W.heap.size → wa.heap[k]? = W.heap[k]? := fun k _ hk => ba.block k hk
    have hja := hJ q q pre W wa hj ba (.refl _ _ _)
    obtain ⟨z, hz⟩ : ∃ z, gs pre s = z := ⟨_, rfl⟩
    obtain ⟨fn, tmps, assign, body, hy, hRd⟩ := hY q pre s wa hja hgo (Nat.le_trans hsz ba.size) ⟨post, hx⟩
    unfold encW setV at hy
    unfold setV
    unfold sc at hy hwa ⊢
    have hbk := Keep.mk ba
    clear fa ba hY
    refine callsIn_of_wp Try.func89 rfl trivial ?_ rfl
    simp only [Try.ntmps89, List.size_toArray, List.length_cons, List.length_nil, Nat.reduceAdd, Nat.reduceSub, Array.replicate_succ, Array.replicate_zero, List.push_toArray, List.append_toArray, List.nil_append, List.cons_append]
    gi_wp2
    refine ⟨rfl, hRd.mono ?_⟩
    rintro e w5 ⟨rfl, hj5, hsz5, hq5, -⟩
    rw [hz]
    have hfin : ∀ k, q k → k < W.heap.size → w5.heap[k]? = W.heap[k]? := fun k hk hl => (hq5 k hk).trans (hbk.out.block k hl)
    have hsz6 := Nat.le_trans hbk.out.size hsz5
    cases z with
    | true =>
      gi_wp2
      refine bodyPost_ret (v := .bool true) (by simp [results, Try.results89, go_sem]) rfl ?_
      exact ⟨hsz6, hfin, .inl ⟨rfl, hj5, Stp.going_snoc.2 ⟨hgo, hz⟩⟩⟩
    | false =>
      gi_wp2
      refine bodyPost_ret (v := .bool false) (by simp [results, Try.results89, go_sem]) rfl ?_
      exact ⟨hsz6, hfin, .inr ⟨rfl, q, pre, s, post, hx, hgo, hz, hj5⟩⟩
  | succ m ih =>
    intro hm s v q pre post W hv hj hgo hsz hx
    obtain ⟨M, hM⟩ : ∃ M, n - v = M := ⟨_, rfl⟩
    rw [show fillL n (m + 1) s v = fillTo n m s v M by rw [← hM]; rfl] at hx ⊢
    have hmi : ((m + 1 : Nat) : Int) = (m : Int) + 1 := by omega
    rw [hmi]
    obtain ⟨wa, hwa⟩ : ∃ wa, W.alloc (.cells (sc s) 79) = wa := ⟨_, rfl⟩
    have ba : Below W.heap.size W wa := by rw [← hwa]; exact (Below.refl _ _).alloc (Nat.le_refl _) _
    have sa : wa.heap.size = W.heap.size + 1 := by rw [← hwa]; simp
    have fa : SetAt wa W.heap.size s := by rw [← hwa]; exact SetAt.new _ _
    have hja := hJ q (fun k => q k ∨ k = W.heap.size) pre W wa hj ba (fun k h => h.elim .inl (fun e => .inr ⟨by omega, by omega⟩))
    have hI0 : Keep (J (fun k => q k ∨ k = W.heap.size) (pre ++ fillTo n m s v 0) wa ∧ Stp.going gs (pre ++ fillTo n m s v 0) ∧ SetAt wa W.heap.size s ∧ W.heap.size + 1 ≤ wa.heap.size ∧ ∀ j, q j → j < W.heap.size → wa.heap[j]? = W.heap[j]?) := ⟨by simpa [fillTo] using hja, by simpa [fillTo] using hgo, fa, by omega, fun j _ hl => ba.block j hl⟩
    have hm0 : (((m : Int) + 1) == 0) = false := by rw [beq_eq_false_iff_ne]; omega
    have hm00 : ¬ ((m : Int) + 1 = 0) := by omega
    have hxk := Keep.mk hx
    clear hx
    have hm1 : IntKind.i64.wrap ((m : Int) + 1 - 1) = (m : Int) := by rw [show (m : Int) + 1 - 1 = m by omega]; exact IntWalk.i64_in _ (by omega)
    unfold setV
    unfold sc at hwa ⊢
    clear ba fa hja hgo hj sa
    refine callsIn_of_wp Try.func89 rfl trivial ?_ rfl
    simp only [Try.ntmps89, List.size_toArray, List.length_cons, List.length_nil, Nat.reduceAdd, Nat.reduceSub, Array.replicate_succ, Array.replicate_zero, List.push_toArray, List.append_toArray, List.nil_append, List.cons_append]
    gi_wp2
    try rw [hwa]
    clear hwa
    gi_loopw [11] (fun i wr => ∃ k : Nat, k ≤ M ∧ i = .int .i64 ((v + k : Nat) : Int) ∧ Keep (J (fun k => q k ∨ k = W.heap.size) (pre ++ fillTo n m s v k) wr ∧ Stp.going gs (pre ++ fillTo n m s v k) ∧ SetAt wr W.heap.size s ∧ W.heap.size + 1 ≤ wr.heap.size ∧ ∀ j, q j → j < W.heap.size → wr.heap[j]? = W.heap[j]?)) (fun i _ => n - (intOf i).toNat)
    case atStart => exact ⟨0, by omega, by simp, hI0⟩
    case round =>
      obtain ⟨k, hk, rfl, hI⟩ := hrel
      obtain ⟨u, hu⟩ : ∃ u, v + k = u := ⟨_, rfl⟩
      rw [hu]
      have hgk := Keep.mk (hG _ _ _ hI.out.1)
      have cg := hgk.out.size
      by_cases hlt : u < n
      · have hlt' : (u : Int) < (n : Int) := by omega
        have hw1 : IntKind.i64.wrap ((u : Int) + 1) = (u : Int) + 1 := IntWalk.i64_in _ (by omega)
        obtain ⟨c0, c1, c2, c3, c4, c5, c6, c7, c8, c9, c10, c11⟩ := hI.out.2.2.1.c12
        have q92 := fun W => with_any s u (by omega) W
        rw [show (fun j => if j = u then true else s j) = adds s u from rfl] at q92
        obtain ⟨rest, hrest⟩ := fillTo_rest n m s v (k := k) (M := M) (by omega)
        rw [hu] at hrest
        have qih := Keep.mk (fun W3 (hb3 : Below wr.heap.size wr W3) => ih (by omega) (adds s u) (u + 1) (fun k => q k ∨ k = W.heap.size) (pre ++ fillTo n m s v k) (rest ++ post) W3 (by omega) (hJ _ _ _ _ _ hI.out.1 hb3 (.refl _ _ _)) hI.out.2.1 (Nat.le_trans hsz (Nat.le_trans (by have := hI.out.2.2.2.1; omega) hb3.size)) (by rw [hxk.out, hrest]; simp))
        have hu1 : ((u + 1 : Nat) : Int) = (u : Int) + 1 := by omega
        unfold setV sc at qih q92
        simp only [hu1] at qih
        clear ih hG hY
        gi_wp2_with (first
          | (refine ⟨trivial, rfl, ?_⟩; gi_at_call 92; refine (callsIn_wide.2 (q92 _)).mono ?_; rintro e w3 ⟨rfl, hb3⟩; have hb3k := Keep.mk hb3; clear hb3)
          | (refine ⟨trivial, rfl, ?_⟩; gi_at_call 89; refine (qih.out _ hb3k.out).mono ?_; rintro e w6 ⟨hs6, hq6, h6⟩
             obtain ⟨z, rfl, hz⟩ : ∃ z, e = .returned (.bool z) ∧ Keep ((z = true ∧ J (fun k => q k ∨ k = W.heap.size) (pre ++ fillTo n m s v k ++ fillL n m (adds s u) (u + 1)) w6 ∧ Stp.going gs (pre ++ fillTo n m s v k ++ fillL n m (adds s u) (u + 1))) ∨ (z = false ∧ Cut gs xs J w6)) := by
               (rcases h6 with ⟨rfl, h7, h8⟩ | ⟨rfl, h7⟩)
               · exact ⟨true, rfl, ⟨.inl ⟨rfl, h7, h8⟩⟩⟩
               · exact ⟨false, rfl, ⟨.inr ⟨rfl, h7⟩⟩⟩
             have hk6 := Keep.mk (And.intro hs6 hq6); clear hs6 hq6 h6))
        all_goals rename_i hzz
        all_goals (
          have hs6 : wr.heap.size ≤ w6.heap.size := Nat.le_trans hb3k.out.size hk6.out.1
          have hq7 : ∀ j, q j → j < W.heap.size → w6.heap[j]? = W.heap[j]? := fun j hj hl => (hk6.out.2 j (.inl hj) (by have := hI.out.2.2.2.1; have := hb3k.out.size; omega)).trans ((hb3k.out.block j (by have := hI.out.2.2.2.1; omega)).trans (hI.out.2.2.2.2 j hj hl))
          have hs7 : SetAt w6 W.heap.size s := (hk6.out.2 _ (.inr rfl) (by have := hI.out.2.2.2.1; have := hb3k.out.size; omega)).trans ((hI.out.2.2.1.after hb3k.out))
          have hs7k := Keep.mk hs7
          clear hs7
          rcases hz.out with ⟨rfl, h7, h8⟩ | ⟨rfl, h7⟩)
        all_goals first
          | (exfalso; revert hzz; decide)
          | (refine ⟨⟨k + 1, by omega, by (rw [show ((v + (k + 1) : Nat) : Int) = (u : Int) + 1 by omega]), ⟨?_, ?_, hs7k.out, by have := hI.out.2.2.2.1; omega, hq7⟩⟩, by simp [intOf]; omega⟩
             · rw [fillTo_succ, hu, ← List.append_assoc]; exact h7
             · rw [fillTo_succ, hu, ← List.append_assoc]; exact h8)
          | (refine bodyPost_ret (v := .bool false) (by simp [results, Try.results89, go_sem]) rfl ?_
             exact ⟨by have := hI.out.2.2.2.1; omega, hq7, .inr ⟨rfl, h7⟩⟩)
      · have hlt' : ¬ (u : Int) < (n : Int) := by omega
        obtain rfl : k = M := by omega
        gi_wp2
        refine bodyPost_ret (v := .bool true) (by simp [results, Try.results89, go_sem]) rfl ?_
        exact ⟨by have := hI.out.2.2.2.1; omega, hI.out.2.2.2.2, .inl ⟨rfl, hJ _ _ _ _ _ hI.out.1 (Below.refl _ _) (fun k h => .inl (.inl h)), hI.out.2.1⟩⟩
end
/-- All sets that sets visits, up to so many places. -/
def setsTo (n k : Nat) : List (Nat → Bool) := (List.range k).flatMap fun i => fillL n (i + 1) (fun _ => false) 0
theorem setsTo_succ (n k : Nat) : setsTo n (k + 1) = setsTo n k ++ fillL n (k + 1) (fun _ => false) 0 := by
  unfold setsTo
  rw [List.range_succ, List.flatMap_append]
  simp
theorem setsTo_rest (n : Nat) {k : Nat} : ∀ {M}, k < M → ∃ rest, setsTo n M = setsTo n k ++ (fillL n (k + 1) (fun _ => false) 0 ++ rest)
  | 0, h => by omega
  | M + 1, h => by
    by_cases e : k = M
    · subst e; exact ⟨[], by rw [setsTo_succ]; simp⟩
    · obtain ⟨rest, hr⟩ := setsTo_rest n (k := k) (M := M) (by omega)
      exact ⟨rest ++ fillL n (M + 1) (fun _ => false) 0, by rw [setsTo_succ, hr]; simp⟩
set_option maxHeartbeats 2000000 in
set_option maxRecDepth 100000 in
theorem sets_gives {b bg n : Nat} {adj : Nat → Nat → Bool} (hn : n ≤ 12) (W1 : World) :
    Pq.GivesW Try.prog 88 #[.pointer (some ⟨bg, 0, none⟩)] encW (setsTo n n) (fun W => GraphAt W b n adj ∧ W.cell? ⟨bg, 0, none⟩ = some (.pointer (some ⟨b, 0, none⟩))) W1 := by
  intro l gs J hJ hR hY h0
  have h0r := hR _ _ _ h0
  obtain ⟨cg, cb⟩ := h0r
  have cn := cg.size
  have cgk := Keep.mk cg
  clear cg
  have qf := Keep.mk (fun (k : Nat) (hk : k < n) (q : Nat → Prop) (W : World) (hj : J q (setsTo n k) W) (hgo : Stp.going gs (setsTo n k)) (hz : W1.heap.size ≤ W.heap.size) =>
    fill_gives (b := b) (adj := adj) (W1 := W1) (l := l) (xs := setsTo n n) (gs := gs) (J := J) hn hJ (fun q pre W h => (hR q pre W h).1) hY (k + 1) (by omega) (fun _ => false) 0 q (setsTo n k) (setsTo_rest n (k := k) (M := n) hk).choose W (by omega) hj hgo hz (setsTo_rest n (k := k) (M := n) hk).choose_spec)
  unfold setV sc at qf
  have hI0 : Keep (∃ q, J q (setsTo n 0) W1) := ⟨Pq.none', by simpa [setsTo] using h0⟩
  have hg0 : Stp.going gs (setsTo n 0) := by simpa [setsTo] using Stp.going_nil gs
  clear hY h0
  refine callsIn_of_wp Try.func88 rfl trivial ?_ rfl
  simp only [Try.ntmps88, List.size_toArray, List.length_cons, List.length_nil, Nat.reduceAdd, Nat.reduceSub, Array.replicate_succ, Array.replicate_zero, List.push_toArray, List.append_toArray, List.nil_append, List.cons_append]
  gi_wp2
  gi_loopw [8] (fun i wr => ∃ k : Nat, k ≤ n ∧ i = .int .i64 k ∧ Keep (∃ q, J q (setsTo n k) wr) ∧ Stp.going gs (setsTo n k) ∧ W1.heap.size ≤ wr.heap.size) (fun i _ => n - (intOf i).toNat)
  case atStart => exact ⟨0, by omega, by simp, hI0, hg0, Nat.le_refl _⟩
  case round =>
    obtain ⟨k, hk, rfl, hI, hgo, hsz⟩ := hrel
    have hw1 : IntKind.i64.wrap ((k : Int) + 1) = (k : Int) + 1 := IntWalk.i64_in _ (by omega)
    by_cases hlt : k < n
    · have hlt' : (k : Int) < (n : Int) := by omega
      obtain ⟨q, hj⟩ := hI.out
      obtain ⟨cg2, cb2⟩ := hR _ _ _ hj
      have qf2 := qf.out k hlt q wr hj hgo hsz
      have hu1 : ((k + 1 : Nat) : Int) = (k : Int) + 1 := by omega
      rw [hu1] at qf2
      simp only [Int.ofNat_zero, Int.natCast_zero] at qf2
      have qf2k := Keep.mk qf2
      clear cg2 qf2
      gi_wp2_with (first
        | (refine ⟨trivial, rfl, ?_⟩; gi_at_call 89; refine (qf2k.out).mono ?_; rintro e w6 ⟨hs6, hq6, h6⟩
           obtain ⟨z, rfl, hz⟩ : ∃ z, e = .returned (.bool z) ∧ Keep ((z = true ∧ J q (setsTo n k ++ fillL n (k + 1) (fun _ => false) 0) w6 ∧ Stp.going gs (setsTo n k ++ fillL n (k + 1) (fun _ => false) 0)) ∨ (z = false ∧ Cut gs (setsTo n n) J w6)) := by
             (rcases h6 with ⟨rfl, h7, h8⟩ | ⟨rfl, h7⟩)
             · exact ⟨true, rfl, ⟨.inl ⟨rfl, h7, h8⟩⟩⟩
             · exact ⟨false, rfl, ⟨.inr ⟨rfl, h7⟩⟩⟩
           have hk6 := Keep.mk hs6; clear hs6 hq6 h6))
      all_goals rename_i hzz
      all_goals rcases hz.out with ⟨rfl, h7, h8⟩ | ⟨rfl, h7⟩
      all_goals first
        | (exfalso; revert hzz; decide)
        | (refine ⟨⟨k + 1, by omega, by go_num, ⟨q, ?_⟩, ?_, Nat.le_trans hsz hk6.out⟩, by simp [intOf]; omega⟩
           · rw [setsTo_succ]; exact h7
           · rw [setsTo_succ]; exact h8)
        | (refine bodyPost_ret (results_none rfl _ _ _) rfl ?_
           obtain ⟨q', p, x, post, h1, h2, h3, h4⟩ := h7
           exact ⟨⟨_, rfl⟩, ⟨q', p ++ [x], h4, .inr ⟨p, x, post, h1, rfl, h2, h3⟩⟩, Nat.le_trans hsz hk6.out⟩)
    · have hlt' : ¬ (k : Int) < (n : Int) := by omega
      obtain rfl : k = n := by omega
      gi_wp2
      go_end0
      obtain ⟨q, hj⟩ := hI.out
      exact ⟨⟨_, rfl⟩, ⟨q, _, hj, .inl ⟨rfl, hgo⟩⟩, hsz⟩
set_option maxRecDepth 100000 in
theorem sets_any {b : Nat} (w : World) : Calls Try.prog 73 #[.pointer (some ⟨b, 0, none⟩)] w fun e w' => e = .returned (.func (.func 88) #[] #[.pointer (some ⟨w.heap.size, 0, none⟩)]) ∧ w' = w.alloc (.cells #[.pointer (some ⟨b, 0, none⟩)] 77) := by
  go_enter Try.func73, Try.ntmps73
  go_wp2
  go_ret
  exact ⟨rfl, rfl⟩
end Go.Proofs.Yteekigpdiklppaa
