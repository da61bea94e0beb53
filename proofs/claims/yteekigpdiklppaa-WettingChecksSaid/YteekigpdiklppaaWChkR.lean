import Derived.Test.YteekigpdiklppaaWChk
set_option linter.unusedSimpArgs false
set_option linter.unusedVariables false
namespace Go.Proofs.Yteekigpdiklppaa
open Go Go.Proofs Go.RowKit Go.Seq
attribute [local go_sem] Oper.semAt_some
theorem num_one {D : Nat → Bool} {c : Nat} (hc : c < 12) : num D = 2 ^ c ↔ onlyOf D = (c : Int) := by
  have h1 : num (adds (fun _ => false) c) = 2 ^ c := by
    rw [← num_or _ c hc, num_zero]; simp
  rw [← h1]
  constructor
  · intro h
    have he := num_inj h
    refine onlyOf_one hc ?_ (fun j hj hd => ?_)
    · rw [he c hc]; simp [adds]
    · rw [he j hj] at hd
      by_cases e : j = c
      · exact e
      · simp [adds, e] at hd
  · intro h
    obtain ⟨_, h2, h3⟩ := onlyOf_some h
    refine num_ext fun j hj => ?_
    unfold adds
    by_cases e : j = c
    · subst e; simp [h2]
    · simp only [e, if_false]
      cases hd : D j with
      | false => rfl
      | true => exact absurd (h3 j hj hd) e
def chrV (r : Option (Nat → Bool)) : Value := match r with
  | some s => .tuple #[.int .i64 (num s : Nat), .bool true]
  | none => .tuple #[.int .i64 0, .bool false]
set_option maxHeartbeats 8000000 in
set_option maxRecDepth 100000 in
theorem refChron_any {N G n0 : Nat} {E cs : Pts} {s : Nat → Bool} {v : Value} {w : World} (hN : N ≤ 12) (hn0 : num s = n0) (hG : NumsAt w G N 3 (nearOf E)) (hv : PairsOf w v cs) (hl : cs.length ≤ 200) :
    Calls Try.prog 46 #[.slice (some ⟨G, 0, none⟩) N N, .int .i64 (n0 : Nat), v] w fun e w' => e = .returned (chrV (chrT N (adjOf E) s cs)) ∧ ∃ q, w' = w.drewN q := by
  have hmx : Try.prog.follows .mixedOrders = true := by kernel_rfl
  obtain ⟨A, cap, rfl, hc⟩ := hv
  have hck := Keep.mk hc
  have hGk := Keep.mk hG
  obtain ⟨m, hm⟩ : ∃ m, Keep (cs.length = m) := ⟨_, ⟨rfl⟩⟩
  rw [hm.out] at hl hck ⊢
  have hn0k := Keep.mk hn0
  clear hc hG hn0
  go_enter Try.func46, Try.ntmps46
  go_wp2
  go_loopw [8, 1] (fun i sv wr => (∃ k : Nat, k ≤ m ∧ i = .int .i64 k ∧ ∃ sk n, sv = .int .i64 (n : Nat) ∧ Keep (num sk = n) ∧ Keep (chrT N (adjOf E) s cs = chrT N (adjOf E) sk (cs.drop k))) ∧ ∃ nn, wr = w.drewN nn) (fun i _ _ => m - (intOf i).toNat)
  case atStart => exact ⟨⟨0, by omega, rfl, s, n0, rfl, hn0k, ⟨by rw [List.drop_zero]⟩⟩, 0, rfl⟩
  case round =>
    obtain ⟨⟨k, hk, rfl, sk, n, rfl, hn, hck2⟩, nn, rfl⟩ := hrel
    have hw1 : IntKind.i64.wrap ((k : Int) + 1) = (k : Int) + 1 := IntWalk.i64_in _ (by omega)
    by_cases hlt : k < m
    · have hlt' : (k : Int) < (m : Int) := by omega
      have nk : ¬ (k : Int) < 0 := by omega
      obtain ⟨g, rfl, c0, c1⟩ := hck.out k hlt
      have hdrop := dropp (ps := cs) (k := k) (by rw [hm.out]; exact hlt)
      obtain ⟨p, hp⟩ : ∃ p, cs.getD k (0, 0) = p := ⟨_, rfl⟩
      rw [hp] at c0 c1 hdrop
      obtain ⟨x, y⟩ := p
      simp only at c0 c1
      clear hp
      go_wp2
      refine (wpIn_wide (n := 0)).1 ?_
      refine Many.region_many (Cq (w.drewN nn)) hmx (by kernel_rfl) (fun s s' W' h hc => hc) (fun s hs => ⟨1, rfl⟩) ?_
      refine Many.lex_want (by rfl) (rd (v := .slice (some ⟨g, 0, none⟩) m cap) (fun q => by (go_simp; (try rfl); (try (intro hneg; omega))))) ?_
      simp only [Act.put, List.setIfInBounds_toArray, List.set_cons_succ, List.set_cons_zero, Nat.reduceAdd]
      refine Many.lex_want (by rfl) (rd (v := .int .i64 k) (fun q => by (go_simp; (try rfl); (try (intro hneg; omega))))) ?_
      simp only [Act.put, List.setIfInBounds_toArray, List.set_cons_succ, List.set_cons_zero, Nat.reduceAdd]
      refine Many.lex_want (by rfl) (rd (v := .pointer (some ⟨g, k * 2, none⟩)) (fun q => by (go_simp; (try rfl); (try (intro hneg; omega))))) ?_
      simp only [Act.put, List.setIfInBounds_toArray, List.set_cons_succ, List.set_cons_zero, Nat.reduceAdd]
      refine Many.lex_want (by rfl) (rd (v := .pointer (some ⟨g, k * 2, none⟩)) (fun q => by (go_simp; (try rfl); (try (intro hneg; omega))))) ?_
      simp only [Act.put, List.setIfInBounds_toArray, List.set_cons_succ, List.set_cons_zero, Nat.reduceAdd]
      refine Many.lex_want (by rfl) (rd (v := .int .i64 x) (fun q => by (go_simp; (try rfl); (try (intro hneg; omega))))) ?_
      simp only [Act.put, List.setIfInBounds_toArray, List.set_cons_succ, List.set_cons_zero, Nat.reduceAdd]
      refine Many.lex_want (by rfl) (rd (v := .slice (some ⟨g, 0, none⟩) m cap) (fun q => by (go_simp; (try rfl); (try (intro hneg; omega))))) ?_
      simp only [Act.put, List.setIfInBounds_toArray, List.set_cons_succ, List.set_cons_zero, Nat.reduceAdd]
      refine Many.lex_want (by rfl) (rd (v := .int .i64 k) (fun q => by (go_simp; (try rfl); (try (intro hneg; omega))))) ?_
      simp only [Act.put, List.setIfInBounds_toArray, List.set_cons_succ, List.set_cons_zero, Nat.reduceAdd]
      refine Many.lex_want (by rfl) (rd (v := .pointer (some ⟨g, k * 2, none⟩)) (fun q => by (go_simp; (try rfl); (try (intro hneg; omega))))) ?_
      simp only [Act.put, List.setIfInBounds_toArray, List.set_cons_succ, List.set_cons_zero, Nat.reduceAdd]
      refine Many.lex_want (by rfl) (rd (v := .pointer (some ⟨g, k * 2 + 1, none⟩)) (fun q => by (go_simp; (try rfl); (try (intro hneg; omega))))) ?_
      simp only [Act.put, List.setIfInBounds_toArray, List.set_cons_succ, List.set_cons_zero, Nat.reduceAdd]
      refine Many.lex_want (by rfl) (rd (v := .int .i64 y) (fun q => by (go_simp; (try rfl); (try (intro hneg; omega))))) ?_
      simp only [Act.put, List.setIfInBounds_toArray, List.set_cons_succ, List.set_cons_zero, Nat.reduceAdd]
      refine Many.lex_want (by rfl) (rd (v := .int .i64 x) (fun q => by (go_simp; (try rfl); (try (intro hneg; omega))))) ?_
      simp only [Act.put, List.setIfInBounds_toArray, List.set_cons_succ, List.set_cons_zero, Nat.reduceAdd]
      refine Many.lex_want (by rfl) (rd (v := .int .i64 y) (fun q => by (go_simp; (try rfl); (try (intro hneg; omega))))) ?_
      simp only [Act.put, List.setIfInBounds_toArray, List.set_cons_succ, List.set_cons_zero, Nat.reduceAdd]
      refine Many.lex_nil fun s9 W2 hs9 hS9 => ?_
      obtain ⟨q1, rfl⟩ := hS9
      rw [drewN_add]
      by_cases hx0 : x < 0
      · have hRf : Keep (chrT N (adjOf E) s cs = none) := ⟨by rw [hck2.out, hdrop]; unfold chrT; rw [if_neg (by unfold stepC; rw [decide_eq_false (by simp only; omega)]; simp)]⟩
        clear hck2 hdrop
        go_wp2
        refine (wpIn_wide (n := 0)).1 ?_
        refine Many.region_many (Cq (w.drewN (nn + q1))) hmx (by kernel_rfl) (fun s s' W' h hc => hc) (fun s hs => ⟨1, rfl⟩) ?_
        refine Many.lex_want (by rfl) (rd (v := .int .i64 x) (fun q => by (go_simp; (try rfl); (try (intro hneg; omega))))) ?_
        simp only [Act.put, List.setIfInBounds_toArray, List.set_cons_succ, List.set_cons_zero, Nat.reduceAdd]
        refine Many.lex_want (by rfl) (rd (v := .bool true) (fun q => by (go_simp; (try rfl); (try (intro hneg; omega))))) ?_
        simp only [Act.put, List.setIfInBounds_toArray, List.set_cons_succ, List.set_cons_zero, Nat.reduceAdd]
        refine Many.lex_want (by rfl) (rd (v := .bool true) (fun q => by (go_simp; (try rfl); (try (intro hneg; omega))))) ?_
        simp only [Act.put, List.setIfInBounds_toArray, List.set_cons_succ, List.set_cons_zero, Nat.reduceAdd]
        refine lex_skip (by rfl) Cq.keep ?_
        simp only [Act.put, List.setIfInBounds_toArray, List.set_cons_succ, List.set_cons_zero, Nat.reduceAdd]
        refine lex_skip (by rfl) Cq.keep ?_
        simp only [Act.put, List.setIfInBounds_toArray, List.set_cons_succ, List.set_cons_zero, Nat.reduceAdd]
        refine lex_skip (by rfl) Cq.keep ?_
        simp only [Act.put, List.setIfInBounds_toArray, List.set_cons_succ, List.set_cons_zero, Nat.reduceAdd]
        refine lex_skip (by rfl) Cq.keep ?_
        simp only [Act.put, List.setIfInBounds_toArray, List.set_cons_succ, List.set_cons_zero, Nat.reduceAdd]
        refine Many.lex_want (by rfl) (rd (v := .bool true) (fun q => by (go_simp; (try rfl); (try (intro hneg; omega))))) ?_
        simp only [Act.put, List.setIfInBounds_toArray, List.set_cons_succ, List.set_cons_zero, Nat.reduceAdd]
        refine Many.lex_want (by rfl) (rd (v := .bool true) (fun q => by (go_simp; (try rfl); (try (intro hneg; omega))))) ?_
        simp only [Act.put, List.setIfInBounds_toArray, List.set_cons_succ, List.set_cons_zero, Nat.reduceAdd]
        refine lex_skip (by rfl) Cq.keep ?_
        simp only [Act.put, List.setIfInBounds_toArray, List.set_cons_succ, List.set_cons_zero, Nat.reduceAdd]
        refine lex_skip (by rfl) Cq.keep ?_
        simp only [Act.put, List.setIfInBounds_toArray, List.set_cons_succ, List.set_cons_zero, Nat.reduceAdd]
        refine Many.lex_want (by rfl) (rd (v := .bool true) (fun q => by (go_simp; (try rfl); (try (intro hneg; omega))))) ?_
        simp only [Act.put, List.setIfInBounds_toArray, List.set_cons_succ, List.set_cons_zero, Nat.reduceAdd]
        refine Many.lex_want (by rfl) (rd (v := .bool true) (fun q => by (go_simp; (try rfl); (try (intro hneg; omega))))) ?_
        simp only [Act.put, List.setIfInBounds_toArray, List.set_cons_succ, List.set_cons_zero, Nat.reduceAdd]
        refine lex_skip (by rfl) Cq.keep ?_
        simp only [Act.put, List.setIfInBounds_toArray, List.set_cons_succ, List.set_cons_zero, Nat.reduceAdd]
        refine lex_skip (by rfl) Cq.keep ?_
        simp only [Act.put, List.setIfInBounds_toArray, List.set_cons_succ, List.set_cons_zero, Nat.reduceAdd]
        refine lex_skip (by rfl) Cq.keep ?_
        simp only [Act.put, List.setIfInBounds_toArray, List.set_cons_succ, List.set_cons_zero, Nat.reduceAdd]
        refine lex_skip (by rfl) Cq.keep ?_
        simp only [Act.put, List.setIfInBounds_toArray, List.set_cons_succ, List.set_cons_zero, Nat.reduceAdd]
        refine Many.lex_want (by rfl) (rd (v := .bool true) (fun q => by (go_simp; (try rfl); (try (intro hneg; omega))))) ?_
        simp only [Act.put, List.setIfInBounds_toArray, List.set_cons_succ, List.set_cons_zero, Nat.reduceAdd]
        refine Many.lex_want (by rfl) (rd (v := .bool true) (fun q => by (go_simp; (try rfl); (try (intro hneg; omega))))) ?_
        simp only [Act.put, List.setIfInBounds_toArray, List.set_cons_succ, List.set_cons_zero, Nat.reduceAdd]
        refine lex_skip (by rfl) Cq.keep ?_
        simp only [Act.put, List.setIfInBounds_toArray, List.set_cons_succ, List.set_cons_zero, Nat.reduceAdd]
        refine lex_skip (by rfl) Cq.keep ?_
        simp only [Act.put, List.setIfInBounds_toArray, List.set_cons_succ, List.set_cons_zero, Nat.reduceAdd]
        refine lex_skip (by rfl) Cq.keep ?_
        simp only [Act.put, List.setIfInBounds_toArray, List.set_cons_succ, List.set_cons_zero, Nat.reduceAdd]
        refine lex_skip (by rfl) Cq.keep ?_
        simp only [Act.put, List.setIfInBounds_toArray, List.set_cons_succ, List.set_cons_zero, Nat.reduceAdd]
        refine lex_skip (by rfl) Cq.keep ?_
        simp only [Act.put, List.setIfInBounds_toArray, List.set_cons_succ, List.set_cons_zero, Nat.reduceAdd]
        refine Many.lex_want (by rfl) (rd (v := .bool true) (fun q => by (go_simp; (try rfl); (try (intro hneg; omega))))) ?_
        simp only [Act.put, List.setIfInBounds_toArray, List.set_cons_succ, List.set_cons_zero, Nat.reduceAdd]
        refine Many.lex_want (by rfl) (rd (v := .bool true) (fun q => by (go_simp; (try rfl); (try (intro hneg; omega))))) ?_
        simp only [Act.put, List.setIfInBounds_toArray, List.set_cons_succ, List.set_cons_zero, Nat.reduceAdd]
        refine lex_skip (by rfl) Cq.keep ?_
        simp only [Act.put, List.setIfInBounds_toArray, List.set_cons_succ, List.set_cons_zero, Nat.reduceAdd]
        refine lex_skip (by rfl) Cq.keep ?_
        simp only [Act.put, List.setIfInBounds_toArray, List.set_cons_succ, List.set_cons_zero, Nat.reduceAdd]
        refine lex_skip (by rfl) Cq.keep ?_
        simp only [Act.put, List.setIfInBounds_toArray, List.set_cons_succ, List.set_cons_zero, Nat.reduceAdd]
        refine lex_skip (by rfl) Cq.keep ?_
        simp only [Act.put, List.setIfInBounds_toArray, List.set_cons_succ, List.set_cons_zero, Nat.reduceAdd]
        refine lex_skip (by rfl) Cq.keep ?_
        simp only [Act.put, List.setIfInBounds_toArray, List.set_cons_succ, List.set_cons_zero, Nat.reduceAdd]
        refine lex_skip (by rfl) Cq.keep ?_
        simp only [Act.put, List.setIfInBounds_toArray, List.set_cons_succ, List.set_cons_zero, Nat.reduceAdd]
        refine lex_skip (by rfl) Cq.keep ?_
        simp only [Act.put, List.setIfInBounds_toArray, List.set_cons_succ, List.set_cons_zero, Nat.reduceAdd]
        refine lex_skip (by rfl) Cq.keep ?_
        simp only [Act.put, List.setIfInBounds_toArray, List.set_cons_succ, List.set_cons_zero, Nat.reduceAdd]
        refine lex_skip (by rfl) Cq.keep ?_
        simp only [Act.put, List.setIfInBounds_toArray, List.set_cons_succ, List.set_cons_zero, Nat.reduceAdd]
        refine Many.lex_want (by rfl) (rd (v := .bool true) (fun q => by (go_simp; (try rfl); (try (intro hneg; omega))))) ?_
        simp only [Act.put, List.setIfInBounds_toArray, List.set_cons_succ, List.set_cons_zero, Nat.reduceAdd]
        refine Many.lex_nil fun s9 W3 hs9 hS9 => ?_
        obtain ⟨q2, rfl⟩ := hS9
        go_wp2
        refine bodyPost_ret (v := .tuple #[.int .i64 0, .bool false]) (by simp [results, Try.results46, go_sem]) rfl ?_
        exact ⟨by rw [hRf.out]; rfl, (nn + q1) + q2, by first | rfl | exact drewN_add _ _ _⟩
      · by_cases hxN : x ≥ (N : Int)
        · have hRf : Keep (chrT N (adjOf E) s cs = none) := ⟨by rw [hck2.out, hdrop]; unfold chrT; rw [if_neg (by unfold stepC; rw [decide_eq_false (by simp only; omega)]; simp)]⟩
          clear hck2 hdrop
          go_wp2
          refine (wpIn_wide (n := 0)).1 ?_
          refine Many.region_many (Cq (w.drewN (nn + q1))) hmx (by kernel_rfl) (fun s s' W' h hc => hc) (fun s hs => ⟨1, rfl⟩) ?_
          refine Many.lex_want (by rfl) (rd (v := .int .i64 x) (fun q => by (go_simp; (try rfl); (try (intro hneg; omega))))) ?_
          simp only [Act.put, List.setIfInBounds_toArray, List.set_cons_succ, List.set_cons_zero, Nat.reduceAdd]
          refine Many.lex_want (by rfl) (rd (v := .bool false) (fun q => by (go_simp; (try rfl); (try (intro hneg; omega))))) ?_
          simp only [Act.put, List.setIfInBounds_toArray, List.set_cons_succ, List.set_cons_zero, Nat.reduceAdd]
          refine Many.lex_want (by rfl) (rd (v := .bool false) (fun q => by (go_simp; (try rfl); (try (intro hneg; omega))))) ?_
          simp only [Act.put, List.setIfInBounds_toArray, List.set_cons_succ, List.set_cons_zero, Nat.reduceAdd]
          refine Many.lex_want (by rfl) (rd (v := .int .i64 x) (fun q => by (go_simp; (try rfl); (try (intro hneg; omega))))) ?_
          simp only [Act.put, List.setIfInBounds_toArray, List.set_cons_succ, List.set_cons_zero, Nat.reduceAdd]
          refine Many.lex_want (by rfl) (rd (v := .slice (some ⟨G, 0, none⟩) N N) (fun q => by (go_simp; (try rfl); (try (intro hneg; omega))))) ?_
          simp only [Act.put, List.setIfInBounds_toArray, List.set_cons_succ, List.set_cons_zero, Nat.reduceAdd]
          refine Many.lex_want (by rfl) (rd (v := .int .i64 N) (fun q => by (go_simp; (try rfl); (try (intro hneg; omega))))) ?_
          simp only [Act.put, List.setIfInBounds_toArray, List.set_cons_succ, List.set_cons_zero, Nat.reduceAdd]
          refine Many.lex_want (by rfl) (rd (v := .bool true) (fun q => by (go_simp; (try rfl); (try (intro hneg; omega))))) ?_
          simp only [Act.put, List.setIfInBounds_toArray, List.set_cons_succ, List.set_cons_zero, Nat.reduceAdd]
          refine Many.lex_want (by rfl) (rd (v := .bool true) (fun q => by (go_simp; (try rfl); (try (intro hneg; omega))))) ?_
          simp only [Act.put, List.setIfInBounds_toArray, List.set_cons_succ, List.set_cons_zero, Nat.reduceAdd]
          refine Many.lex_want (by rfl) (rd (v := .bool true) (fun q => by (go_simp; (try rfl); (try (intro hneg; omega))))) ?_
          simp only [Act.put, List.setIfInBounds_toArray, List.set_cons_succ, List.set_cons_zero, Nat.reduceAdd]
          refine lex_skip (by rfl) Cq.keep ?_
          simp only [Act.put, List.setIfInBounds_toArray, List.set_cons_succ, List.set_cons_zero, Nat.reduceAdd]
          refine lex_skip (by rfl) Cq.keep ?_
          simp only [Act.put, List.setIfInBounds_toArray, List.set_cons_succ, List.set_cons_zero, Nat.reduceAdd]
          refine Many.lex_want (by rfl) (rd (v := .bool true) (fun q => by (go_simp; (try rfl); (try (intro hneg; omega))))) ?_
          simp only [Act.put, List.setIfInBounds_toArray, List.set_cons_succ, List.set_cons_zero, Nat.reduceAdd]
          refine Many.lex_want (by rfl) (rd (v := .bool true) (fun q => by (go_simp; (try rfl); (try (intro hneg; omega))))) ?_
          simp only [Act.put, List.setIfInBounds_toArray, List.set_cons_succ, List.set_cons_zero, Nat.reduceAdd]
          refine lex_skip (by rfl) Cq.keep ?_
          simp only [Act.put, List.setIfInBounds_toArray, List.set_cons_succ, List.set_cons_zero, Nat.reduceAdd]
          refine lex_skip (by rfl) Cq.keep ?_
          simp only [Act.put, List.setIfInBounds_toArray, List.set_cons_succ, List.set_cons_zero, Nat.reduceAdd]
          refine lex_skip (by rfl) Cq.keep ?_
          simp only [Act.put, List.setIfInBounds_toArray, List.set_cons_succ, List.set_cons_zero, Nat.reduceAdd]
          refine lex_skip (by rfl) Cq.keep ?_
          simp only [Act.put, List.setIfInBounds_toArray, List.set_cons_succ, List.set_cons_zero, Nat.reduceAdd]
          refine Many.lex_want (by rfl) (rd (v := .bool true) (fun q => by (go_simp; (try rfl); (try (intro hneg; omega))))) ?_
          simp only [Act.put, List.setIfInBounds_toArray, List.set_cons_succ, List.set_cons_zero, Nat.reduceAdd]
          refine Many.lex_want (by rfl) (rd (v := .bool true) (fun q => by (go_simp; (try rfl); (try (intro hneg; omega))))) ?_
          simp only [Act.put, List.setIfInBounds_toArray, List.set_cons_succ, List.set_cons_zero, Nat.reduceAdd]
          refine lex_skip (by rfl) Cq.keep ?_
          simp only [Act.put, List.setIfInBounds_toArray, List.set_cons_succ, List.set_cons_zero, Nat.reduceAdd]
          refine lex_skip (by rfl) Cq.keep ?_
          simp only [Act.put, List.setIfInBounds_toArray, List.set_cons_succ, List.set_cons_zero, Nat.reduceAdd]
          refine lex_skip (by rfl) Cq.keep ?_
          simp only [Act.put, List.setIfInBounds_toArray, List.set_cons_succ, List.set_cons_zero, Nat.reduceAdd]
          refine lex_skip (by rfl) Cq.keep ?_
          simp only [Act.put, List.setIfInBounds_toArray, List.set_cons_succ, List.set_cons_zero, Nat.reduceAdd]
          refine lex_skip (by rfl) Cq.keep ?_
          simp only [Act.put, List.setIfInBounds_toArray, List.set_cons_succ, List.set_cons_zero, Nat.reduceAdd]
          refine Many.lex_want (by rfl) (rd (v := .bool true) (fun q => by (go_simp; (try rfl); (try (intro hneg; omega))))) ?_
          simp only [Act.put, List.setIfInBounds_toArray, List.set_cons_succ, List.set_cons_zero, Nat.reduceAdd]
          refine Many.lex_want (by rfl) (rd (v := .bool true) (fun q => by (go_simp; (try rfl); (try (intro hneg; omega))))) ?_
          simp only [Act.put, List.setIfInBounds_toArray, List.set_cons_succ, List.set_cons_zero, Nat.reduceAdd]
          refine lex_skip (by rfl) Cq.keep ?_
          simp only [Act.put, List.setIfInBounds_toArray, List.set_cons_succ, List.set_cons_zero, Nat.reduceAdd]
          refine lex_skip (by rfl) Cq.keep ?_
          simp only [Act.put, List.setIfInBounds_toArray, List.set_cons_succ, List.set_cons_zero, Nat.reduceAdd]
          refine lex_skip (by rfl) Cq.keep ?_
          simp only [Act.put, List.setIfInBounds_toArray, List.set_cons_succ, List.set_cons_zero, Nat.reduceAdd]
          refine lex_skip (by rfl) Cq.keep ?_
          simp only [Act.put, List.setIfInBounds_toArray, List.set_cons_succ, List.set_cons_zero, Nat.reduceAdd]
          refine lex_skip (by rfl) Cq.keep ?_
          simp only [Act.put, List.setIfInBounds_toArray, List.set_cons_succ, List.set_cons_zero, Nat.reduceAdd]
          refine lex_skip (by rfl) Cq.keep ?_
          simp only [Act.put, List.setIfInBounds_toArray, List.set_cons_succ, List.set_cons_zero, Nat.reduceAdd]
          refine lex_skip (by rfl) Cq.keep ?_
          simp only [Act.put, List.setIfInBounds_toArray, List.set_cons_succ, List.set_cons_zero, Nat.reduceAdd]
          refine lex_skip (by rfl) Cq.keep ?_
          simp only [Act.put, List.setIfInBounds_toArray, List.set_cons_succ, List.set_cons_zero, Nat.reduceAdd]
          refine lex_skip (by rfl) Cq.keep ?_
          simp only [Act.put, List.setIfInBounds_toArray, List.set_cons_succ, List.set_cons_zero, Nat.reduceAdd]
          refine Many.lex_want (by rfl) (rd (v := .bool true) (fun q => by (go_simp; (try rfl); (try (intro hneg; omega))))) ?_
          simp only [Act.put, List.setIfInBounds_toArray, List.set_cons_succ, List.set_cons_zero, Nat.reduceAdd]
          refine Many.lex_nil fun s9 W3 hs9 hS9 => ?_
          obtain ⟨q2, rfl⟩ := hS9
          go_wp2
          refine bodyPost_ret (v := .tuple #[.int .i64 0, .bool false]) (by simp [results, Try.results46, go_sem]) rfl ?_
          exact ⟨by rw [hRf.out]; rfl, (nn + q1) + q2, by first | rfl | exact drewN_add _ _ _⟩
        · obtain ⟨a, ha⟩ : ∃ a : Nat, (a : Int) = x := ⟨x.toNat, by omega⟩
          subst ha
          have haN : a < N := by omega
          by_cases hy0 : y < 0
          · have hRf : Keep (chrT N (adjOf E) s cs = none) := ⟨by rw [hck2.out, hdrop]; unfold chrT; rw [if_neg (by unfold stepC; rw [decide_eq_false (p := 0 ≤ y ∧ y < (N : Int)) (by omega)]; simp)]⟩
            clear hck2 hdrop
            go_wp2
            refine (wpIn_wide (n := 0)).1 ?_
            refine Many.region_many (Cq (w.drewN (nn + q1))) hmx (by kernel_rfl) (fun s s' W' h hc => hc) (fun s hs => ⟨1, rfl⟩) ?_
            refine Many.lex_want (by rfl) (rd (v := .int .i64 a) (fun q => by (go_simp; (try rfl); (try (intro hneg; omega))))) ?_
            simp only [Act.put, List.setIfInBounds_toArray, List.set_cons_succ, List.set_cons_zero, Nat.reduceAdd]
            refine Many.lex_want (by rfl) (rd (v := .bool false) (fun q => by (go_simp; (try rfl); (try (intro hneg; omega))))) ?_
            simp only [Act.put, List.setIfInBounds_toArray, List.set_cons_succ, List.set_cons_zero, Nat.reduceAdd]
            refine Many.lex_want (by rfl) (rd (v := .bool false) (fun q => by (go_simp; (try rfl); (try (intro hneg; omega))))) ?_
            simp only [Act.put, List.setIfInBounds_toArray, List.set_cons_succ, List.set_cons_zero, Nat.reduceAdd]
            refine Many.lex_want (by rfl) (rd (v := .int .i64 a) (fun q => by (go_simp; (try rfl); (try (intro hneg; omega))))) ?_
            simp only [Act.put, List.setIfInBounds_toArray, List.set_cons_succ, List.set_cons_zero, Nat.reduceAdd]
            refine Many.lex_want (by rfl) (rd (v := .slice (some ⟨G, 0, none⟩) N N) (fun q => by (go_simp; (try rfl); (try (intro hneg; omega))))) ?_
            simp only [Act.put, List.setIfInBounds_toArray, List.set_cons_succ, List.set_cons_zero, Nat.reduceAdd]
            refine Many.lex_want (by rfl) (rd (v := .int .i64 N) (fun q => by (go_simp; (try rfl); (try (intro hneg; omega))))) ?_
            simp only [Act.put, List.setIfInBounds_toArray, List.set_cons_succ, List.set_cons_zero, Nat.reduceAdd]
            refine Many.lex_want (by rfl) (rd (v := .bool false) (fun q => by (go_simp; (try rfl); (try (intro hneg; omega))))) ?_
            simp only [Act.put, List.setIfInBounds_toArray, List.set_cons_succ, List.set_cons_zero, Nat.reduceAdd]
            refine Many.lex_want (by rfl) (rd (v := .bool false) (fun q => by (go_simp; (try rfl); (try (intro hneg; omega))))) ?_
            simp only [Act.put, List.setIfInBounds_toArray, List.set_cons_succ, List.set_cons_zero, Nat.reduceAdd]
            refine Many.lex_want (by rfl) (rd (v := .bool false) (fun q => by (go_simp; (try rfl); (try (intro hneg; omega))))) ?_
            simp only [Act.put, List.setIfInBounds_toArray, List.set_cons_succ, List.set_cons_zero, Nat.reduceAdd]
            refine Many.lex_want (by rfl) (rd (v := .int .i64 y) (fun q => by (go_simp; (try rfl); (try (intro hneg; omega))))) ?_
            simp only [Act.put, List.setIfInBounds_toArray, List.set_cons_succ, List.set_cons_zero, Nat.reduceAdd]
            refine Many.lex_want (by rfl) (rd (v := .bool true) (fun q => by (go_simp; (try rfl); (try (intro hneg; omega))))) ?_
            simp only [Act.put, List.setIfInBounds_toArray, List.set_cons_succ, List.set_cons_zero, Nat.reduceAdd]
            refine Many.lex_want (by rfl) (rd (v := .bool true) (fun q => by (go_simp; (try rfl); (try (intro hneg; omega))))) ?_
            simp only [Act.put, List.setIfInBounds_toArray, List.set_cons_succ, List.set_cons_zero, Nat.reduceAdd]
            refine Many.lex_want (by rfl) (rd (v := .bool true) (fun q => by (go_simp; (try rfl); (try (intro hneg; omega))))) ?_
            simp only [Act.put, List.setIfInBounds_toArray, List.set_cons_succ, List.set_cons_zero, Nat.reduceAdd]
            refine lex_skip (by rfl) Cq.keep ?_
            simp only [Act.put, List.setIfInBounds_toArray, List.set_cons_succ, List.set_cons_zero, Nat.reduceAdd]
            refine lex_skip (by rfl) Cq.keep ?_
            simp only [Act.put, List.setIfInBounds_toArray, List.set_cons_succ, List.set_cons_zero, Nat.reduceAdd]
            refine lex_skip (by rfl) Cq.keep ?_
            simp only [Act.put, List.setIfInBounds_toArray, List.set_cons_succ, List.set_cons_zero, Nat.reduceAdd]
            refine lex_skip (by rfl) Cq.keep ?_
            simp only [Act.put, List.setIfInBounds_toArray, List.set_cons_succ, List.set_cons_zero, Nat.reduceAdd]
            refine Many.lex_want (by rfl) (rd (v := .bool true) (fun q => by (go_simp; (try rfl); (try (intro hneg; omega))))) ?_
            simp only [Act.put, List.setIfInBounds_toArray, List.set_cons_succ, List.set_cons_zero, Nat.reduceAdd]
            refine Many.lex_want (by rfl) (rd (v := .bool true) (fun q => by (go_simp; (try rfl); (try (intro hneg; omega))))) ?_
            simp only [Act.put, List.setIfInBounds_toArray, List.set_cons_succ, List.set_cons_zero, Nat.reduceAdd]
            refine lex_skip (by rfl) Cq.keep ?_
            simp only [Act.put, List.setIfInBounds_toArray, List.set_cons_succ, List.set_cons_zero, Nat.reduceAdd]
            refine lex_skip (by rfl) Cq.keep ?_
            simp only [Act.put, List.setIfInBounds_toArray, List.set_cons_succ, List.set_cons_zero, Nat.reduceAdd]
            refine lex_skip (by rfl) Cq.keep ?_
            simp only [Act.put, List.setIfInBounds_toArray, List.set_cons_succ, List.set_cons_zero, Nat.reduceAdd]
            refine lex_skip (by rfl) Cq.keep ?_
            simp only [Act.put, List.setIfInBounds_toArray, List.set_cons_succ, List.set_cons_zero, Nat.reduceAdd]
            refine lex_skip (by rfl) Cq.keep ?_
            simp only [Act.put, List.setIfInBounds_toArray, List.set_cons_succ, List.set_cons_zero, Nat.reduceAdd]
            refine Many.lex_want (by rfl) (rd (v := .bool true) (fun q => by (go_simp; (try rfl); (try (intro hneg; omega))))) ?_
            simp only [Act.put, List.setIfInBounds_toArray, List.set_cons_succ, List.set_cons_zero, Nat.reduceAdd]
            refine Many.lex_want (by rfl) (rd (v := .bool true) (fun q => by (go_simp; (try rfl); (try (intro hneg; omega))))) ?_
            simp only [Act.put, List.setIfInBounds_toArray, List.set_cons_succ, List.set_cons_zero, Nat.reduceAdd]
            refine lex_skip (by rfl) Cq.keep ?_
            simp only [Act.put, List.setIfInBounds_toArray, List.set_cons_succ, List.set_cons_zero, Nat.reduceAdd]
            refine lex_skip (by rfl) Cq.keep ?_
            simp only [Act.put, List.setIfInBounds_toArray, List.set_cons_succ, List.set_cons_zero, Nat.reduceAdd]
            refine lex_skip (by rfl) Cq.keep ?_
            simp only [Act.put, List.setIfInBounds_toArray, List.set_cons_succ, List.set_cons_zero, Nat.reduceAdd]
            refine lex_skip (by rfl) Cq.keep ?_
            simp only [Act.put, List.setIfInBounds_toArray, List.set_cons_succ, List.set_cons_zero, Nat.reduceAdd]
            refine lex_skip (by rfl) Cq.keep ?_
            simp only [Act.put, List.setIfInBounds_toArray, List.set_cons_succ, List.set_cons_zero, Nat.reduceAdd]
            refine lex_skip (by rfl) Cq.keep ?_
            simp only [Act.put, List.setIfInBounds_toArray, List.set_cons_succ, List.set_cons_zero, Nat.reduceAdd]
            refine lex_skip (by rfl) Cq.keep ?_
            simp only [Act.put, List.setIfInBounds_toArray, List.set_cons_succ, List.set_cons_zero, Nat.reduceAdd]
            refine lex_skip (by rfl) Cq.keep ?_
            simp only [Act.put, List.setIfInBounds_toArray, List.set_cons_succ, List.set_cons_zero, Nat.reduceAdd]
            refine lex_skip (by rfl) Cq.keep ?_
            simp only [Act.put, List.setIfInBounds_toArray, List.set_cons_succ, List.set_cons_zero, Nat.reduceAdd]
            refine Many.lex_want (by rfl) (rd (v := .bool true) (fun q => by (go_simp; (try rfl); (try (intro hneg; omega))))) ?_
            simp only [Act.put, List.setIfInBounds_toArray, List.set_cons_succ, List.set_cons_zero, Nat.reduceAdd]
            refine Many.lex_nil fun s9 W3 hs9 hS9 => ?_
            obtain ⟨q2, rfl⟩ := hS9
            go_wp2
            refine bodyPost_ret (v := .tuple #[.int .i64 0, .bool false]) (by simp [results, Try.results46, go_sem]) rfl ?_
            exact ⟨by rw [hRf.out]; rfl, (nn + q1) + q2, by first | rfl | exact drewN_add _ _ _⟩
          · by_cases hyN : y ≥ (N : Int)
            · have hRf : Keep (chrT N (adjOf E) s cs = none) := ⟨by rw [hck2.out, hdrop]; unfold chrT; rw [if_neg (by unfold stepC; rw [decide_eq_false (p := 0 ≤ y ∧ y < (N : Int)) (by omega)]; simp)]⟩
              clear hck2 hdrop
              go_wp2
              refine (wpIn_wide (n := 0)).1 ?_
              refine Many.region_many (Cq (w.drewN (nn + q1))) hmx (by kernel_rfl) (fun s s' W' h hc => hc) (fun s hs => ⟨1, rfl⟩) ?_
              refine Many.lex_want (by rfl) (rd (v := .int .i64 a) (fun q => by (go_simp; (try rfl); (try (intro hneg; omega))))) ?_
              simp only [Act.put, List.setIfInBounds_toArray, List.set_cons_succ, List.set_cons_zero, Nat.reduceAdd]
              refine Many.lex_want (by rfl) (rd (v := .bool false) (fun q => by (go_simp; (try rfl); (try (intro hneg; omega))))) ?_
              simp only [Act.put, List.setIfInBounds_toArray, List.set_cons_succ, List.set_cons_zero, Nat.reduceAdd]
              refine Many.lex_want (by rfl) (rd (v := .bool false) (fun q => by (go_simp; (try rfl); (try (intro hneg; omega))))) ?_
              simp only [Act.put, List.setIfInBounds_toArray, List.set_cons_succ, List.set_cons_zero, Nat.reduceAdd]
              refine Many.lex_want (by rfl) (rd (v := .int .i64 a) (fun q => by (go_simp; (try rfl); (try (intro hneg; omega))))) ?_
              simp only [Act.put, List.setIfInBounds_toArray, List.set_cons_succ, List.set_cons_zero, Nat.reduceAdd]
              refine Many.lex_want (by rfl) (rd (v := .slice (some ⟨G, 0, none⟩) N N) (fun q => by (go_simp; (try rfl); (try (intro hneg; omega))))) ?_
              simp only [Act.put, List.setIfInBounds_toArray, List.set_cons_succ, List.set_cons_zero, Nat.reduceAdd]
              refine Many.lex_want (by rfl) (rd (v := .int .i64 N) (fun q => by (go_simp; (try rfl); (try (intro hneg; omega))))) ?_
              simp only [Act.put, List.setIfInBounds_toArray, List.set_cons_succ, List.set_cons_zero, Nat.reduceAdd]
              refine Many.lex_want (by rfl) (rd (v := .bool false) (fun q => by (go_simp; (try rfl); (try (intro hneg; omega))))) ?_
              simp only [Act.put, List.setIfInBounds_toArray, List.set_cons_succ, List.set_cons_zero, Nat.reduceAdd]
              refine Many.lex_want (by rfl) (rd (v := .bool false) (fun q => by (go_simp; (try rfl); (try (intro hneg; omega))))) ?_
              simp only [Act.put, List.setIfInBounds_toArray, List.set_cons_succ, List.set_cons_zero, Nat.reduceAdd]
              refine Many.lex_want (by rfl) (rd (v := .bool false) (fun q => by (go_simp; (try rfl); (try (intro hneg; omega))))) ?_
              simp only [Act.put, List.setIfInBounds_toArray, List.set_cons_succ, List.set_cons_zero, Nat.reduceAdd]
              refine Many.lex_want (by rfl) (rd (v := .int .i64 y) (fun q => by (go_simp; (try rfl); (try (intro hneg; omega))))) ?_
              simp only [Act.put, List.setIfInBounds_toArray, List.set_cons_succ, List.set_cons_zero, Nat.reduceAdd]
              refine Many.lex_want (by rfl) (rd (v := .bool false) (fun q => by (go_simp; (try rfl); (try (intro hneg; omega))))) ?_
              simp only [Act.put, List.setIfInBounds_toArray, List.set_cons_succ, List.set_cons_zero, Nat.reduceAdd]
              refine Many.lex_want (by rfl) (rd (v := .bool false) (fun q => by (go_simp; (try rfl); (try (intro hneg; omega))))) ?_
              simp only [Act.put, List.setIfInBounds_toArray, List.set_cons_succ, List.set_cons_zero, Nat.reduceAdd]
              refine Many.lex_want (by rfl) (rd (v := .bool false) (fun q => by (go_simp; (try rfl); (try (intro hneg; omega))))) ?_
              simp only [Act.put, List.setIfInBounds_toArray, List.set_cons_succ, List.set_cons_zero, Nat.reduceAdd]
              refine Many.lex_want (by rfl) (rd (v := .int .i64 y) (fun q => by (go_simp; (try rfl); (try (intro hneg; omega))))) ?_
              simp only [Act.put, List.setIfInBounds_toArray, List.set_cons_succ, List.set_cons_zero, Nat.reduceAdd]
              refine Many.lex_want (by rfl) (rd (v := .slice (some ⟨G, 0, none⟩) N N) (fun q => by (go_simp; (try rfl); (try (intro hneg; omega))))) ?_
              simp only [Act.put, List.setIfInBounds_toArray, List.set_cons_succ, List.set_cons_zero, Nat.reduceAdd]
              refine Many.lex_want (by rfl) (rd (v := .int .i64 N) (fun q => by (go_simp; (try rfl); (try (intro hneg; omega))))) ?_
              simp only [Act.put, List.setIfInBounds_toArray, List.set_cons_succ, List.set_cons_zero, Nat.reduceAdd]
              refine Many.lex_want (by rfl) (rd (v := .bool true) (fun q => by (go_simp; (try rfl); (try (intro hneg; omega))))) ?_
              simp only [Act.put, List.setIfInBounds_toArray, List.set_cons_succ, List.set_cons_zero, Nat.reduceAdd]
              refine Many.lex_want (by rfl) (rd (v := .bool true) (fun q => by (go_simp; (try rfl); (try (intro hneg; omega))))) ?_
              simp only [Act.put, List.setIfInBounds_toArray, List.set_cons_succ, List.set_cons_zero, Nat.reduceAdd]
              refine Many.lex_want (by rfl) (rd (v := .bool true) (fun q => by (go_simp; (try rfl); (try (intro hneg; omega))))) ?_
              simp only [Act.put, List.setIfInBounds_toArray, List.set_cons_succ, List.set_cons_zero, Nat.reduceAdd]
              refine lex_skip (by rfl) Cq.keep ?_
              simp only [Act.put, List.setIfInBounds_toArray, List.set_cons_succ, List.set_cons_zero, Nat.reduceAdd]
              refine lex_skip (by rfl) Cq.keep ?_
              simp only [Act.put, List.setIfInBounds_toArray, List.set_cons_succ, List.set_cons_zero, Nat.reduceAdd]
              refine lex_skip (by rfl) Cq.keep ?_
              simp only [Act.put, List.setIfInBounds_toArray, List.set_cons_succ, List.set_cons_zero, Nat.reduceAdd]
              refine lex_skip (by rfl) Cq.keep ?_
              simp only [Act.put, List.setIfInBounds_toArray, List.set_cons_succ, List.set_cons_zero, Nat.reduceAdd]
              refine lex_skip (by rfl) Cq.keep ?_
              simp only [Act.put, List.setIfInBounds_toArray, List.set_cons_succ, List.set_cons_zero, Nat.reduceAdd]
              refine Many.lex_want (by rfl) (rd (v := .bool true) (fun q => by (go_simp; (try rfl); (try (intro hneg; omega))))) ?_
              simp only [Act.put, List.setIfInBounds_toArray, List.set_cons_succ, List.set_cons_zero, Nat.reduceAdd]
              refine Many.lex_want (by rfl) (rd (v := .bool true) (fun q => by (go_simp; (try rfl); (try (intro hneg; omega))))) ?_
              simp only [Act.put, List.setIfInBounds_toArray, List.set_cons_succ, List.set_cons_zero, Nat.reduceAdd]
              refine lex_skip (by rfl) Cq.keep ?_
              simp only [Act.put, List.setIfInBounds_toArray, List.set_cons_succ, List.set_cons_zero, Nat.reduceAdd]
              refine lex_skip (by rfl) Cq.keep ?_
              simp only [Act.put, List.setIfInBounds_toArray, List.set_cons_succ, List.set_cons_zero, Nat.reduceAdd]
              refine lex_skip (by rfl) Cq.keep ?_
              simp only [Act.put, List.setIfInBounds_toArray, List.set_cons_succ, List.set_cons_zero, Nat.reduceAdd]
              refine lex_skip (by rfl) Cq.keep ?_
              simp only [Act.put, List.setIfInBounds_toArray, List.set_cons_succ, List.set_cons_zero, Nat.reduceAdd]
              refine lex_skip (by rfl) Cq.keep ?_
              simp only [Act.put, List.setIfInBounds_toArray, List.set_cons_succ, List.set_cons_zero, Nat.reduceAdd]
              refine lex_skip (by rfl) Cq.keep ?_
              simp only [Act.put, List.setIfInBounds_toArray, List.set_cons_succ, List.set_cons_zero, Nat.reduceAdd]
              refine lex_skip (by rfl) Cq.keep ?_
              simp only [Act.put, List.setIfInBounds_toArray, List.set_cons_succ, List.set_cons_zero, Nat.reduceAdd]
              refine lex_skip (by rfl) Cq.keep ?_
              simp only [Act.put, List.setIfInBounds_toArray, List.set_cons_succ, List.set_cons_zero, Nat.reduceAdd]
              refine lex_skip (by rfl) Cq.keep ?_
              simp only [Act.put, List.setIfInBounds_toArray, List.set_cons_succ, List.set_cons_zero, Nat.reduceAdd]
              refine Many.lex_want (by rfl) (rd (v := .bool true) (fun q => by (go_simp; (try rfl); (try (intro hneg; omega))))) ?_
              simp only [Act.put, List.setIfInBounds_toArray, List.set_cons_succ, List.set_cons_zero, Nat.reduceAdd]
              refine Many.lex_nil fun s9 W3 hs9 hS9 => ?_
              obtain ⟨q2, rfl⟩ := hS9
              go_wp2
              refine bodyPost_ret (v := .tuple #[.int .i64 0, .bool false]) (by simp [results, Try.results46, go_sem]) rfl ?_
              exact ⟨by rw [hRf.out]; rfl, (nn + q1) + q2, by first | rfl | exact drewN_add _ _ _⟩
            · obtain ⟨c, hc⟩ : ∃ c : Nat, (c : Int) = y := ⟨y.toNat, by omega⟩
              subst hc
              have hc12 : c < 12 := by omega
              have hcN : c < N := by omega
              have hstep : stepC N (adjOf E) sk ((a : Int), (c : Int)) = (sk a && decide (onlyOf (fun u => adjOf E a u && !sk u) = (c : Int))) := by
                unfold stepC
                simp only [Int.toNat_natCast]
                rw [decide_eq_true (p := 0 ≤ (a : Int) ∧ (a : Int) < (N : Int)) ⟨by omega, by omega⟩, decide_eq_true (p := 0 ≤ (c : Int) ∧ (c : Int) < (N : Int)) ⟨by omega, by omega⟩]; simp
              have hnl : n < 4096 := by rw [← hn.out]; exact num_lt sk
              have hsh := shr_i64 n a hnl
              obtain ⟨q, hq⟩ : ∃ q, n / 2 ^ a = q := ⟨_, rfl⟩
              rw [hq] at hsh
              have hb := bit_mod n a
              rw [hq, ← hn.out, num_bit, decide_eq_true (p := a < 12) (by omega), Bool.true_and] at hb
              obtain ⟨p, hp⟩ : ∃ p, q % 2 = p := ⟨_, rfl⟩
              have hp2 : p < 2 := by omega
              have hrem : (q : Int).tmod 2 = (p : Int) := by rw [show (2 : Int) = ((2 : Nat) : Int) from rfl, IntWalk.up_tmod rfl rfl, hp]
              rw [hp] at hb
              cases hsa : sk a with
              | false =>
                have hp0 : p = 0 := by
                  by_cases e : p = 1
                  · rw [hb.1 e] at hsa; cases hsa
                  · omega
                subst hp0
                have hRf : Keep (chrT N (adjOf E) s cs = none) := ⟨by rw [hck2.out, hdrop]; unfold chrT; rw [if_neg (by rw [hstep, hsa]; simp)]⟩
                clear hstep hsa hb hp hp2 hq
                clear hck2 hdrop
                go_wp2
                refine (wpIn_wide (n := 0)).1 ?_
                refine Many.region_many (Cq (w.drewN (nn + q1))) hmx (by kernel_rfl) (fun s s' W' h hc => hc) (fun s hs => ⟨1, rfl⟩) ?_
                refine Many.lex_want (by rfl) (rd (v := .int .i64 a) (fun q => by (go_simp; (try rfl); (try (intro hneg; omega))))) ?_
                simp only [Act.put, List.setIfInBounds_toArray, List.set_cons_succ, List.set_cons_zero, Nat.reduceAdd]
                refine Many.lex_want (by rfl) (rd (v := .bool false) (fun q => by (go_simp; (try rfl); (try (intro hneg; omega))))) ?_
                simp only [Act.put, List.setIfInBounds_toArray, List.set_cons_succ, List.set_cons_zero, Nat.reduceAdd]
                refine Many.lex_want (by rfl) (rd (v := .bool false) (fun q => by (go_simp; (try rfl); (try (intro hneg; omega))))) ?_
                simp only [Act.put, List.setIfInBounds_toArray, List.set_cons_succ, List.set_cons_zero, Nat.reduceAdd]
                refine Many.lex_want (by rfl) (rd (v := .int .i64 a) (fun q => by (go_simp; (try rfl); (try (intro hneg; omega))))) ?_
                simp only [Act.put, List.setIfInBounds_toArray, List.set_cons_succ, List.set_cons_zero, Nat.reduceAdd]
                refine Many.lex_want (by rfl) (rd (v := .slice (some ⟨G, 0, none⟩) N N) (fun q => by (go_simp; (try rfl); (try (intro hneg; omega))))) ?_
                simp only [Act.put, List.setIfInBounds_toArray, List.set_cons_succ, List.set_cons_zero, Nat.reduceAdd]
                refine Many.lex_want (by rfl) (rd (v := .int .i64 N) (fun q => by (go_simp; (try rfl); (try (intro hneg; omega))))) ?_
                simp only [Act.put, List.setIfInBounds_toArray, List.set_cons_succ, List.set_cons_zero, Nat.reduceAdd]
                refine Many.lex_want (by rfl) (rd (v := .bool false) (fun q => by (go_simp; (try rfl); (try (intro hneg; omega))))) ?_
                simp only [Act.put, List.setIfInBounds_toArray, List.set_cons_succ, List.set_cons_zero, Nat.reduceAdd]
                refine Many.lex_want (by rfl) (rd (v := .bool false) (fun q => by (go_simp; (try rfl); (try (intro hneg; omega))))) ?_
                simp only [Act.put, List.setIfInBounds_toArray, List.set_cons_succ, List.set_cons_zero, Nat.reduceAdd]
                refine Many.lex_want (by rfl) (rd (v := .bool false) (fun q => by (go_simp; (try rfl); (try (intro hneg; omega))))) ?_
                simp only [Act.put, List.setIfInBounds_toArray, List.set_cons_succ, List.set_cons_zero, Nat.reduceAdd]
                refine Many.lex_want (by rfl) (rd (v := .int .i64 c) (fun q => by (go_simp; (try rfl); (try (intro hneg; omega))))) ?_
                simp only [Act.put, List.setIfInBounds_toArray, List.set_cons_succ, List.set_cons_zero, Nat.reduceAdd]
                refine Many.lex_want (by rfl) (rd (v := .bool false) (fun q => by (go_simp; (try rfl); (try (intro hneg; omega))))) ?_
                simp only [Act.put, List.setIfInBounds_toArray, List.set_cons_succ, List.set_cons_zero, Nat.reduceAdd]
                refine Many.lex_want (by rfl) (rd (v := .bool false) (fun q => by (go_simp; (try rfl); (try (intro hneg; omega))))) ?_
                simp only [Act.put, List.setIfInBounds_toArray, List.set_cons_succ, List.set_cons_zero, Nat.reduceAdd]
                refine Many.lex_want (by rfl) (rd (v := .bool false) (fun q => by (go_simp; (try rfl); (try (intro hneg; omega))))) ?_
                simp only [Act.put, List.setIfInBounds_toArray, List.set_cons_succ, List.set_cons_zero, Nat.reduceAdd]
                refine Many.lex_want (by rfl) (rd (v := .int .i64 c) (fun q => by (go_simp; (try rfl); (try (intro hneg; omega))))) ?_
                simp only [Act.put, List.setIfInBounds_toArray, List.set_cons_succ, List.set_cons_zero, Nat.reduceAdd]
                refine Many.lex_want (by rfl) (rd (v := .slice (some ⟨G, 0, none⟩) N N) (fun q => by (go_simp; (try rfl); (try (intro hneg; omega))))) ?_
                simp only [Act.put, List.setIfInBounds_toArray, List.set_cons_succ, List.set_cons_zero, Nat.reduceAdd]
                refine Many.lex_want (by rfl) (rd (v := .int .i64 N) (fun q => by (go_simp; (try rfl); (try (intro hneg; omega))))) ?_
                simp only [Act.put, List.setIfInBounds_toArray, List.set_cons_succ, List.set_cons_zero, Nat.reduceAdd]
                refine Many.lex_want (by rfl) (rd (v := .bool false) (fun q => by (go_simp; (try rfl); (try (intro hneg; omega))))) ?_
                simp only [Act.put, List.setIfInBounds_toArray, List.set_cons_succ, List.set_cons_zero, Nat.reduceAdd]
                refine Many.lex_want (by rfl) (rd (v := .bool false) (fun q => by (go_simp; (try rfl); (try (intro hneg; omega))))) ?_
                simp only [Act.put, List.setIfInBounds_toArray, List.set_cons_succ, List.set_cons_zero, Nat.reduceAdd]
                refine Many.lex_want (by rfl) (rd (v := .bool false) (fun q => by (go_simp; (try rfl); (try (intro hneg; omega))))) ?_
                simp only [Act.put, List.setIfInBounds_toArray, List.set_cons_succ, List.set_cons_zero, Nat.reduceAdd]
                refine Many.lex_want (by rfl) (rd (v := .int .i64 n) (fun q => by (go_simp; (try rfl); (try (intro hneg; omega))))) ?_
                simp only [Act.put, List.setIfInBounds_toArray, List.set_cons_succ, List.set_cons_zero, Nat.reduceAdd]
                refine Many.lex_want (by rfl) (rd (v := .int .i64 a) (fun q => by (go_simp; (try rfl); (try (intro hneg; omega))))) ?_
                simp only [Act.put, List.setIfInBounds_toArray, List.set_cons_succ, List.set_cons_zero, Nat.reduceAdd]
                refine Many.lex_want (by rfl) (rd (v := .int .i64 q) (fun q => by (go_simp; (try rfl); (try (intro hneg; omega))))) ?_
                simp only [Act.put, List.setIfInBounds_toArray, List.set_cons_succ, List.set_cons_zero, Nat.reduceAdd]
                refine Many.lex_want (by rfl) (rd (v := .int .i64 (0 : Nat)) (fun q => by (go_simp; (try rfl); (try (intro hneg; omega))))) ?_
                simp only [Act.put, List.setIfInBounds_toArray, List.set_cons_succ, List.set_cons_zero, Nat.reduceAdd]
                refine Many.lex_want (by rfl) (rd (v := .bool true) (fun q => by (go_simp; (try rfl); (try (intro hneg; omega))))) ?_
                simp only [Act.put, List.setIfInBounds_toArray, List.set_cons_succ, List.set_cons_zero, Nat.reduceAdd]
                refine Many.lex_want (by rfl) (rd (v := .bool true) (fun q => by (go_simp; (try rfl); (try (intro hneg; omega))))) ?_
                simp only [Act.put, List.setIfInBounds_toArray, List.set_cons_succ, List.set_cons_zero, Nat.reduceAdd]
                refine Many.lex_want (by rfl) (rd (v := .bool true) (fun q => by (go_simp; (try rfl); (try (intro hneg; omega))))) ?_
                simp only [Act.put, List.setIfInBounds_toArray, List.set_cons_succ, List.set_cons_zero, Nat.reduceAdd]
                refine lex_skip (by rfl) Cq.keep ?_
                simp only [Act.put, List.setIfInBounds_toArray, List.set_cons_succ, List.set_cons_zero, Nat.reduceAdd]
                refine lex_skip (by rfl) Cq.keep ?_
                simp only [Act.put, List.setIfInBounds_toArray, List.set_cons_succ, List.set_cons_zero, Nat.reduceAdd]
                refine lex_skip (by rfl) Cq.keep ?_
                simp only [Act.put, List.setIfInBounds_toArray, List.set_cons_succ, List.set_cons_zero, Nat.reduceAdd]
                refine lex_skip (by rfl) Cq.keep ?_
                simp only [Act.put, List.setIfInBounds_toArray, List.set_cons_succ, List.set_cons_zero, Nat.reduceAdd]
                refine lex_skip (by rfl) Cq.keep ?_
                simp only [Act.put, List.setIfInBounds_toArray, List.set_cons_succ, List.set_cons_zero, Nat.reduceAdd]
                refine lex_skip (by rfl) Cq.keep ?_
                simp only [Act.put, List.setIfInBounds_toArray, List.set_cons_succ, List.set_cons_zero, Nat.reduceAdd]
                refine lex_skip (by rfl) Cq.keep ?_
                simp only [Act.put, List.setIfInBounds_toArray, List.set_cons_succ, List.set_cons_zero, Nat.reduceAdd]
                refine lex_skip (by rfl) Cq.keep ?_
                simp only [Act.put, List.setIfInBounds_toArray, List.set_cons_succ, List.set_cons_zero, Nat.reduceAdd]
                refine lex_skip (by rfl) Cq.keep ?_
                simp only [Act.put, List.setIfInBounds_toArray, List.set_cons_succ, List.set_cons_zero, Nat.reduceAdd]
                refine Many.lex_want (by rfl) (rd (v := .bool true) (fun q => by (go_simp; (try rfl); (try (intro hneg; omega))))) ?_
                simp only [Act.put, List.setIfInBounds_toArray, List.set_cons_succ, List.set_cons_zero, Nat.reduceAdd]
                refine Many.lex_nil fun s9 W3 hs9 hS9 => ?_
                obtain ⟨q2, rfl⟩ := hS9
                go_wp2
                refine bodyPost_ret (v := .tuple #[.int .i64 0, .bool false]) (by simp [results, Try.results46, go_sem]) rfl ?_
                exact ⟨by rw [hRf.out]; rfl, (nn + q1) + q2, by first | rfl | exact drewN_add _ _ _⟩
              | true =>
                have hp1 : p = 1 := hb.2 hsa
                subst hp1
                rw [hsa, Bool.true_and] at hstep
                obtain ⟨P, hP⟩ : ∃ P : Nat, 2 ^ c = P := ⟨_, rfl⟩
                have wP : IntKind.i64.wrap (2 ^ c) = (P : Int) := by rw [← hP]; exact wrap_pow (by omega)
                have lP : P ≤ 4096 := by rw [← hP]; exact pow_lt (by omega)
                obtain ⟨fa, hfa⟩ : ∃ fa, nearOf E a = fa := ⟨_, rfl⟩
                have cG := (hGk.out.cell haN).1
                rw [hfa] at cG
                have hdf := num_diff (adjOf E a) sk
                rw [show num (adjOf E a) = fa from hfa, hn.out] at hdf
                have hone := num_one (D := fun u => adjOf E a u && !sk u) hc12
                rw [hP] at hone
                obtain ⟨dd, hdd⟩ : ∃ dd, num (fun u => adjOf E a u && !sk u) = dd := ⟨_, rfl⟩
                rw [hdd] at hdf hone
                have haG : (a : Int) < (N : Int) := by omega
                have ha0 : ¬ (a : Int) < 0 := by omega
                have hc0 : ¬ (c : Int) < 0 := by omega
                by_cases hd : dd = P
                · have hRf : Keep (chrT N (adjOf E) s cs = chrT N (adjOf E) (adds sk c) (cs.drop (k + 1))) := ⟨by rw [hck2.out, hdrop]; show (if stepC N (adjOf E) sk ((a : Int), (c : Int)) = true then chrT N (adjOf E) (adds sk c) (cs.drop (k + 1)) else none) = _; rw [if_pos (by rw [hstep]; simpa using hone.1 hd)]⟩
                  subst hd
                  have hor : bits .or .i64 (n : Int) (dd : Int) = ((num (adds sk c) : Nat) : Int) := by
                    rw [or_i64 _ _ (by omega) (by omega), ← hn.out, ← hP, num_or _ _ hc12]
                  obtain ⟨n2, hn2⟩ : ∃ n2, num (adds sk c) = n2 := ⟨_, rfl⟩
                  rw [hn2] at hor
                  have hn2k := Keep.mk hn2
                  have hbz : ((dd : Int) != (dd : Int)) = false := by simp
                  clear hstep hsa hb hp hp2 hq hck2 hdrop hone hdd hfa hP hn2
                  go_wp2
                  refine (wpIn_wide (n := 0)).1 ?_
                  refine Many.region_many (Cq (w.drewN (nn + q1))) hmx (by kernel_rfl) (fun s s' W' h hc => hc) (fun s hs => ⟨1, rfl⟩) ?_
                  refine Many.lex_want (by rfl) (rd (v := .int .i64 a) (fun q => by (go_simp; (try rfl); (try (intro hneg; omega))))) ?_
                  simp only [Act.put, List.setIfInBounds_toArray, List.set_cons_succ, List.set_cons_zero, Nat.reduceAdd]
                  refine Many.lex_want (by rfl) (rd (v := .bool false) (fun q => by (go_simp; (try rfl); (try (intro hneg; omega))))) ?_
                  simp only [Act.put, List.setIfInBounds_toArray, List.set_cons_succ, List.set_cons_zero, Nat.reduceAdd]
                  refine Many.lex_want (by rfl) (rd (v := .bool false) (fun q => by (go_simp; (try rfl); (try (intro hneg; omega))))) ?_
                  simp only [Act.put, List.setIfInBounds_toArray, List.set_cons_succ, List.set_cons_zero, Nat.reduceAdd]
                  refine Many.lex_want (by rfl) (rd (v := .int .i64 a) (fun q => by (go_simp; (try rfl); (try (intro hneg; omega))))) ?_
                  simp only [Act.put, List.setIfInBounds_toArray, List.set_cons_succ, List.set_cons_zero, Nat.reduceAdd]
                  refine Many.lex_want (by rfl) (rd (v := .slice (some ⟨G, 0, none⟩) N N) (fun q => by (go_simp; (try rfl); (try (intro hneg; omega))))) ?_
                  simp only [Act.put, List.setIfInBounds_toArray, List.set_cons_succ, List.set_cons_zero, Nat.reduceAdd]
                  refine Many.lex_want (by rfl) (rd (v := .int .i64 N) (fun q => by (go_simp; (try rfl); (try (intro hneg; omega))))) ?_
                  simp only [Act.put, List.setIfInBounds_toArray, List.set_cons_succ, List.set_cons_zero, Nat.reduceAdd]
                  refine Many.lex_want (by rfl) (rd (v := .bool false) (fun q => by (go_simp; (try rfl); (try (intro hneg; omega))))) ?_
                  simp only [Act.put, List.setIfInBounds_toArray, List.set_cons_succ, List.set_cons_zero, Nat.reduceAdd]
                  refine Many.lex_want (by rfl) (rd (v := .bool false) (fun q => by (go_simp; (try rfl); (try (intro hneg; omega))))) ?_
                  simp only [Act.put, List.setIfInBounds_toArray, List.set_cons_succ, List.set_cons_zero, Nat.reduceAdd]
                  refine Many.lex_want (by rfl) (rd (v := .bool false) (fun q => by (go_simp; (try rfl); (try (intro hneg; omega))))) ?_
                  simp only [Act.put, List.setIfInBounds_toArray, List.set_cons_succ, List.set_cons_zero, Nat.reduceAdd]
                  refine Many.lex_want (by rfl) (rd (v := .int .i64 c) (fun q => by (go_simp; (try rfl); (try (intro hneg; omega))))) ?_
                  simp only [Act.put, List.setIfInBounds_toArray, List.set_cons_succ, List.set_cons_zero, Nat.reduceAdd]
                  refine Many.lex_want (by rfl) (rd (v := .bool false) (fun q => by (go_simp; (try rfl); (try (intro hneg; omega))))) ?_
                  simp only [Act.put, List.setIfInBounds_toArray, List.set_cons_succ, List.set_cons_zero, Nat.reduceAdd]
                  refine Many.lex_want (by rfl) (rd (v := .bool false) (fun q => by (go_simp; (try rfl); (try (intro hneg; omega))))) ?_
                  simp only [Act.put, List.setIfInBounds_toArray, List.set_cons_succ, List.set_cons_zero, Nat.reduceAdd]
                  refine Many.lex_want (by rfl) (rd (v := .bool false) (fun q => by (go_simp; (try rfl); (try (intro hneg; omega))))) ?_
                  simp only [Act.put, List.setIfInBounds_toArray, List.set_cons_succ, List.set_cons_zero, Nat.reduceAdd]
                  refine Many.lex_want (by rfl) (rd (v := .int .i64 c) (fun q => by (go_simp; (try rfl); (try (intro hneg; omega))))) ?_
                  simp only [Act.put, List.setIfInBounds_toArray, List.set_cons_succ, List.set_cons_zero, Nat.reduceAdd]
                  refine Many.lex_want (by rfl) (rd (v := .slice (some ⟨G, 0, none⟩) N N) (fun q => by (go_simp; (try rfl); (try (intro hneg; omega))))) ?_
                  simp only [Act.put, List.setIfInBounds_toArray, List.set_cons_succ, List.set_cons_zero, Nat.reduceAdd]
                  refine Many.lex_want (by rfl) (rd (v := .int .i64 N) (fun q => by (go_simp; (try rfl); (try (intro hneg; omega))))) ?_
                  simp only [Act.put, List.setIfInBounds_toArray, List.set_cons_succ, List.set_cons_zero, Nat.reduceAdd]
                  refine Many.lex_want (by rfl) (rd (v := .bool false) (fun q => by (go_simp; (try rfl); (try (intro hneg; omega))))) ?_
                  simp only [Act.put, List.setIfInBounds_toArray, List.set_cons_succ, List.set_cons_zero, Nat.reduceAdd]
                  refine Many.lex_want (by rfl) (rd (v := .bool false) (fun q => by (go_simp; (try rfl); (try (intro hneg; omega))))) ?_
                  simp only [Act.put, List.setIfInBounds_toArray, List.set_cons_succ, List.set_cons_zero, Nat.reduceAdd]
                  refine Many.lex_want (by rfl) (rd (v := .bool false) (fun q => by (go_simp; (try rfl); (try (intro hneg; omega))))) ?_
                  simp only [Act.put, List.setIfInBounds_toArray, List.set_cons_succ, List.set_cons_zero, Nat.reduceAdd]
                  refine Many.lex_want (by rfl) (rd (v := .int .i64 n) (fun q => by (go_simp; (try rfl); (try (intro hneg; omega))))) ?_
                  simp only [Act.put, List.setIfInBounds_toArray, List.set_cons_succ, List.set_cons_zero, Nat.reduceAdd]
                  refine Many.lex_want (by rfl) (rd (v := .int .i64 a) (fun q => by (go_simp; (try rfl); (try (intro hneg; omega))))) ?_
                  simp only [Act.put, List.setIfInBounds_toArray, List.set_cons_succ, List.set_cons_zero, Nat.reduceAdd]
                  refine Many.lex_want (by rfl) (rd (v := .int .i64 q) (fun q => by (go_simp; (try rfl); (try (intro hneg; omega))))) ?_
                  simp only [Act.put, List.setIfInBounds_toArray, List.set_cons_succ, List.set_cons_zero, Nat.reduceAdd]
                  refine Many.lex_want (by rfl) (rd (v := .int .i64 (1 : Nat)) (fun q => by (go_simp; (try rfl); (try (intro hneg; omega))))) ?_
                  simp only [Act.put, List.setIfInBounds_toArray, List.set_cons_succ, List.set_cons_zero, Nat.reduceAdd]
                  refine Many.lex_want (by rfl) (rd (v := .bool false) (fun q => by (go_simp; (try rfl); (try (intro hneg; omega))))) ?_
                  simp only [Act.put, List.setIfInBounds_toArray, List.set_cons_succ, List.set_cons_zero, Nat.reduceAdd]
                  refine Many.lex_want (by rfl) (rd (v := .bool false) (fun q => by (go_simp; (try rfl); (try (intro hneg; omega))))) ?_
                  simp only [Act.put, List.setIfInBounds_toArray, List.set_cons_succ, List.set_cons_zero, Nat.reduceAdd]
                  refine Many.lex_want (by rfl) (rd (v := .bool false) (fun q => by (go_simp; (try rfl); (try (intro hneg; omega))))) ?_
                  simp only [Act.put, List.setIfInBounds_toArray, List.set_cons_succ, List.set_cons_zero, Nat.reduceAdd]
                  refine Many.lex_want (by rfl) (rd (v := .slice (some ⟨G, 0, none⟩) N N) (fun q => by (go_simp; (try rfl); (try (intro hneg; omega))))) ?_
                  simp only [Act.put, List.setIfInBounds_toArray, List.set_cons_succ, List.set_cons_zero, Nat.reduceAdd]
                  refine Many.lex_want (by rfl) (rd (v := .int .i64 a) (fun q => by (go_simp; (try rfl); (try (intro hneg; omega))))) ?_
                  simp only [Act.put, List.setIfInBounds_toArray, List.set_cons_succ, List.set_cons_zero, Nat.reduceAdd]
                  refine Many.lex_want (by rfl) (rd (v := .pointer (some ⟨G, a, none⟩)) (fun q => by (go_simp; (try rfl); (try (intro hneg; omega))))) ?_
                  simp only [Act.put, List.setIfInBounds_toArray, List.set_cons_succ, List.set_cons_zero, Nat.reduceAdd]
                  refine Many.lex_want (by rfl) (rd (v := .int .i64 fa) (fun q => by (go_simp; (try rfl); (try (intro hneg; omega))))) ?_
                  simp only [Act.put, List.setIfInBounds_toArray, List.set_cons_succ, List.set_cons_zero, Nat.reduceAdd]
                  refine Many.lex_want (by rfl) (rd (v := .int .i64 n) (fun q => by (go_simp; (try rfl); (try (intro hneg; omega))))) ?_
                  simp only [Act.put, List.setIfInBounds_toArray, List.set_cons_succ, List.set_cons_zero, Nat.reduceAdd]
                  refine Many.lex_want (by rfl) (rd (v := .int .i64 dd) (fun q => by (go_simp; (try rfl); (try (intro hneg; omega))))) ?_
                  simp only [Act.put, List.setIfInBounds_toArray, List.set_cons_succ, List.set_cons_zero, Nat.reduceAdd]
                  refine Many.lex_want (by rfl) (rd (v := .int .i64 c) (fun q => by (go_simp; (try rfl); (try (intro hneg; omega))))) ?_
                  simp only [Act.put, List.setIfInBounds_toArray, List.set_cons_succ, List.set_cons_zero, Nat.reduceAdd]
                  refine Many.lex_want (by rfl) (rd (v := .int .i64 dd) (fun q => by (go_simp; (try rfl); (try (intro hneg; omega))))) ?_
                  simp only [Act.put, List.setIfInBounds_toArray, List.set_cons_succ, List.set_cons_zero, Nat.reduceAdd]
                  refine Many.lex_want (by rfl) (rd (v := .bool false) (fun q => by (go_simp; (try rfl); (try (intro hneg; omega))))) ?_
                  simp only [Act.put, List.setIfInBounds_toArray, List.set_cons_succ, List.set_cons_zero, Nat.reduceAdd]
                  refine Many.lex_want (by rfl) (rd (v := .bool false) (fun q => by (go_simp; (try rfl); (try (intro hneg; omega))))) ?_
                  simp only [Act.put, List.setIfInBounds_toArray, List.set_cons_succ, List.set_cons_zero, Nat.reduceAdd]
                  refine Many.lex_nil fun s9 W3 hs9 hS9 => ?_
                  obtain ⟨q2, rfl⟩ := hS9
                  go_wp2
                  exact ⟨⟨⟨k + 1, by omega, by go_num, adds sk c, n2, rfl, hn2k, hRf⟩, nn + q1 + q2, by first | rfl | exact drewN_add _ _ _⟩, by simp [intOf]; omega⟩
                · have hbz : ((dd : Int) != (P : Int)) = true := by
                    simp only [bne, Bool.not_eq_true', beq_eq_false_iff_ne]; omega
                  have hRf : Keep (chrT N (adjOf E) s cs = none) := ⟨by rw [hck2.out, hdrop]; unfold chrT; rw [if_neg (by rw [hstep]; simpa using fun h => hd (hone.2 h))]⟩
                  clear hstep hsa hb hp hp2 hq hone hdd hfa hP hd
                  clear hck2 hdrop
                  go_wp2
                  refine (wpIn_wide (n := 0)).1 ?_
                  refine Many.region_many (Cq (w.drewN (nn + q1))) hmx (by kernel_rfl) (fun s s' W' h hc => hc) (fun s hs => ⟨1, rfl⟩) ?_
                  refine Many.lex_want (by rfl) (rd (v := .int .i64 a) (fun q => by (go_simp; (try rfl); (try (intro hneg; omega))))) ?_
                  simp only [Act.put, List.setIfInBounds_toArray, List.set_cons_succ, List.set_cons_zero, Nat.reduceAdd]
                  refine Many.lex_want (by rfl) (rd (v := .bool false) (fun q => by (go_simp; (try rfl); (try (intro hneg; omega))))) ?_
                  simp only [Act.put, List.setIfInBounds_toArray, List.set_cons_succ, List.set_cons_zero, Nat.reduceAdd]
                  refine Many.lex_want (by rfl) (rd (v := .bool false) (fun q => by (go_simp; (try rfl); (try (intro hneg; omega))))) ?_
                  simp only [Act.put, List.setIfInBounds_toArray, List.set_cons_succ, List.set_cons_zero, Nat.reduceAdd]
                  refine Many.lex_want (by rfl) (rd (v := .int .i64 a) (fun q => by (go_simp; (try rfl); (try (intro hneg; omega))))) ?_
                  simp only [Act.put, List.setIfInBounds_toArray, List.set_cons_succ, List.set_cons_zero, Nat.reduceAdd]
                  refine Many.lex_want (by rfl) (rd (v := .slice (some ⟨G, 0, none⟩) N N) (fun q => by (go_simp; (try rfl); (try (intro hneg; omega))))) ?_
                  simp only [Act.put, List.setIfInBounds_toArray, List.set_cons_succ, List.set_cons_zero, Nat.reduceAdd]
                  refine Many.lex_want (by rfl) (rd (v := .int .i64 N) (fun q => by (go_simp; (try rfl); (try (intro hneg; omega))))) ?_
                  simp only [Act.put, List.setIfInBounds_toArray, List.set_cons_succ, List.set_cons_zero, Nat.reduceAdd]
                  refine Many.lex_want (by rfl) (rd (v := .bool false) (fun q => by (go_simp; (try rfl); (try (intro hneg; omega))))) ?_
                  simp only [Act.put, List.setIfInBounds_toArray, List.set_cons_succ, List.set_cons_zero, Nat.reduceAdd]
                  refine Many.lex_want (by rfl) (rd (v := .bool false) (fun q => by (go_simp; (try rfl); (try (intro hneg; omega))))) ?_
                  simp only [Act.put, List.setIfInBounds_toArray, List.set_cons_succ, List.set_cons_zero, Nat.reduceAdd]
                  refine Many.lex_want (by rfl) (rd (v := .bool false) (fun q => by (go_simp; (try rfl); (try (intro hneg; omega))))) ?_
                  simp only [Act.put, List.setIfInBounds_toArray, List.set_cons_succ, List.set_cons_zero, Nat.reduceAdd]
                  refine Many.lex_want (by rfl) (rd (v := .int .i64 c) (fun q => by (go_simp; (try rfl); (try (intro hneg; omega))))) ?_
                  simp only [Act.put, List.setIfInBounds_toArray, List.set_cons_succ, List.set_cons_zero, Nat.reduceAdd]
                  refine Many.lex_want (by rfl) (rd (v := .bool false) (fun q => by (go_simp; (try rfl); (try (intro hneg; omega))))) ?_
                  simp only [Act.put, List.setIfInBounds_toArray, List.set_cons_succ, List.set_cons_zero, Nat.reduceAdd]
                  refine Many.lex_want (by rfl) (rd (v := .bool false) (fun q => by (go_simp; (try rfl); (try (intro hneg; omega))))) ?_
                  simp only [Act.put, List.setIfInBounds_toArray, List.set_cons_succ, List.set_cons_zero, Nat.reduceAdd]
                  refine Many.lex_want (by rfl) (rd (v := .bool false) (fun q => by (go_simp; (try rfl); (try (intro hneg; omega))))) ?_
                  simp only [Act.put, List.setIfInBounds_toArray, List.set_cons_succ, List.set_cons_zero, Nat.reduceAdd]
                  refine Many.lex_want (by rfl) (rd (v := .int .i64 c) (fun q => by (go_simp; (try rfl); (try (intro hneg; omega))))) ?_
                  simp only [Act.put, List.setIfInBounds_toArray, List.set_cons_succ, List.set_cons_zero, Nat.reduceAdd]
                  refine Many.lex_want (by rfl) (rd (v := .slice (some ⟨G, 0, none⟩) N N) (fun q => by (go_simp; (try rfl); (try (intro hneg; omega))))) ?_
                  simp only [Act.put, List.setIfInBounds_toArray, List.set_cons_succ, List.set_cons_zero, Nat.reduceAdd]
                  refine Many.lex_want (by rfl) (rd (v := .int .i64 N) (fun q => by (go_simp; (try rfl); (try (intro hneg; omega))))) ?_
                  simp only [Act.put, List.setIfInBounds_toArray, List.set_cons_succ, List.set_cons_zero, Nat.reduceAdd]
                  refine Many.lex_want (by rfl) (rd (v := .bool false) (fun q => by (go_simp; (try rfl); (try (intro hneg; omega))))) ?_
                  simp only [Act.put, List.setIfInBounds_toArray, List.set_cons_succ, List.set_cons_zero, Nat.reduceAdd]
                  refine Many.lex_want (by rfl) (rd (v := .bool false) (fun q => by (go_simp; (try rfl); (try (intro hneg; omega))))) ?_
                  simp only [Act.put, List.setIfInBounds_toArray, List.set_cons_succ, List.set_cons_zero, Nat.reduceAdd]
                  refine Many.lex_want (by rfl) (rd (v := .bool false) (fun q => by (go_simp; (try rfl); (try (intro hneg; omega))))) ?_
                  simp only [Act.put, List.setIfInBounds_toArray, List.set_cons_succ, List.set_cons_zero, Nat.reduceAdd]
                  refine Many.lex_want (by rfl) (rd (v := .int .i64 n) (fun q => by (go_simp; (try rfl); (try (intro hneg; omega))))) ?_
                  simp only [Act.put, List.setIfInBounds_toArray, List.set_cons_succ, List.set_cons_zero, Nat.reduceAdd]
                  refine Many.lex_want (by rfl) (rd (v := .int .i64 a) (fun q => by (go_simp; (try rfl); (try (intro hneg; omega))))) ?_
                  simp only [Act.put, List.setIfInBounds_toArray, List.set_cons_succ, List.set_cons_zero, Nat.reduceAdd]
                  refine Many.lex_want (by rfl) (rd (v := .int .i64 q) (fun q => by (go_simp; (try rfl); (try (intro hneg; omega))))) ?_
                  simp only [Act.put, List.setIfInBounds_toArray, List.set_cons_succ, List.set_cons_zero, Nat.reduceAdd]
                  refine Many.lex_want (by rfl) (rd (v := .int .i64 (1 : Nat)) (fun q => by (go_simp; (try rfl); (try (intro hneg; omega))))) ?_
                  simp only [Act.put, List.setIfInBounds_toArray, List.set_cons_succ, List.set_cons_zero, Nat.reduceAdd]
                  refine Many.lex_want (by rfl) (rd (v := .bool false) (fun q => by (go_simp; (try rfl); (try (intro hneg; omega))))) ?_
                  simp only [Act.put, List.setIfInBounds_toArray, List.set_cons_succ, List.set_cons_zero, Nat.reduceAdd]
                  refine Many.lex_want (by rfl) (rd (v := .bool false) (fun q => by (go_simp; (try rfl); (try (intro hneg; omega))))) ?_
                  simp only [Act.put, List.setIfInBounds_toArray, List.set_cons_succ, List.set_cons_zero, Nat.reduceAdd]
                  refine Many.lex_want (by rfl) (rd (v := .bool false) (fun q => by (go_simp; (try rfl); (try (intro hneg; omega))))) ?_
                  simp only [Act.put, List.setIfInBounds_toArray, List.set_cons_succ, List.set_cons_zero, Nat.reduceAdd]
                  refine Many.lex_want (by rfl) (rd (v := .slice (some ⟨G, 0, none⟩) N N) (fun q => by (go_simp; (try rfl); (try (intro hneg; omega))))) ?_
                  simp only [Act.put, List.setIfInBounds_toArray, List.set_cons_succ, List.set_cons_zero, Nat.reduceAdd]
                  refine Many.lex_want (by rfl) (rd (v := .int .i64 a) (fun q => by (go_simp; (try rfl); (try (intro hneg; omega))))) ?_
                  simp only [Act.put, List.setIfInBounds_toArray, List.set_cons_succ, List.set_cons_zero, Nat.reduceAdd]
                  refine Many.lex_want (by rfl) (rd (v := .pointer (some ⟨G, a, none⟩)) (fun q => by (go_simp; (try rfl); (try (intro hneg; omega))))) ?_
                  simp only [Act.put, List.setIfInBounds_toArray, List.set_cons_succ, List.set_cons_zero, Nat.reduceAdd]
                  refine Many.lex_want (by rfl) (rd (v := .int .i64 fa) (fun q => by (go_simp; (try rfl); (try (intro hneg; omega))))) ?_
                  simp only [Act.put, List.setIfInBounds_toArray, List.set_cons_succ, List.set_cons_zero, Nat.reduceAdd]
                  refine Many.lex_want (by rfl) (rd (v := .int .i64 n) (fun q => by (go_simp; (try rfl); (try (intro hneg; omega))))) ?_
                  simp only [Act.put, List.setIfInBounds_toArray, List.set_cons_succ, List.set_cons_zero, Nat.reduceAdd]
                  refine Many.lex_want (by rfl) (rd (v := .int .i64 dd) (fun q => by (go_simp; (try rfl); (try (intro hneg; omega))))) ?_
                  simp only [Act.put, List.setIfInBounds_toArray, List.set_cons_succ, List.set_cons_zero, Nat.reduceAdd]
                  refine Many.lex_want (by rfl) (rd (v := .int .i64 c) (fun q => by (go_simp; (try rfl); (try (intro hneg; omega))))) ?_
                  simp only [Act.put, List.setIfInBounds_toArray, List.set_cons_succ, List.set_cons_zero, Nat.reduceAdd]
                  refine Many.lex_want (by rfl) (rd (v := .int .i64 P) (fun q => by (go_simp; (try rfl); (try (intro hneg; omega))))) ?_
                  simp only [Act.put, List.setIfInBounds_toArray, List.set_cons_succ, List.set_cons_zero, Nat.reduceAdd]
                  refine Many.lex_want (by rfl) (rd (v := .bool true) (fun q => by (go_simp; (try rfl); (try (intro hneg; omega))))) ?_
                  simp only [Act.put, List.setIfInBounds_toArray, List.set_cons_succ, List.set_cons_zero, Nat.reduceAdd]
                  refine Many.lex_want (by rfl) (rd (v := .bool true) (fun q => by (go_simp; (try rfl); (try (intro hneg; omega))))) ?_
                  simp only [Act.put, List.setIfInBounds_toArray, List.set_cons_succ, List.set_cons_zero, Nat.reduceAdd]
                  refine Many.lex_nil fun s9 W3 hs9 hS9 => ?_
                  obtain ⟨q2, rfl⟩ := hS9
                  go_wp2
                  refine bodyPost_ret (v := .tuple #[.int .i64 0, .bool false]) (by simp [results, Try.results46, go_sem]) rfl ?_
                  exact ⟨by rw [hRf.out]; rfl, (nn + q1) + q2, by first | rfl | exact drewN_add _ _ _⟩
    · obtain rfl : k = m := by omega
      have hlt' : ¬ (k : Int) < (k : Int) := by omega
      have hRt : Keep (chrT N (adjOf E) s cs = some sk) := ⟨by rw [hck2.out, List.drop_eq_nil_of_le (by rw [hm.out]; omega)]; rfl⟩
      go_wp2
      refine bodyPost_ret (v := .tuple #[.int .i64 (n : Nat), .bool true]) (by simp [results, Try.results46, go_sem]) rfl ?_
      exact ⟨by rw [hRt.out]; show _ = Ending.returned (.tuple #[.int .i64 (num sk : Nat), .bool true]); rw [hn.out], nn, rfl⟩
end Go.Proofs.Yteekigpdiklppaa
