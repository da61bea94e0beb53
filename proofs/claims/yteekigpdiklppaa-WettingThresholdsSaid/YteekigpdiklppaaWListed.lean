import Derived.Test.YteekigpdiklppaaWNum
set_option linter.unusedSimpArgs false
set_option linter.unusedVariables false
namespace Go.Proofs.Yteekigpdiklppaa
open Go Go.Proofs Go.RowKit Go.Seq
attribute [local go_sem] Oper.semAt_some
theorem lastZ_pos {zs : List Int} {k : Nat} (hk : k + 1 ≤ zs.length) : lastZ (zs.take (k + 1)) = zs.getD k 0 := by
  rw [takez (by omega)]; simp [lastZ]
set_option maxHeartbeats 1000000 in
set_option maxRecDepth 100000 in
theorem listed_yes {n : Nat} {v : Value} {zs : List Int} {w : World} (hv : IntsO w v zs) (hzk : ListOk n zs) (hl : zs.length ≤ 100000) :
    Calls Try.prog 64 #[.int .i64 n, v] w fun e w' => e = .returned (.bool true) ∧ ∃ q, w' = w.drewN q := by
  have hmx : Try.prog.follows .mixedOrders = true := by kernel_rfl
  obtain ⟨A, cap, rfl, hc⟩ := hv
  have hck := Keep.mk hc
  have h5k := Keep.mk hzk.el
  obtain ⟨m, hm⟩ : ∃ m, Keep (zs.length = m) := ⟨_, ⟨rfl⟩⟩
  rw [hm.out] at hl hck h5k ⊢
  clear hc hzk
  go_enter Try.func64, Try.ntmps64
  go_wp2
  go_loopw [5] (fun i wr => (∃ k : Nat, k ≤ m ∧ i = .int .i64 k) ∧ ∃ nn, wr = w.drewN nn) (fun i _ => m - (intOf i).toNat)
  case atStart => exact ⟨⟨0, by omega, rfl⟩, 0, rfl⟩
  case round =>
    obtain ⟨⟨k, hk, rfl⟩, nn, rfl⟩ := hrel
    have hw1 : IntKind.i64.wrap ((k : Int) + 1) = (k : Int) + 1 := IntWalk.i64_in _ (by omega)
    by_cases hlt : k < m
    · have hlt' : (k : Int) < (m : Int) := by omega
      obtain ⟨g, o, rfl, c0⟩ := hck.out k hlt
      obtain ⟨e1, e2, e3⟩ := h5k.out k hlt
      obtain ⟨z, hz⟩ : ∃ z, zs.getD k 0 = z := ⟨_, rfl⟩
      rw [hz] at c0 e1 e2 e3
      have hz0 : ¬ z < 0 := by omega
      have hzn : ¬ z ≥ (n : Int) := by omega
      have nk : ¬ (k : Int) < 0 := by omega
      by_cases hk0 : k = 0
      · subst hk0
        rw [Nat.add_zero] at c0
        clear e3 hz hck h5k
        go_wp2
        refine (wpIn_wide (n := 0)).1 ?_
        refine Many.region_many (Cq (w.drewN nn)) hmx (by kernel_rfl) (fun s s' W' h hc => hc) (fun s hs => ⟨1, rfl⟩) ?_
        refine Many.lex_want (by rfl) (rd (v := .slice (some ⟨g, o, none⟩) m cap) (fun q => by (go_simp; (try rfl); (try (intro hneg; omega))))) ?_
        simp only [Act.put, List.setIfInBounds_toArray, List.set_cons_succ, List.set_cons_zero, Nat.reduceAdd]
        refine Many.lex_want (by rfl) (rd (v := .int .i64 (0 : Nat)) (fun q => by (go_simp; (try rfl); (try (intro hneg; omega))))) ?_
        simp only [Act.put, List.setIfInBounds_toArray, List.set_cons_succ, List.set_cons_zero, Nat.reduceAdd]
        refine Many.lex_want (by rfl) (rd (v := .pointer (some ⟨g, o, none⟩)) (fun q => by (go_simp; (try rfl); (try (intro hneg; omega))))) ?_
        simp only [Act.put, List.setIfInBounds_toArray, List.set_cons_succ, List.set_cons_zero, Nat.reduceAdd]
        refine Many.lex_want (by rfl) (rd (v := .int .i64 z) (fun q => by (go_simp; (try rfl); (try (intro hneg; omega))))) ?_
        simp only [Act.put, List.setIfInBounds_toArray, List.set_cons_succ, List.set_cons_zero, Nat.reduceAdd]
        refine Many.lex_want (by rfl) (rd (v := .bool false) (fun q => by (go_simp; (try rfl); (try (intro hneg; omega))))) ?_
        simp only [Act.put, List.setIfInBounds_toArray, List.set_cons_succ, List.set_cons_zero, Nat.reduceAdd]
        refine Many.lex_want (by rfl) (rd (v := .bool false) (fun q => by (go_simp; (try rfl); (try (intro hneg; omega))))) ?_
        simp only [Act.put, List.setIfInBounds_toArray, List.set_cons_succ, List.set_cons_zero, Nat.reduceAdd]
        refine Many.lex_want (by rfl) (rd (v := .slice (some ⟨g, o, none⟩) m cap) (fun q => by (go_simp; (try rfl); (try (intro hneg; omega))))) ?_
        simp only [Act.put, List.setIfInBounds_toArray, List.set_cons_succ, List.set_cons_zero, Nat.reduceAdd]
        refine Many.lex_want (by rfl) (rd (v := .int .i64 (0 : Nat)) (fun q => by (go_simp; (try rfl); (try (intro hneg; omega))))) ?_
        simp only [Act.put, List.setIfInBounds_toArray, List.set_cons_succ, List.set_cons_zero, Nat.reduceAdd]
        refine Many.lex_want (by rfl) (rd (v := .pointer (some ⟨g, o, none⟩)) (fun q => by (go_simp; (try rfl); (try (intro hneg; omega))))) ?_
        simp only [Act.put, List.setIfInBounds_toArray, List.set_cons_succ, List.set_cons_zero, Nat.reduceAdd]
        refine Many.lex_want (by rfl) (rd (v := .int .i64 z) (fun q => by (go_simp; (try rfl); (try (intro hneg; omega))))) ?_
        simp only [Act.put, List.setIfInBounds_toArray, List.set_cons_succ, List.set_cons_zero, Nat.reduceAdd]
        refine Many.lex_want (by rfl) (rd (v := .int .i64 n) (fun q => by (go_simp; (try rfl); (try (intro hneg; omega))))) ?_
        simp only [Act.put, List.setIfInBounds_toArray, List.set_cons_succ, List.set_cons_zero, Nat.reduceAdd]
        refine Many.lex_want (by rfl) (rd (v := .bool false) (fun q => by (go_simp; (try rfl); (try (intro hneg; omega))))) ?_
        simp only [Act.put, List.setIfInBounds_toArray, List.set_cons_succ, List.set_cons_zero, Nat.reduceAdd]
        refine Many.lex_want (by rfl) (rd (v := .bool false) (fun q => by (go_simp; (try rfl); (try (intro hneg; omega))))) ?_
        simp only [Act.put, List.setIfInBounds_toArray, List.set_cons_succ, List.set_cons_zero, Nat.reduceAdd]
        refine Many.lex_want (by rfl) (rd (v := .bool false) (fun q => by (go_simp; (try rfl); (try (intro hneg; omega))))) ?_
        simp only [Act.put, List.setIfInBounds_toArray, List.set_cons_succ, List.set_cons_zero, Nat.reduceAdd]
        refine Many.lex_want (by rfl) (rd (v := .int .i64 (0 : Nat)) (fun q => by (go_simp; (try rfl); (try (intro hneg; omega))))) ?_
        simp only [Act.put, List.setIfInBounds_toArray, List.set_cons_succ, List.set_cons_zero, Nat.reduceAdd]
        refine Many.lex_want (by rfl) (rd (v := .bool false) (fun q => by (go_simp; (try rfl); (try (intro hneg; omega))))) ?_
        simp only [Act.put, List.setIfInBounds_toArray, List.set_cons_succ, List.set_cons_zero, Nat.reduceAdd]
        refine Many.lex_want (by rfl) (rd (v := .bool false) (fun q => by (go_simp; (try rfl); (try (intro hneg; omega))))) ?_
        simp only [Act.put, List.setIfInBounds_toArray, List.set_cons_succ, List.set_cons_zero, Nat.reduceAdd]
        refine lex_skip (by rfl) Cq.keep ?_
        simp only [Act.put, List.setIfInBounds_toArray, List.set_cons_succ, List.set_cons_zero, Nat.reduceAdd]
        refine lex_skip (by rfl) Cq.keep ?_
        simp only [Act.put, List.setIfInBounds_toArray, List.set_cons_succ, List.set_cons_zero, Nat.reduceAdd]
        refine lex_skip (by rfl) Cq.keep ?_
        simp only [Act.put, List.setIfInBounds_toArray, List.set_cons_succ, List.set_cons_zero, Nat.reduceAdd]
        refine lex_skip (by rfl) Cq.keep ?_
        simp only [Act.put, List.setIfInBounds_toArray, List.set_cons_succ, List.set_cons_zero, Nat.reduceAdd]
        refine lex_skip (by rfl) Cq.keep ?_
        simp only [Act.put, List.setIfInBounds_toArray, List.set_cons_succ, List.set_cons_zero, Nat.reduceAdd]
        refine lex_skip (by rfl) Cq.keep ?_
        simp only [Act.put, List.setIfInBounds_toArray, List.set_cons_succ, List.set_cons_zero, Nat.reduceAdd]
        refine lex_skip (by rfl) Cq.keep ?_
        simp only [Act.put, List.setIfInBounds_toArray, List.set_cons_succ, List.set_cons_zero, Nat.reduceAdd]
        refine lex_skip (by rfl) Cq.keep ?_
        simp only [Act.put, List.setIfInBounds_toArray, List.set_cons_succ, List.set_cons_zero, Nat.reduceAdd]
        refine lex_skip (by rfl) Cq.keep ?_
        simp only [Act.put, List.setIfInBounds_toArray, List.set_cons_succ, List.set_cons_zero, Nat.reduceAdd]
        refine lex_skip (by rfl) Cq.keep ?_
        simp only [Act.put, List.setIfInBounds_toArray, List.set_cons_succ, List.set_cons_zero, Nat.reduceAdd]
        refine Many.lex_want (by rfl) (rd (v := .bool false) (fun q => by (go_simp; (try rfl); (try (intro hneg; omega))))) ?_
        simp only [Act.put, List.setIfInBounds_toArray, List.set_cons_succ, List.set_cons_zero, Nat.reduceAdd]
        refine Many.lex_want (by rfl) (rd (v := .bool false) (fun q => by (go_simp; (try rfl); (try (intro hneg; omega))))) ?_
        simp only [Act.put, List.setIfInBounds_toArray, List.set_cons_succ, List.set_cons_zero, Nat.reduceAdd]
        refine Many.lex_nil fun s9 W2 hs9 hS9 => ?_
        obtain ⟨q, rfl⟩ := hS9
        go_wp2
        exact ⟨⟨⟨1, by omega, by go_num⟩, nn + q, by first | rfl | exact drewN_add _ _ _⟩, by simp [intOf]; omega⟩
      · obtain ⟨j, rfl⟩ : ∃ j, k = j + 1 := ⟨k - 1, by omega⟩
        obtain ⟨g', o', hA', c1⟩ := hck.out j (by omega)
        obtain ⟨rfl, rfl⟩ : g' = g ∧ o' = o := by
          injection hA' with h; injection h with h1 h2; exact ⟨h1.symm, h2.symm⟩
        rw [lastZ_pos (by rw [hm.out]; omega)] at e3
        generalize zs.getD j 0 = y at c1 e3
        have hyz : ¬ y ≥ z := by omega
        have hj1 : ((j + 1 : Nat) : Int) = (j : Int) + 1 := by omega
        have hkp : ((j + 1 : Nat) : Int) > 0 := by omega
        have hjs : IntKind.i64.wrap ((j : Int) + 1 - 1) = (j : Int) := by rw [show (j : Int) + 1 - 1 = j by omega]; exact IntWalk.i64_in _ (by omega)
        have hjs2 : IntKind.i64.wrap (j : Int) = (j : Int) := IntWalk.i64_in _ (by omega)
        have hj0 : ¬ (j : Int) < 0 := by omega
        have hjm : (j : Int) < (m : Int) := by omega
        clear e3 hz hck h5k hA'
        go_wp2
        refine (wpIn_wide (n := 0)).1 ?_
        refine Many.region_many (Cq (w.drewN nn)) hmx (by kernel_rfl) (fun s s' W' h hc => hc) (fun s hs => ⟨1, rfl⟩) ?_
        refine Many.lex_want (by rfl) (rd (v := .slice (some ⟨g', o', none⟩) m cap) (fun q => by (go_simp; (try rfl); (try (intro hneg; omega))))) ?_
        simp only [Act.put, List.setIfInBounds_toArray, List.set_cons_succ, List.set_cons_zero, Nat.reduceAdd]
        refine Many.lex_want (by rfl) (rd (v := .int .i64 ((j : Int) + 1)) (fun q => by (go_simp; (try rfl); (try (intro hneg; omega))))) ?_
        simp only [Act.put, List.setIfInBounds_toArray, List.set_cons_succ, List.set_cons_zero, Nat.reduceAdd]
        refine Many.lex_want (by rfl) (rd (v := .pointer (some ⟨g', o' + (j + 1), none⟩)) (fun q => by (go_simp; (try rfl); (try (intro hneg; omega))))) ?_
        simp only [Act.put, List.setIfInBounds_toArray, List.set_cons_succ, List.set_cons_zero, Nat.reduceAdd]
        refine Many.lex_want (by rfl) (rd (v := .int .i64 z) (fun q => by (go_simp; (try rfl); (try (intro hneg; omega))))) ?_
        simp only [Act.put, List.setIfInBounds_toArray, List.set_cons_succ, List.set_cons_zero, Nat.reduceAdd]
        refine Many.lex_want (by rfl) (rd (v := .bool false) (fun q => by (go_simp; (try rfl); (try (intro hneg; omega))))) ?_
        simp only [Act.put, List.setIfInBounds_toArray, List.set_cons_succ, List.set_cons_zero, Nat.reduceAdd]
        refine Many.lex_want (by rfl) (rd (v := .bool false) (fun q => by (go_simp; (try rfl); (try (intro hneg; omega))))) ?_
        simp only [Act.put, List.setIfInBounds_toArray, List.set_cons_succ, List.set_cons_zero, Nat.reduceAdd]
        refine Many.lex_want (by rfl) (rd (v := .slice (some ⟨g', o', none⟩) m cap) (fun q => by (go_simp; (try rfl); (try (intro hneg; omega))))) ?_
        simp only [Act.put, List.setIfInBounds_toArray, List.set_cons_succ, List.set_cons_zero, Nat.reduceAdd]
        refine Many.lex_want (by rfl) (rd (v := .int .i64 ((j : Int) + 1)) (fun q => by (go_simp; (try rfl); (try (intro hneg; omega))))) ?_
        simp only [Act.put, List.setIfInBounds_toArray, List.set_cons_succ, List.set_cons_zero, Nat.reduceAdd]
        refine Many.lex_want (by rfl) (rd (v := .pointer (some ⟨g', o' + (j + 1), none⟩)) (fun q => by (go_simp; (try rfl); (try (intro hneg; omega))))) ?_
        simp only [Act.put, List.setIfInBounds_toArray, List.set_cons_succ, List.set_cons_zero, Nat.reduceAdd]
        refine Many.lex_want (by rfl) (rd (v := .int .i64 z) (fun q => by (go_simp; (try rfl); (try (intro hneg; omega))))) ?_
        simp only [Act.put, List.setIfInBounds_toArray, List.set_cons_succ, List.set_cons_zero, Nat.reduceAdd]
        refine Many.lex_want (by rfl) (rd (v := .int .i64 n) (fun q => by (go_simp; (try rfl); (try (intro hneg; omega))))) ?_
        simp only [Act.put, List.setIfInBounds_toArray, List.set_cons_succ, List.set_cons_zero, Nat.reduceAdd]
        refine Many.lex_want (by rfl) (rd (v := .bool false) (fun q => by (go_simp; (try rfl); (try (intro hneg; omega))))) ?_
        simp only [Act.put, List.setIfInBounds_toArray, List.set_cons_succ, List.set_cons_zero, Nat.reduceAdd]
        refine Many.lex_want (by rfl) (rd (v := .bool false) (fun q => by (go_simp; (try rfl); (try (intro hneg; omega))))) ?_
        simp only [Act.put, List.setIfInBounds_toArray, List.set_cons_succ, List.set_cons_zero, Nat.reduceAdd]
        refine Many.lex_want (by rfl) (rd (v := .bool false) (fun q => by (go_simp; (try rfl); (try (intro hneg; omega))))) ?_
        simp only [Act.put, List.setIfInBounds_toArray, List.set_cons_succ, List.set_cons_zero, Nat.reduceAdd]
        refine Many.lex_want (by rfl) (rd (v := .int .i64 ((j : Int) + 1)) (fun q => by (go_simp; (try rfl); (try (intro hneg; omega))))) ?_
        simp only [Act.put, List.setIfInBounds_toArray, List.set_cons_succ, List.set_cons_zero, Nat.reduceAdd]
        refine Many.lex_want (by rfl) (rd (v := .bool true) (fun q => by (go_simp; (try rfl); (try (intro hneg; omega))))) ?_
        simp only [Act.put, List.setIfInBounds_toArray, List.set_cons_succ, List.set_cons_zero, Nat.reduceAdd]
        refine Many.lex_want (by rfl) (rd (v := .bool true) (fun q => by (go_simp; (try rfl); (try (intro hneg; omega))))) ?_
        simp only [Act.put, List.setIfInBounds_toArray, List.set_cons_succ, List.set_cons_zero, Nat.reduceAdd]
        refine Many.lex_want (by rfl) (rd (v := .slice (some ⟨g', o', none⟩) m cap) (fun q => by (go_simp; (try rfl); (try (intro hneg; omega))))) ?_
        simp only [Act.put, List.setIfInBounds_toArray, List.set_cons_succ, List.set_cons_zero, Nat.reduceAdd]
        refine Many.lex_want (by rfl) (rd (v := .int .i64 ((j : Int) + 1)) (fun q => by (go_simp; (try rfl); (try (intro hneg; omega))))) ?_
        simp only [Act.put, List.setIfInBounds_toArray, List.set_cons_succ, List.set_cons_zero, Nat.reduceAdd]
        refine Many.lex_want (by rfl) (rd (v := .int .i64 (j : Int)) (fun q => by (go_simp; (try rfl); (try (intro hneg; omega))))) ?_
        simp only [Act.put, List.setIfInBounds_toArray, List.set_cons_succ, List.set_cons_zero, Nat.reduceAdd]
        refine Many.lex_want (by rfl) (rd (v := .pointer (some ⟨g', o' + j, none⟩)) (fun q => by (go_simp; (try rfl); (try (intro hneg; omega))))) ?_
        simp only [Act.put, List.setIfInBounds_toArray, List.set_cons_succ, List.set_cons_zero, Nat.reduceAdd]
        refine Many.lex_want (by rfl) (rd (v := .int .i64 y) (fun q => by (go_simp; (try rfl); (try (intro hneg; omega))))) ?_
        simp only [Act.put, List.setIfInBounds_toArray, List.set_cons_succ, List.set_cons_zero, Nat.reduceAdd]
        refine Many.lex_want (by rfl) (rd (v := .slice (some ⟨g', o', none⟩) m cap) (fun q => by (go_simp; (try rfl); (try (intro hneg; omega))))) ?_
        simp only [Act.put, List.setIfInBounds_toArray, List.set_cons_succ, List.set_cons_zero, Nat.reduceAdd]
        refine Many.lex_want (by rfl) (rd (v := .int .i64 ((j : Int) + 1)) (fun q => by (go_simp; (try rfl); (try (intro hneg; omega))))) ?_
        simp only [Act.put, List.setIfInBounds_toArray, List.set_cons_succ, List.set_cons_zero, Nat.reduceAdd]
        refine Many.lex_want (by rfl) (rd (v := .pointer (some ⟨g', o' + (j + 1), none⟩)) (fun q => by (go_simp; (try rfl); (try (intro hneg; omega))))) ?_
        simp only [Act.put, List.setIfInBounds_toArray, List.set_cons_succ, List.set_cons_zero, Nat.reduceAdd]
        refine Many.lex_want (by rfl) (rd (v := .int .i64 z) (fun q => by (go_simp; (try rfl); (try (intro hneg; omega))))) ?_
        simp only [Act.put, List.setIfInBounds_toArray, List.set_cons_succ, List.set_cons_zero, Nat.reduceAdd]
        refine Many.lex_want (by rfl) (rd (v := .bool false) (fun q => by (go_simp; (try rfl); (try (intro hneg; omega))))) ?_
        simp only [Act.put, List.setIfInBounds_toArray, List.set_cons_succ, List.set_cons_zero, Nat.reduceAdd]
        refine Many.lex_want (by rfl) (rd (v := .bool false) (fun q => by (go_simp; (try rfl); (try (intro hneg; omega))))) ?_
        simp only [Act.put, List.setIfInBounds_toArray, List.set_cons_succ, List.set_cons_zero, Nat.reduceAdd]
        refine Many.lex_want (by rfl) (rd (v := .bool false) (fun q => by (go_simp; (try rfl); (try (intro hneg; omega))))) ?_
        simp only [Act.put, List.setIfInBounds_toArray, List.set_cons_succ, List.set_cons_zero, Nat.reduceAdd]
        refine Many.lex_nil fun s9 W2 hs9 hS9 => ?_
        obtain ⟨q, rfl⟩ := hS9
        go_wp2
        exact ⟨⟨⟨j + 1 + 1, by omega, by go_num⟩, nn + q, by first | rfl | exact drewN_add _ _ _⟩, by simp [intOf]; omega⟩
    · obtain rfl : k = m := by omega
      have hlt' : ¬ (k : Int) < (k : Int) := by omega
      go_wp2
      go_ret
      exact ⟨rfl, nn, rfl⟩
theorem within_yes {n : Nat} {v : Value} {zs : List Int} {w : World} (hv : IntsO w v zs) (hzk : ListOk n zs) (hl : zs.length ≤ 100000) :
    Calls Try.prog 52 #[.int .i64 n, v] w fun e w' => e = .returned (.bool true) ∧ ∃ q, w' = w.drewN q := by
  have q := listed_yes hv hzk hl
  go_enter Try.func52, Try.ntmps52
  go_wp2_with (first
    | (go_at_call 64; (with_reducible refine q.mono ?_); rintro e w5 ⟨rfl, nn, he5⟩; rw [he5]; clear he5 w5))
  go_ret
  exact ⟨rfl, nn, rfl⟩
theorem getD_app_left (a b : List Nat) {i : Nat} (h : i < a.length) : (a ++ b).getD i 0 = a.getD i 0 := by
  rw [List.getD_eq_getElem?_getD, List.getElem?_append_left h, List.getD_eq_getElem?_getD]
theorem getD_app_at (a : List Nat) (x : Nat) : (a ++ [x]).getD a.length 0 = x := by
  rw [List.getD_eq_getElem?_getD, List.getElem?_append_right (Nat.le_refl _)]; simp
theorem vsTo_sorted (s : Nat → Bool) : ∀ k i j, i < j → j < (vsTo s k).length → (vsTo s k).getD i 0 < (vsTo s k).getD j 0
  | 0, i, j, h, hj => by simp [vsTo] at hj
  | k + 1, i, j, h, hj => by
    rw [vsTo_succ] at hj ⊢
    split at hj
    · rename_i hs
      rw [if_pos hs]
      rw [List.length_append] at hj
      simp only [List.length_cons, List.length_nil] at hj
      by_cases e : j < (vsTo s k).length
      · rw [getD_app_left _ _ (by omega), getD_app_left _ _ e]
        exact vsTo_sorted s k i j h e
      · have e2 : j = (vsTo s k).length := by omega
        subst e2
        rw [getD_app_left _ _ h, getD_app_at]
        have hm : (vsTo s k).getD i 0 ∈ vsTo s k := by
          rw [List.getD_eq_getElem?_getD, List.getElem?_eq_getElem h]; exact List.getElem_mem _
        exact (vsTo_lt hm).1
    · rename_i hs
      rw [if_neg hs]
      exact vsTo_sorted s k i j h hj
theorem zsOf_len (s : Nat → Bool) : (zsOf s).length = (vsTo s 12).length := by simp [zsOf]
theorem zsOf_at (s : Nat → Bool) {i : Nat} (hi : i < (vsTo s 12).length) : (zsOf s).getD i 0 = ((vsTo s 12).getD i 0 : Nat) := by
  unfold zsOf
  rw [List.getD_eq_getElem?_getD, List.getElem?_map, List.getD_eq_getElem?_getD, List.getElem?_eq_getElem hi]; rfl
/-- The list of a set of the graph's places is one. -/
theorem listOk_of {n : Nat} {s : Nat → Bool} (h : ∀ j, n ≤ j → j < 12 → s j = false) : ListOk n (zsOf s) := ⟨fun k hk => by
  rw [zsOf_len] at hk
  have hm : (vsTo s 12).getD k 0 ∈ vsTo s 12 := by
    rw [List.getD_eq_getElem?_getD, List.getElem?_eq_getElem hk]; exact List.getElem_mem _
  obtain ⟨h1, h2⟩ := vsTo_lt hm
  rw [zsOf_at s hk]
  have hlt : (vsTo s 12).getD k 0 < n := by
    rcases Nat.lt_or_ge ((vsTo s 12).getD k 0) n with h' | h'
    · exact h'
    · rw [h _ h' h1] at h2; cases h2
  refine ⟨by omega, by omega, ?_⟩
  cases k with
  | zero => show (-1 : Int) < _; omega
  | succ j =>
    rw [lastZ_pos (by rw [zsOf_len]; omega), zsOf_at s (by omega)]
    have := vsTo_sorted s 12 j (j + 1) (by omega) hk
    omega⟩
theorem zsOf_in (s : Nat → Bool) {k : Nat} (hk : k < (zsOf s).length) : 0 ≤ (zsOf s).getD k 0 ∧ (zsOf s).getD k 0 < 12 := by
  rw [zsOf_len] at hk
  rw [zsOf_at s hk]
  have hm : (vsTo s 12).getD k 0 ∈ vsTo s 12 := by
    rw [List.getD_eq_getElem?_getD, List.getElem?_eq_getElem hk]; exact List.getElem_mem _
  have := (vsTo_lt hm).1
  omega
theorem num_setOf (s : Nat → Bool) : num (setOf (zsOf s)) = num s := num_ext fun j hj => setOf_zsOf s hj
/-- ref.Set of a set's list. -/
theorem set_of {v : Value} {s : Nat → Bool} {w : World} (hv : IntsO w v (zsOf s)) : Calls Try.prog 26 #[v] w fun e w' => e = .returned (.int .i64 (num s)) ∧ w' = w := by
  have h := set_any hv (fun k hk => zsOf_in s hk) (by rw [zsOf_len]; have := vsTo_len s 12; omega)
  rw [num_setOf] at h
  exact h
end Go.Proofs.Yteekigpdiklppaa
