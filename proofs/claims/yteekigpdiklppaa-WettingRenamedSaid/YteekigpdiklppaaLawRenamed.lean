import Derived.Test.YteekigpdiklppaaWRenA
set_option linter.unusedSimpArgs false
set_option linter.unusedVariables false
namespace Go.Proofs.Yteekigpdiklppaa
open Go Go.Proofs Go.RowKit Go.Seq
attribute [local go_sem] Oper.semAt_some
open Ins
theorem ints_cell {W : World} {g o n c : Nat} {z : List Int} (h : IntsO W (.slice (some ⟨g, o, none⟩) n c) z) {k : Nat} (hk : k < z.length) : W.cell? ⟨g, o + k, none⟩ = some (.int .i64 (z.getD k 0)) := by
  obtain ⟨A, cap, hv, hc⟩ := h
  injection hv with h1 h2 h3
  obtain ⟨g', o', hA, hcell⟩ := hc k hk
  rw [← h1] at hA
  injection hA with hA; injection hA with hA hB
  subst hA hB
  exact hcell
theorem getN_mem {out : List Nat} {j : Nat} (h : j < out.length) : out.getD j 0 ∈ out := by
  rw [List.getD_eq_getElem?_getD, List.getElem?_eq_getElem h]; exact List.getElem_mem _
theorem num_nil (p : Nat → Nat) : num (tTo p []) = 0 := by kernel_rfl
theorem rowL_at (f : Nat → Int) {N c : Nat} (h : c < N) : (rowL f N).getD c 0 = f c := by simp [rowL, List.getD, h]
theorem oRnd {N : Nat} {E : Pts} (h : GOk N E) {s : Nat → Bool} (hs : InN N s) : ∀ (W : World) (ve v : Value), PairsOf W ve E → IntsO W v (zsOf s) → Calls Try.prog 20 #[.int .i64 N, ve, v] W fun e w' => ∃ R, e = .returned (.tuple #[.slice (some ⟨R, 0, none⟩) N N, .int .i64 0]) ∧ IntsO w' (.slice (some ⟨R, 0, none⟩) N N) (rowL (roundsOf (adjOf E) N s) N) ∧ Below W.heap.size W w' := fun W ve v he hv =>
  (rounds_yes h he hs hv).mono fun e w' ⟨R, h1, h2, _, h4⟩ => ⟨R, h1, nums_ints h2, h4⟩
theorem oFewSl {N : Nat} {E : Pts} (hG : GOk N E) {r : Int} (hr1 : 1 ≤ r) (hr6 : r ≤ 6) {l : Nat} (hl : sz (leastOf N (soaking N E r)) = l) (W : World) (ve : Value) (he : PairsOf W ve E) :
    Calls Try.prog 39 #[.int .i64 N, ve, .int .i64 r] W fun e w' => ∃ X c, e = .returned (.tuple #[.slice X l c, .int .i64 0]) ∧ IntsO w' (.slice X l c) (zsOf (leastOf N (soaking N E r))) ∧ Below W.heap.size W w' := by
  refine (oFewest hG hr1 hr6 rfl W ve he).mono ?_
  rintro e w' ⟨lv, rfl, h1, h2⟩
  obtain ⟨X, c, rfl⟩ := intsO_slice' h1
  have hz : (zsOf (leastOf N (soaking N E r))).length = l := by rw [zsOf_len]; exact hl
  rw [hz] at h1 ⊢
  exact ⟨X, c, rfl, h1, h2⟩
set_option maxHeartbeats 16000000 in
set_option maxRecDepth 100000 in
theorem renamed_any (n0 : Int) {v1 : Value} {A2 : Option Addr} {l2 c2 : Nat} {ps : Pts} {bs : List Int} {w : World} (hv : PairsO w v1 ps) (hlen : ps.length ≤ maxLen) (hb : ArgZ w (.slice A2 l2 c2) bs) :
    Calls Try.prog 14 #[.int .i64 n0, v1, .slice A2 l2 c2] w fun e w' => e = .returned (.bool true) ∧ Below w.heap.size w w' := by
  have hmx : Try.prog.follows .mixedOrders = true := by kernel_rfl
  obtain ⟨i0, hi0, hz0, hz1, hz2⟩ := info3_parts
  obtain ⟨j0, hj0, hy0, hy1, hy2⟩ := info63_parts
  have q50 := tame_any n0 hv (by unfold maxLen at hlen; omega)
  have hG := tame_gok n0 ps
  obtain ⟨N, hN⟩ : ∃ N, 1 + modN n0 12 = N := ⟨_, rfl⟩
  rw [hN] at q50 hG
  obtain ⟨E, hE⟩ : ∃ E, tameE N ps = E := ⟨_, rfl⟩
  rw [hE] at q50 hG
  clear hN hE hv hlen
  have hN12 := hG.n12
  have hN1 := hG.n1
  have hEl := hG.len
  have hGk := Keep.mk hG
  obtain ⟨M, hM⟩ : ∃ M, Keep (E.length = M) := ⟨_, ⟨rfl⟩⟩
  rw [hM.out] at hEl
  have hbl : Keep (bs.length = l2) := ⟨argZ_len hb⟩
  have hbm : l2 ≤ 9223372036854775807 := by have := argZ_max hb; rw [hbl.out] at this; exact this
  have hbk := Keep.mk hb
  clear hG hb
  go_enter Try.func14, Try.ntmps14
  go_wp2_with (first
    | (go_at_call 50; (with_reducible refine q50.mono ?_); rintro e w1 ⟨vl, rfl, hr1, hb1⟩
       obtain ⟨Al, cl, hvl, _⟩ := own_pairs hr1
       rw [hM.out] at hvl
       subst hvl
       have hk1 : Keep (Hd w w1 (.slice Al M cl) E []) := ⟨⟨own_pairs hr1, fun x hx => by simp at hx, hb1⟩⟩
       clear hr1 hb1 q50))
  go_loopw [9, 8] (fun i ov wr => ∃ (k : Nat) (P : List Int), k ≤ N ∧ i = .int .i64 k ∧ P.length = k ∧ Keep (P.Perm (upTo k)) ∧ ((k = 0 ∧ ov = .slice none 0 0) ∨ (1 ≤ k ∧ RowAt wr ov P)) ∧ Keep (Hd w wr (.slice Al M cl) E [])) (fun i _ _ => N - (intOf i).toNat)
  case atStart => exact ⟨0, [], by omega, rfl, rfl, ⟨List.Perm.refl _⟩, .inl ⟨rfl, rfl⟩, hk1⟩
  case round =>
    obtain ⟨k, P, hkN, rfl, hPm, hperm, hor, hI⟩ := hrel
    by_cases hlt : k < N
    · have hlt' : (k : Int) < (N : Int) := by omega
      have hw1 : IntKind.i64.wrap ((k : Int) + 1) = (k : Int) + 1 := IntWalk.i64_in _ (by omega)
      have hk0 : ¬ (k : Int) < 0 := by omega
      rcases hor with ⟨hk0', rfl⟩ | ⟨hk1', hrow⟩
      · subst hk0'
        obtain rfl : P = [] := List.length_eq_zero_iff.1 hPm
        have ek : IntKind.i64.wrap (((0 : Nat) : Int) + 1) = 1 := by decide
        by_cases hlen : 1 < l2
        · have hlen' : (1 : Int) < (l2 : Int) := by omega
          obtain ⟨b3, o3, hA3, d3⟩ := argZ_at hbk.out (k := 1) (by rw [hbl.out]; exact hlen)
          subst hA3
          have d3 := cell_below d3 hI.out.2.2
          generalize bs.getD 1 0 = z at d3
          have q53 : ∀ w, Calls Try.prog 53 #[.int .i64 z, .int .i64 1] w fun e w' => e = .returned (.int .i64 0) ∧ w' = w := fun w => by
            have := mod_any z (m := 1) (by omega) (by omega) w
            rw [show modN z 1 = 0 by have := modN_lt z (m := 1) (by omega); omega] at this
            exact this
          go_wp2_with (first
            | (go_at_call 53; (with_reducible refine (q53 _).mono ?_); rintro e wm ⟨rfl, hem⟩; rw [hem]; clear hem wm)
            | (at_builtin; refine wpList_append_nil _ rfl _ _ 23 rfl 3 i0 ty24 hi0 rfl rfl ?_)
            | (at_builtin; go_loud (
               refine wpList_append_own _ rfl _ _ 23 rfl wr.heap.size 3 i0 (.int .i64 0) 1 8 ty24 hi0 hz0 hz1 hz2 rfl (by decide) _ 0 [] rfl (World.ownsRow_nil _ _ _ _) ⟨wr.heap.size, 0, none⟩ 1 1 [.int .i64 0] rfl rfl (cell_one_new _ _ _) (fun x hx => by simp at hx; subst hx; rfl) (by unfold maxLen; omega) (by omega) (by simp; try omega) ?_
               intro v2 w3 hown' hgrow3 hnil3
               have hbw3 : Below wr.heap.size wr w3 := Below.grown ((Below.refl wr.heap.size wr).alloc (Nat.le_refl _) _) hgrow3 (by simp) (fun j hj => by cases hj)
               have hr3 : RowAt w3 v2 [0] := row_own hown' (by simp)
               obtain ⟨g2, cap2, rfl, hc2, _⟩ := id hr3
               have hr3k := Keep.mk hr3
               have hI3 := Keep.mk (hI.out.keep hbw3)
               clear hown' hgrow3 hnil3 hr3 hbw3))
            | (at_builtin; go_loud (refine wpList_append_zero _ rfl _ _ 23 rfl 3 i0 ty24 hi0 ⟨g2, 0, none⟩ _ cap2 0 rfl rfl hc2 ?_)))
          exact ⟨⟨1, [0], by omega, by go_num, rfl, ⟨insL_perm (P := []) (r := 0) (k := 0) (List.Perm.refl _)⟩, .inr ⟨by omega, hr3k.out⟩, hI3⟩, by simp [intOf]; omega⟩
        · have hlen' : ¬ (1 : Int) < (l2 : Int) := by omega
          go_wp2_with (first
            | (at_builtin; refine wpList_append_nil _ rfl _ _ 23 rfl 3 i0 ty24 hi0 rfl rfl ?_)
            | (at_builtin; go_loud (
               refine wpList_append_own _ rfl _ _ 23 rfl wr.heap.size 3 i0 (.int .i64 0) 1 8 ty24 hi0 hz0 hz1 hz2 rfl (by decide) _ 0 [] rfl (World.ownsRow_nil _ _ _ _) ⟨wr.heap.size, 0, none⟩ 1 1 [.int .i64 0] rfl rfl (cell_one_new _ _ _) (fun x hx => by simp at hx; subst hx; rfl) (by unfold maxLen; omega) (by omega) (by simp; try omega) ?_
               intro v2 w3 hown' hgrow3 hnil3
               have hbw3 : Below wr.heap.size wr w3 := Below.grown ((Below.refl wr.heap.size wr).alloc (Nat.le_refl _) _) hgrow3 (by simp) (fun j hj => by cases hj)
               have hr3 : RowAt w3 v2 [0] := row_own hown' (by simp)
               obtain ⟨g2, cap2, rfl, hc2, _⟩ := id hr3
               have hr3k := Keep.mk hr3
               have hI3 := Keep.mk (hI.out.keep hbw3)
               clear hown' hgrow3 hnil3 hr3 hbw3))
            | (at_builtin; go_loud (refine wpList_append_zero _ rfl _ _ 23 rfl 3 i0 ty24 hi0 ⟨g2, 0, none⟩ _ cap2 0 rfl rfl hc2 ?_)))
          exact ⟨⟨1, [0], by omega, by go_num, rfl, ⟨insL_perm (P := []) (r := 0) (k := 0) (List.Perm.refl _)⟩, .inr ⟨by omega, hr3k.out⟩, hI3⟩, by simp [intOf]; omega⟩
      · obtain ⟨g, cap, rfl, hcap, hmax, hg, hcells⟩ := id hrow
        rw [hPm] at hcap
        have t1 : Keep True := ⟨trivial⟩
        clear hrow
        rw [hPm]
        by_cases hlen : k + 1 < l2
        · have hlen' : (k : Int) + 1 < (l2 : Int) := by omega
          have hk10 : ¬ (k : Int) + 1 < 0 := by omega
          obtain ⟨b3, o3, hA3, d3⟩ := argZ_at hbk.out (k := k + 1) (by rw [hbl.out]; exact hlen)
          subst hA3
          have d3 := cell_below d3 hI.out.2.2
          generalize bs.getD (k + 1) 0 = z at d3
          have q53 := fun w => mod_any z (m := k + 1) (by omega) (by omega) w
          have hrm := modN_lt z (m := k + 1) (by omega)
          obtain ⟨rr, hrr⟩ : ∃ rr, modN z (k + 1) = rr := ⟨_, rfl⟩
          rw [hrr] at q53 hrm
          have hkm : rr ≤ k := by omega
          have e1 : ((k + 1 : Nat) : Int) = (k : Int) + 1 := by omega
          rw [e1] at q53
          clear hrr
          go_wp2_with (first
            | (go_at_call 53; (with_reducible refine (q53 _).mono ?_); rintro e wm ⟨rfl, hem⟩; rw [hem]; clear hem wm)
            | (at_builtin; go_loud (
               clear t1
               refine wpList_append_own _ rfl _ _ 23 rfl wr.heap.size 3 i0 (.int .i64 0) 1 8 ty24 hi0 hz0 hz1 hz2 rfl (by decide) _ 0 [] rfl (World.ownsRow_nil _ _ _ _) ⟨g, 0, none⟩ rr cap ((P.take rr).map vz) rfl (by simp; omega) (cells_take (m := rr) (zs := P) (by omega) hcells) (one_cells _) (by unfold maxLen; omega) (by omega) (Nat.le_refl _) ?_
               intro v1 w1 hown1 hgrow1 hnil1
               have hb1 : Below wr.heap.size wr w1 := Below.grown (Below.refl _ _) hgrow1 (Nat.le_refl _) (fun j hj => by cases hj)
               have hs1 := hb1.size
               have t2 : Keep True := ⟨trivial⟩
               clear hgrow1 hnil1))
            | (at_builtin; go_loud (
               clear t2
               refine wpList_append_own _ rfl _ _ 23 rfl wr.heap.size 3 i0 (.int .i64 0) 1 8 ty24 hi0 hz0 hz1 hz2 rfl (by decide) _ _ _ rfl (hown1.alloc _) ⟨w1.heap.size, 0, none⟩ 1 1 [.int .i64 k] rfl rfl (cell_one_new _ _ _) (fun x hx => by simp at hx; subst hx; rfl) (by unfold maxLen; omega) (by omega) (by simp; try omega) ?_
               intro v2 w2 hown2 hgrow2 hnil2
               have hb2 : Below wr.heap.size wr w2 := Below.grown (hb1.alloc hs1 _) hgrow2 (by simp; omega) (fun j hj => by have := (hown1.lt _ hj).1; omega)
               have hs2 := hb2.size
               have t3 : Keep True := ⟨trivial⟩
               clear hgrow2 hnil2 hown1 hb1))
            | (at_builtin; go_loud (
               clear t3
               obtain ⟨ad, had, hcl⟩ := src_of (r := rr) (w := w2) (cap := cap) (fun i hi => (hb2.cell (p := ⟨g, 0 + i, none⟩) hg).trans (hcells i hi)) (by rw [hPm]; exact hcap)
               refine wpList_append_own _ rfl _ _ 23 rfl wr.heap.size 3 i0 (.int .i64 0) 1 8 ty24 hi0 hz0 hz1 hz2 rfl (by decide) _ _ _ rfl hown2 ad (k - rr) (cap - rr) ((P.drop rr).map vz) (by first | exact congrArg (fun x => Value.slice x (k - rr) (cap - rr)) had | (split at had <;> first | exact congrArg (fun x => Value.slice x (k - rr) (cap - rr)) had | (exfalso; omega) | (injection had with had; subst had; simp only [Nat.sub_self]; rfl) | (injection had with had; subst had; simp; done))) (by simp; omega) hcl (one_cells _) (by unfold maxLen; omega) (by omega) (by omega) ?_
               intro v3 w3 hown3 hgrow3 hnil3
               have hb3 : Below wr.heap.size wr w3 := Below.grown hb2 hgrow3 (by omega) (fun j hj => by have := (hown2.lt _ hj).1; omega)
               have hr3 := Keep.mk (insL_row hPm hkm hown3)
               clear hgrow3 hnil3 hown2 hown3 hb2 had hcl)))
          have hI3 := Keep.mk (hI.out.keep hb3)
          exact ⟨⟨k + 1, insL P rr k, by omega, by go_num, insL_len hPm hkm, ⟨insL_perm hperm.out⟩, .inr ⟨by omega, hr3.out⟩, hI3⟩, by simp [intOf]; omega⟩
        · have hlen' : ¬ (k : Int) + 1 < (l2 : Int) := by omega
          have hkm : k ≤ k := Nat.le_refl _
          go_wp2_with (first
            | (at_builtin; go_loud (
               clear t1
               refine wpList_append_own _ rfl _ _ 23 rfl wr.heap.size 3 i0 (.int .i64 0) 1 8 ty24 hi0 hz0 hz1 hz2 rfl (by decide) _ 0 [] rfl (World.ownsRow_nil _ _ _ _) ⟨g, 0, none⟩ k cap ((P.take k).map vz) rfl (by simp; omega) (cells_take (m := k) (zs := P) (by omega) hcells) (one_cells _) (by unfold maxLen; omega) (by omega) (Nat.le_refl _) ?_
               intro v1 w1 hown1 hgrow1 hnil1
               have hb1 : Below wr.heap.size wr w1 := Below.grown (Below.refl _ _) hgrow1 (Nat.le_refl _) (fun j hj => by cases hj)
               have hs1 := hb1.size
               have t2 : Keep True := ⟨trivial⟩
               clear hgrow1 hnil1))
            | (at_builtin; go_loud (
               clear t2
               refine wpList_append_own _ rfl _ _ 23 rfl wr.heap.size 3 i0 (.int .i64 0) 1 8 ty24 hi0 hz0 hz1 hz2 rfl (by decide) _ _ _ rfl (hown1.alloc _) ⟨w1.heap.size, 0, none⟩ 1 1 [.int .i64 k] rfl rfl (cell_one_new _ _ _) (fun x hx => by simp at hx; subst hx; rfl) (by unfold maxLen; omega) (by omega) (by simp; try omega) ?_
               intro v2 w2 hown2 hgrow2 hnil2
               have hb2 : Below wr.heap.size wr w2 := Below.grown (hb1.alloc hs1 _) hgrow2 (by simp; omega) (fun j hj => by have := (hown1.lt _ hj).1; omega)
               have hs2 := hb2.size
               have t3 : Keep True := ⟨trivial⟩
               clear hgrow2 hnil2 hown1 hb1))
            | (at_builtin; go_loud (
               clear t3
               obtain ⟨ad, had, hcl⟩ := src_of (r := k) (w := w2) (cap := cap) (fun i hi => (hb2.cell (p := ⟨g, 0 + i, none⟩) hg).trans (hcells i hi)) (by rw [hPm]; exact hcap)
               refine wpList_append_own _ rfl _ _ 23 rfl wr.heap.size 3 i0 (.int .i64 0) 1 8 ty24 hi0 hz0 hz1 hz2 rfl (by decide) _ _ _ rfl hown2 ad 0 (cap - k) ((P.drop k).map vz) (by first | exact congrArg (fun x => Value.slice x 0 (cap - k)) had | (split at had <;> first | exact congrArg (fun x => Value.slice x 0 (cap - k)) had | (exfalso; omega) | (injection had with had; subst had; simp only [Nat.sub_self]; rfl) | (injection had with had; subst had; simp; done))) (by simp; omega) hcl (one_cells _) (by unfold maxLen; omega) (by omega) (by omega) ?_
               intro v3 w3 hown3 hgrow3 hnil3
               have hb3 : Below wr.heap.size wr w3 := Below.grown hb2 hgrow3 (by omega) (fun j hj => by have := (hown2.lt _ hj).1; omega)
               have hr3 := Keep.mk (insL_row hPm hkm (by rw [Nat.sub_self]; exact hown3))
               clear hgrow3 hnil3 hown2 hown3 hb2 had hcl)))
          have hI3 := Keep.mk (hI.out.keep hb3)
          exact ⟨⟨k + 1, insL P k k, by omega, by go_num, insL_len hPm hkm, ⟨insL_perm hperm.out⟩, .inr ⟨by omega, hr3.out⟩, hI3⟩, by simp [intOf]; omega⟩
    · obtain rfl : N = k := by omega
      have hlt' : ¬ (N : Int) < (N : Int) := by omega
      obtain ⟨go, co, rfl, hco, _⟩ := (hor.resolve_left (fun h => by omega)).2
      have hrow := (hor.resolve_left (fun h => by omega)).2
      clear hor
      rw [hPm] at hrow ⊢
      obtain ⟨wo, rfl⟩ : ∃ x, x = wr := ⟨_, rfl⟩
      obtain ⟨hGE, hRen⟩ := ren_ok hGk.out hperm.out
      have hk2 : Keep (Hd w wo (.slice Al M cl) E [(.slice (some ⟨go, 0, none⟩) N co, P)]) := ⟨hI.out.put (Below.refl _ _) (row_ints hrow)⟩
      have hpe : Keep (∀ i, i < N → P.getD i 0 = (pOf P i : Int)) := ⟨fun i hi => pOf_eq hperm.out hi⟩
      have hpl : Keep (∀ i, i < N → pOf P i < N) := ⟨fun i hi => pOf_lt hperm.out hi⟩
      have hta : Keep (∀ S, InN N S → Eqv (tTo (pOf P) (vsTo S 12)) (ren N (qOf P) S)) := ⟨fun S hS => tTo_all hperm.out hN12 hS⟩
      obtain ⟨p, hp⟩ : ∃ p, pOf P = p := ⟨_, rfl⟩
      obtain ⟨q, hq⟩ : ∃ q, qOf P = q := ⟨_, rfl⟩
      rw [hp] at hGE hRen hpe hpl hta
      rw [hq] at hRen hta
      have hGEk := Keep.mk hGE
      have hRk := Keep.mk hRen
      clear hp hq hGE hRen hrow hI
      go_wp2
      go_loopw [13, 12] (fun i ov wr => ∃ k : Nat, k ≤ M ∧ i = .int .i64 k ∧ Keep (wr.ownsRow wo.heap.size 63 2 ov k (enc2 ((E.map (edgeR p)).take k)) ∧ Below wo.heap.size wo wr) ∧ ∃ A c, ov = .slice A k c) (fun i _ _ => M - (intOf i).toNat)
      case atStart => exact ⟨0, by omega, rfl, ⟨World.ownsRow_nil _ _ _ _, Below.refl _ _⟩, _, _, rfl⟩
      case round =>
        obtain ⟨k, hk, rfl, hJ, Ac, cc, rfl⟩ := hrel
        have hw2 : IntKind.i64.wrap ((k : Int) + 1) = (k : Int) + 1 := IntWalk.i64_in _ (by omega)
        by_cases hlt2 : k < M
        · have hlt2' : (k : Int) < (M : Int) := by omega
          have hk0 : ¬ (k : Int) < 0 := by omega
          have hed := hGk.out.ok.ed k (by rw [hM.out]; exact hlt2)
          have hH := hk2.out.keep hJ.out.2
          obtain ⟨A', cap', hv', hc'⟩ := hH.ps
          injection hv' with h1 h2 h3
          obtain ⟨gl, hA', c0, c1⟩ := hc' k (by rw [hM.out]; exact hlt2)
          rw [← h1] at hA'
          subst hA'
          obtain ⟨xy, hxy0⟩ : ∃ xy, E.getD k (0, 0) = xy := ⟨_, rfl⟩
          rw [hxy0] at hed c0 c1
          obtain ⟨x, y⟩ := xy
          obtain ⟨e1, e2, e3, e4, e5, _⟩ := hed
          simp only at e1 e2 e3 e4 e5 c0 c1
          obtain ⟨a, rfl⟩ : ∃ a : Nat, x = (a : Int) := ⟨x.toNat, by omega⟩
          obtain ⟨b, rfl⟩ : ∃ b : Nat, y = (b : Int) := ⟨y.toNat, by omega⟩
          have hxy := Keep.mk hxy0
          have hi := hH.at (v := .slice (some ⟨go, 0, none⟩) N co) (z := P) (.head _)
          have ca := ints_cell hi (k := a) (by rw [hPm]; omega)
          have cb := ints_cell hi (k := b) (by rw [hPm]; omega)
          rw [Nat.zero_add, hpe.out a (by omega)] at ca
          rw [Nat.zero_add, hpe.out b (by omega)] at cb
          obtain ⟨pa, hpa0⟩ : ∃ pa, p a = pa := ⟨_, rfl⟩
          obtain ⟨pb, hpb0⟩ : ∃ pb, p b = pb := ⟨_, rfl⟩
          rw [hpa0] at ca
          rw [hpb0] at cb
          have hpa := Keep.mk hpa0
          have hpb := Keep.mk hpb0
          have hpaN : pa < N := by rw [← hpa0]; exact hpl.out a (by omega)
          have hpbN : pb < N := by rw [← hpb0]; exact hpl.out b (by omega)
          have ha0 : ¬ (a : Int) < 0 := by omega
          have hb0 : ¬ (b : Int) < 0 := by omega
          have hneab : pa ≠ pb := fun e => by
            have h1 := hRk.out.qp a (by omega)
            have h2 := hRk.out.qp b (by omega)
            rw [hpa0, e, ← hpb0, h2] at h1; omega
          clear hc' h1 h2 h3 hxy0 hpa0 hpb0 hi hH
          go_wp2
          refine (wpIn_wide (n := 0)).1 ?_
          refine Many.region_many (Cq (wr)) hmx (by kernel_rfl) (fun s s' W' h hc => hc) (fun s hs => ⟨1, rfl⟩) ?_
          refine Many.lex_want (by rfl) (rd (v := .slice (some ⟨go, 0, none⟩) N co) (fun q => by (go_simp; (try rfl); (try (intro hneg; omega))))) ?_
          simp only [Act.put, List.setIfInBounds_toArray, List.set_cons_succ, List.set_cons_zero, Nat.reduceAdd]
          refine Many.lex_want (by rfl) (rd (v := .slice (some ⟨gl, 0, none⟩) M cl) (fun q => by (go_simp; (try rfl); (try (intro hneg; omega))))) ?_
          simp only [Act.put, List.setIfInBounds_toArray, List.set_cons_succ, List.set_cons_zero, Nat.reduceAdd]
          refine Many.lex_want (by rfl) (rd (v := .int .i64 k) (fun q => by (go_simp; (try rfl); (try (intro hneg; omega))))) ?_
          simp only [Act.put, List.setIfInBounds_toArray, List.set_cons_succ, List.set_cons_zero, Nat.reduceAdd]
          refine Many.lex_want (by rfl) (rd (v := .pointer (some ⟨gl, k * 2, none⟩)) (fun q => by (go_simp; (try rfl); (try (intro hneg; omega))))) ?_
          simp only [Act.put, List.setIfInBounds_toArray, List.set_cons_succ, List.set_cons_zero, Nat.reduceAdd]
          refine Many.lex_want (by rfl) (rd (v := .pointer (some ⟨gl, k * 2, none⟩)) (fun q => by (go_simp; (try rfl); (try (intro hneg; omega))))) ?_
          simp only [Act.put, List.setIfInBounds_toArray, List.set_cons_succ, List.set_cons_zero, Nat.reduceAdd]
          refine Many.lex_want (by rfl) (rd (v := .int .i64 a) (fun q => by (go_simp; (try rfl); (try (intro hneg; omega))))) ?_
          simp only [Act.put, List.setIfInBounds_toArray, List.set_cons_succ, List.set_cons_zero, Nat.reduceAdd]
          refine Many.lex_want (by rfl) (rd (v := .pointer (some ⟨go, a, none⟩)) (fun q => by (go_simp; (try rfl); (try (intro hneg; omega))))) ?_
          simp only [Act.put, List.setIfInBounds_toArray, List.set_cons_succ, List.set_cons_zero, Nat.reduceAdd]
          refine Many.lex_want (by rfl) (rd (v := .int .i64 pa) (fun q => by (go_simp; (try rfl); (try (intro hneg; omega))))) ?_
          simp only [Act.put, List.setIfInBounds_toArray, List.set_cons_succ, List.set_cons_zero, Nat.reduceAdd]
          refine Many.lex_want (by rfl) (rd (v := .slice (some ⟨go, 0, none⟩) N co) (fun q => by (go_simp; (try rfl); (try (intro hneg; omega))))) ?_
          simp only [Act.put, List.setIfInBounds_toArray, List.set_cons_succ, List.set_cons_zero, Nat.reduceAdd]
          refine Many.lex_want (by rfl) (rd (v := .slice (some ⟨gl, 0, none⟩) M cl) (fun q => by (go_simp; (try rfl); (try (intro hneg; omega))))) ?_
          simp only [Act.put, List.setIfInBounds_toArray, List.set_cons_succ, List.set_cons_zero, Nat.reduceAdd]
          refine Many.lex_want (by rfl) (rd (v := .int .i64 k) (fun q => by (go_simp; (try rfl); (try (intro hneg; omega))))) ?_
          simp only [Act.put, List.setIfInBounds_toArray, List.set_cons_succ, List.set_cons_zero, Nat.reduceAdd]
          refine Many.lex_want (by rfl) (rd (v := .pointer (some ⟨gl, k * 2, none⟩)) (fun q => by (go_simp; (try rfl); (try (intro hneg; omega))))) ?_
          simp only [Act.put, List.setIfInBounds_toArray, List.set_cons_succ, List.set_cons_zero, Nat.reduceAdd]
          refine Many.lex_want (by rfl) (rd (v := .pointer (some ⟨gl, k * 2 + 1, none⟩)) (fun q => by (go_simp; (try rfl); (try (intro hneg; omega))))) ?_
          simp only [Act.put, List.setIfInBounds_toArray, List.set_cons_succ, List.set_cons_zero, Nat.reduceAdd]
          refine Many.lex_want (by rfl) (rd (v := .int .i64 b) (fun q => by (go_simp; (try rfl); (try (intro hneg; omega))))) ?_
          simp only [Act.put, List.setIfInBounds_toArray, List.set_cons_succ, List.set_cons_zero, Nat.reduceAdd]
          refine Many.lex_want (by rfl) (rd (v := .pointer (some ⟨go, b, none⟩)) (fun q => by (go_simp; (try rfl); (try (intro hneg; omega))))) ?_
          simp only [Act.put, List.setIfInBounds_toArray, List.set_cons_succ, List.set_cons_zero, Nat.reduceAdd]
          refine Many.lex_want (by rfl) (rd (v := .int .i64 pb) (fun q => by (go_simp; (try rfl); (try (intro hneg; omega))))) ?_
          simp only [Act.put, List.setIfInBounds_toArray, List.set_cons_succ, List.set_cons_zero, Nat.reduceAdd]
          refine Many.lex_want (by rfl) (rd (v := .int .i64 pa) (fun q => by (go_simp; (try rfl); (try (intro hneg; omega))))) ?_
          simp only [Act.put, List.setIfInBounds_toArray, List.set_cons_succ, List.set_cons_zero, Nat.reduceAdd]
          refine Many.lex_want (by rfl) (rd (v := .int .i64 pb) (fun q => by (go_simp; (try rfl); (try (intro hneg; omega))))) ?_
          simp only [Act.put, List.setIfInBounds_toArray, List.set_cons_succ, List.set_cons_zero, Nat.reduceAdd]
          refine Many.lex_nil fun s9 W2 hs9 hS9 => ?_
          have hJ2 : Keep (W2.ownsRow wo.heap.size 63 2 (.slice Ac k cc) k (enc2 ((E.map (edgeR p)).take k)) ∧ Below wo.heap.size wo W2) := by
            obtain ⟨nq, rfl⟩ := hS9
            have hb := below_dn wr nq
            exact ⟨row_after hJ.out.1 hb, hJ.out.2.trans (hb.mono hJ.out.2.size)⟩
          clear hJ hS9 hs9 ca cb c0 c1
          by_cases hle : pa < pb
          · have hle2 : ¬ pb < pa := by omega
            have hmn1 : min (pa : Int) (pb : Int) = (pa : Int) := by omega
            have hmx1 : max (pa : Int) (pb : Int) = (pb : Int) := by omega
            have htk : (E.map (edgeR p)).take (k + 1) = (E.map (edgeR p)).take k ++ [((pa : Int), (pb : Int))] := by
              rw [takep (by rw [List.length_map, hM.out]; exact hlt2), List.getD_eq_getElem?_getD, List.getElem?_map, List.getElem?_eq_getElem (by rw [hM.out]; exact hlt2)]
              have hx2 : E[k]'(by rw [hM.out]; exact hlt2) = ((a : Int), (b : Int)) := by
                rw [← hxy.out, List.getD_eq_getElem?_getD, List.getElem?_eq_getElem (by rw [hM.out]; exact hlt2)]; rfl
              rw [hx2]
              simp only [Option.map_some, Option.getD_some]
              unfold edgeR
              simp only [Int.toNat_natCast]
              rw [hpa.out, hpb.out, hmn1, hmx1]
            have htkk := Keep.mk htk
            clear htk
            go_wp2_with (first
              | (at_builtin; refine wpList_append_own_at _ rfl _ _ 22 rfl wo.heap.size 63 j0 (.agg #[.int .i64 0, .int .i64 0]) 2 16 ty22 hj0 hy0 hy1 hy2 rfl (by decide) _ k (enc2 ((E.map (edgeR p)).take k)) rfl (hJ2.out.1.alloc _) ⟨W2.heap.size, 0, none⟩ 1 1 [.int .i64 pa, .int .i64 pb] rfl rfl (cell_two_new _ _ _ _) (two_one _ _) (by unfold maxLen; omega) (by omega) (by have := hJ2.out.2.size; simp; omega) ?_; intro v' w1 hown hgrow _ _
                 obtain ⟨g', cap', rfl⟩ := ownsRow_succ hown
                 have h10k := Keep.mk (And.intro hown hgrow)
                 clear hown hgrow))
            have hb10 : Below wo.heap.size wo w1 := hJ2.out.2.trans (Below.grown ((Below.refl _ W2).alloc (by have := hJ2.out.2.size; omega) _) h10k.out.2 (by have := hJ2.out.2.size; simp; omega) (fun j hj => by
              have hj' : (Value.slice Ac k cc).ownBlock = some j := hj
              exact (hJ2.out.1.lt j hj').1))
            exact ⟨⟨k + 1, by omega, by go_num, ⟨by rw [htkk.out, enc2_push]; exact h10k.out.1, hb10⟩, _, _, rfl⟩, by simp [intOf]; omega⟩
          · have hle2 : pb < pa := by omega
            have hmn1 : min (pa : Int) (pb : Int) = (pb : Int) := by omega
            have hmx1 : max (pa : Int) (pb : Int) = (pa : Int) := by omega
            have htk : (E.map (edgeR p)).take (k + 1) = (E.map (edgeR p)).take k ++ [((pb : Int), (pa : Int))] := by
              rw [takep (by rw [List.length_map, hM.out]; exact hlt2), List.getD_eq_getElem?_getD, List.getElem?_map, List.getElem?_eq_getElem (by rw [hM.out]; exact hlt2)]
              have hx2 : E[k]'(by rw [hM.out]; exact hlt2) = ((a : Int), (b : Int)) := by
                rw [← hxy.out, List.getD_eq_getElem?_getD, List.getElem?_eq_getElem (by rw [hM.out]; exact hlt2)]; rfl
              rw [hx2]
              simp only [Option.map_some, Option.getD_some]
              unfold edgeR
              simp only [Int.toNat_natCast]
              rw [hpa.out, hpb.out, hmn1, hmx1]
            have htkk := Keep.mk htk
            clear htk
            go_wp2_with (first
              | (at_builtin; refine wpList_append_own_at _ rfl _ _ 22 rfl wo.heap.size 63 j0 (.agg #[.int .i64 0, .int .i64 0]) 2 16 ty22 hj0 hy0 hy1 hy2 rfl (by decide) _ k (enc2 ((E.map (edgeR p)).take k)) rfl (hJ2.out.1.alloc _) ⟨W2.heap.size, 0, none⟩ 1 1 [.int .i64 pb, .int .i64 pa] rfl rfl (cell_two_new _ _ _ _) (two_one _ _) (by unfold maxLen; omega) (by omega) (by have := hJ2.out.2.size; simp; omega) ?_; intro v' w1 hown hgrow _ _
                 obtain ⟨g', cap', rfl⟩ := ownsRow_succ hown
                 have h10k := Keep.mk (And.intro hown hgrow)
                 clear hown hgrow))
            have hb10 : Below wo.heap.size wo w1 := hJ2.out.2.trans (Below.grown ((Below.refl _ W2).alloc (by have := hJ2.out.2.size; omega) _) h10k.out.2 (by have := hJ2.out.2.size; simp; omega) (fun j hj => by
              have hj' : (Value.slice Ac k cc).ownBlock = some j := hj
              exact (hJ2.out.1.lt j hj').1))
            exact ⟨⟨k + 1, by omega, by go_num, ⟨by rw [htkk.out, enc2_push]; exact h10k.out.1, hb10⟩, _, _, rfl⟩, by simp [intOf]; omega⟩
        · obtain rfl : M = k := by omega
          have hlt2' : ¬ (M : Int) < (M : Int) := by omega
          have hkE := Keep.mk (hk2.out.keep hJ.out.2)
          have hPo : Keep (PairsOf wr (.slice Ac M cc) (E.map (edgeR p))) := ⟨by
            have h := hJ.out.1
            have hml : (E.map (edgeR p)).length = M := by rw [List.length_map]; exact hM.out
            rw [List.take_of_length_le (by rw [hml]; exact Nat.le_refl _)] at h
            exact own_pairs (by rw [hml]; exact h)⟩
          obtain ⟨E2, hE2⟩ : ∃ E2, E.map (edgeR p) = E2 := ⟨_, rfl⟩
          rw [hE2] at hPo hGEk hRk
          obtain ⟨w4, rfl⟩ : ∃ x, x = wr := ⟨_, rfl⟩
          clear hJ hk2 hE2
          by_cases hl0 : l2 = 0
          · subst hl0
            have q51 := fun W => oSomeSl hN12 0 (S := someS N 0) rfl (l := sz (someS N 0)) rfl W
            have hSin := someS_inN N 0
            obtain ⟨S, hS⟩ : ∃ S, someS N 0 = S := ⟨_, rfl⟩
            rw [hS] at q51 hSin
            clear hS
            obtain ⟨lS, hlS⟩ : ∃ lS, Keep (sz S = lS) := ⟨_, ⟨rfl⟩⟩
            rw [hlS.out] at q51
            have hlS12 : lS ≤ 12 := by rw [← hlS.out]; exact vsTo_len S 12
            have hSk := Keep.mk hSin
            have hsu : Keep (∀ k, k < lS → (vsTo S 12).getD k 0 < N ∧ (zsOf S).getD k 0 = (((vsTo S 12).getD k 0 : Nat) : Int)) := ⟨fun k hk => by
              have hk' : k < (vsTo S 12).length := by have := hlS.out; unfold sz at this; omega
              have hm := getN_mem hk'
              have hm : (vsTo S 12).getD k 0 < 12 ∧ S ((vsTo S 12).getD k 0) = true := by
                have h := List.mem_filter.1 (show (vsTo S 12).getD k 0 ∈ (List.range 12).filter S from hm)
                exact ⟨List.mem_range.1 h.1, h.2⟩
              refine ⟨?_, ?_⟩
              · show (vsTo S 12).getD k 0 < N
                rcases Nat.lt_or_ge ((vsTo S 12).getD k 0) N with h' | h'
                · exact h'
                · have := hSin _ h' hm.1; rw [this] at hm; exact absurd hm.2 (by simp)
              · unfold zsOf
                rw [List.getD_eq_getElem?_getD, List.getElem?_map, List.getD_eq_getElem?_getD, List.getElem?_eq_getElem hk']; rfl⟩
            have hmm4 := modN_lt 0 (m := 4) (by omega)
            have q53 : ∀ w, Calls Try.prog 53 #[.int .i64 0, .int .i64 4] w fun e w' => e = .returned (.int .i64 (modN 0 4 : Nat)) ∧ w' = w := fun w => mod_any 0 (m := 4) (by omega) (by omega) w
            obtain ⟨mm, hmm⟩ : ∃ mm, modN 0 4 = mm := ⟨_, rfl⟩
            rw [hmm] at q53 hmm4
            obtain ⟨r, hr⟩ : ∃ r : Int, 1 + (mm : Int) = r := ⟨_, rfl⟩
            have hwr : IntKind.i64.wrap (1 + (mm : Int)) = r := by rw [IntWalk.i64_in _ (by omega)]; exact hr
            have hr1 : 1 ≤ r := by omega
            have hr6 : r ≤ 6 := by omega
            clear hmm hr hSin
            go_wp2_with (first
              | (go_at_call 51; (with_reducible refine (q51 _).mono ?_); rintro e w5 ⟨Xs, cs, rfl, hi, hb⟩
                 have hk5 : Keep (Hd w w5 (.slice Al M cl) E [(.slice Xs lS cs, zsOf S), (.slice (some ⟨go, 0, none⟩) N co, P)] ∧ PairsOf w5 (.slice Ac M cc) E2) := ⟨hkE.out.put hb hi, pairsOf_below hPo.out hb⟩
                 clear hi hb q51 hkE hPo))
            go_loopw [19, 18] (fun i tv wr => ∃ k : Nat, k ≤ lS ∧ i = .int .i64 k ∧ ∃ n : Nat, tv = .int .i64 n ∧ Keep (num (tTo p ((vsTo S 12).take k)) = n) ∧ Keep (Hd w wr (.slice Al M cl) E [(.slice Xs lS cs, zsOf S), (.slice (some ⟨go, 0, none⟩) N co, P)] ∧ PairsOf wr (.slice Ac M cc) E2)) (fun i _ _ => lS - (intOf i).toNat)
            case atStart => exact ⟨0, by omega, rfl, 0, rfl, ⟨by rw [List.take_zero]; exact num_nil p⟩, hk5⟩
            case round =>
              obtain ⟨k, hk, rfl, n, rfl, hn, hI⟩ := hrel
              have hw3 : IntKind.i64.wrap ((k : Int) + 1) = (k : Int) + 1 := IntWalk.i64_in _ (by omega)
              by_cases hlt3 : k < lS
              · have hlt3' : (k : Int) < (lS : Int) := by omega
                have hk0 : ¬ (k : Int) < 0 := by omega
                obtain ⟨huN, hzu⟩ := hsu.out k hlt3
                have hst := tTo_step (p := p) (l := vsTo S 12) (k := k) (by have := hlS.out; unfold sz at this; omega) (by have := hpl.out _ huN; omega)
                have hv5 := hI.out.1.at (v := .slice Xs lS cs) (z := zsOf S) (.head _)
                obtain ⟨A', cap', hv', hc'⟩ := hv5
                injection hv' with h1 h2 h3
                obtain ⟨gs, os, hA', cs0⟩ := hc' k (by rw [← h2]; exact hlt3)
                rw [← h1] at hA'
                subst hA'
                rw [hzu] at cs0
                generalize (vsTo S 12).getD k 0 = u at hst huN cs0
                have co0 := ints_cell (hI.out.1.at (v := .slice (some ⟨go, 0, none⟩) N co) (z := P) (.tail _ (.head _))) (k := u) (by rw [hPm]; exact huN)
                rw [Nat.zero_add, hpe.out u huN] at co0
                have hpuN := hpl.out u huN
                generalize p u = pu at hst co0 hpuN
                rw [hn.out] at hst
                obtain ⟨n2, hn2⟩ : ∃ n2, num (tTo p ((vsTo S 12).take (k + 1))) = n2 := ⟨_, rfl⟩
                rw [hn2] at hst
                have hnl : n < 4096 := by rw [← hn.out]; exact num_lt _
                obtain ⟨PP, hPP⟩ : ∃ PP : Nat, 2 ^ pu = PP := ⟨_, rfl⟩
                have wP : IntKind.i64.wrap (2 ^ pu) = (PP : Int) := by rw [← hPP]; exact wrap_pow (by omega)
                have lP : PP ≤ 4096 := by rw [← hPP]; exact pow_lt (by omega)
                have hor : bits .or .i64 (n : Int) (PP : Int) = ((n2 : Nat) : Int) := by
                  rw [or_i64 _ _ (by omega) (by omega), ← hPP, ← hst]
                have hu0 : ¬ (u : Int) < 0 := by omega
                have huN' : (u : Int) < (N : Int) := by omega
                have hpu0 : ¬ (pu : Int) < 0 := by omega
                have hnk := Keep.mk hn2
                clear hc' h1 h2 h3 hst hPP hn2 hzu
                go_wp2
                exact ⟨⟨k + 1, by omega, by go_num, n2, rfl, hnk, hI⟩, by simp [intOf]; omega⟩
              · obtain rfl : lS = k := by omega
                have hlt3' : ¬ (lS : Int) < (lS : Int) := by omega
                have hnS : Keep (num (ren N q S) = n) := ⟨by
                  rw [← hn.out, List.take_of_length_le (by have := hlS.out; unfold sz at this; omega)]
                  exact (num_ext (hta.out S hSk.out)).symm⟩
                have hk6 := hI
                have hS2in := ren_in hRk.out S
                have hrr := Keep.mk (fun j (hj : j < N) => rounds_ren hRk.out hSk.out hj)
                obtain ⟨S2, hS2⟩ : ∃ S2, ren N q S = S2 := ⟨_, rfl⟩
                rw [hS2] at hnS hS2in hrr
                clear hS2 hn hsu hta
                have q20a := Keep.mk (oRnd hGk.out hSk.out)
                have q20b := Keep.mk (oRnd hGEk.out hS2in)
                have hcmp : Keep (∀ c, c < N → (rowL (roundsOf (adjOf E) N S) N).getD c 0 = (rowL (roundsOf (adjOf E2) N S2) N).getD (p c) 0) := ⟨fun c hc => by
                  rw [rowL_at _ hc, rowL_at _ (hpl.out c hc), hrr.out c hc]⟩
                have hRAl : (rowL (roundsOf (adjOf E) N S) N).length = N := by simp [rowL]
                have hRBl : (rowL (roundsOf (adjOf E2) N S2) N).length = N := by simp [rowL]
                obtain ⟨RA, hRA⟩ : ∃ RA, rowL (roundsOf (adjOf E) N S) N = RA := ⟨_, rfl⟩
                obtain ⟨RB, hRB⟩ : ∃ RB, rowL (roundsOf (adjOf E2) N S2) N = RB := ⟨_, rfl⟩
                rw [hRA] at q20a hcmp hRAl
                rw [hRB] at q20b hcmp hRBl
                have hRAk := Keep.mk hRAl
                have hRBk := Keep.mk hRBl
                clear hRA hRB hrr hRAl hRBl
                have q28 := fun W => oList (N := N) hnS.out W
                obtain ⟨lF, hlF⟩ : ∃ l, sz (leastOf N (forcing N E)) = l := ⟨_, rfl⟩
                have hlF2 : sz (leastOf N (forcing N E2)) = lF := by rw [← hlF]; exact (least_ren hGk.out hGEk.out hRk.out).symm
                have q34a := Keep.mk (fun W ve he => oLeast hGk.out rfl hlF W ve he)
                have q34b := Keep.mk (fun W ve he => oLeast hGEk.out rfl hlF2 W ve he)
                obtain ⟨Mf, hMf⟩ : ∃ l, (fortsOf N (adjOf E)).length = l := ⟨_, rfl⟩
                have hMf2 : (fortsOf N (adjOf E2)).length = Mf := by rw [← hMf]; exact (forts_ren hRk.out).symm
                have hMf1 : 1 ≤ Mf := by rw [← hMf]; exact forts_ne hN1 hN12 (adjOf E)
                have hMf3 : Mf ≤ 4095 := by rw [← hMf]; exact forts_len hN12 (adjOf E)
                have q35a := Keep.mk (fun W ve he => oFortsL hGk.out rfl hMf hMf1 W ve he)
                have q35b := Keep.mk (fun W ve he => oFortsL hGEk.out rfl hMf2 hMf1 W ve he)
                obtain ⟨lW, hlW⟩ : ∃ l, sz (leastOf N (soaking N E r)) = l := ⟨_, rfl⟩
                have hlW2 : sz (leastOf N (soaking N E2 r)) = lW := by rw [← hlW]; exact (fewest_ren hGk.out hGEk.out hRk.out hr1).symm
                have q39a := Keep.mk (fun W ve he => oFewSl hGk.out hr1 hr6 hlW W ve he)
                have q39b := Keep.mk (fun W ve he => oFewSl hGEk.out hr1 hr6 hlW2 W ve he)
                clear hlF hlF2 hMf hMf2 hlW hlW2 hS2in
                go_wp2_with (first
                  | (go_at_call 20; have hp := hk6.out.1.ps; have hv := hk6.out.1.at (v := .slice Xs lS cs) (z := zsOf S) (.head _)
                     (with_reducible refine (q20a.out _ _ _ hp hv).mono ?_); rintro e w6 ⟨ra, rfl, hi, hb⟩
                     have hk7 := Keep.mk (And.intro (hk6.out.1.put hb hi) (pairsOf_below hk6.out.2 hb))
                     clear hi hb hp hv hk6 hI q20a)
                  | (go_at_call 28; (with_reducible refine (q28 _).mono ?_); rintro e w7 ⟨vt, rfl, hi, hb⟩
                     have hk8 := Keep.mk (And.intro (hk7.out.1.put hb hi) (pairsOf_below hk7.out.2 hb))
                     clear hi hb hk7 q28)
                  | (go_at_call 20; have hp := hk8.out.2; have hv := hk8.out.1.at (v := vt) (z := zsOf S2) (.head _)
                     (with_reducible refine (q20b.out _ _ _ hp hv).mono ?_); rintro e w8 ⟨rb, rfl, hi, hb⟩
                     have hk9 := Keep.mk (And.intro (hk8.out.1.put hb hi) (pairsOf_below hk8.out.2 hb))
                     clear hi hb hp hv hk8 q20b)
                  | (go_at_call 34; have hp := hk9.out.1.ps
                     (with_reducible refine (q34a.out _ _ hp).mono ?_); rintro e w9 ⟨Xa, ca, rfl, hi, hb⟩
                     have hk10 := Keep.mk (And.intro (hk9.out.1.keep hb) (pairsOf_below hk9.out.2 hb))
                     clear hi hb hp hk9 q34a)
                  | (go_at_call 34; have hp := hk10.out.2
                     (with_reducible refine (q34b.out _ _ hp).mono ?_); rintro e w10 ⟨Xb, cb, rfl, hi, hb⟩
                     have hk11 := Keep.mk (And.intro (hk10.out.1.keep hb) (pairsOf_below hk10.out.2 hb))
                     clear hi hb hp hk10 q34b)
                  | (go_at_call 35; have hp := hk11.out.1.ps
                     (with_reducible refine (q35a.out _ _ hp).mono ?_); rintro e w11 ⟨ga, ca2, rfl, hi, hb⟩
                     have hk12 := Keep.mk (And.intro (hk11.out.1.keep hb) (pairsOf_below hk11.out.2 hb))
                     clear hi hb hp hk11 q35a)
                  | (go_at_call 35; have hp := hk12.out.2
                     (with_reducible refine (q35b.out _ _ hp).mono ?_); rintro e w12 ⟨gb, cb2, rfl, hi, hb⟩
                     have hk13 := Keep.mk (And.intro (hk12.out.1.keep hb) (pairsOf_below hk12.out.2 hb))
                     clear hi hb hp hk12 q35b)
                  | (go_at_call 53; (with_reducible refine (q53 _).mono ?_); rintro e wm ⟨rfl, hem⟩; rw [hem]; clear hem wm q53)
                  | (go_at_call 39; have hp := hk13.out.1.ps
                     (with_reducible refine (q39a.out _ _ hp).mono ?_); rintro e w13 ⟨Xc, cc3, rfl, hi, hb⟩
                     have hk14 := Keep.mk (And.intro (hk13.out.1.keep hb) (pairsOf_below hk13.out.2 hb))
                     clear hi hb hp hk13 q39a)
                  | (go_at_call 39; have hp := hk14.out.2
                     (with_reducible refine (q39b.out _ _ hp).mono ?_); rintro e w14 ⟨Xd, cd3, rfl, hi, hb⟩
                     have hk15 := Keep.mk (And.intro (hk14.out.1.keep hb) (pairsOf_below hk14.out.2 hb))
                     clear hi hb hp hk14 q39b))
                go_loopw [37] (fun i wr => ∃ k : Nat, k ≤ N ∧ i = .int .i64 k ∧ Keep (Hd w wr (.slice Al M cl) E [(.slice (some ⟨rb, 0, none⟩) N N, RB), (vt, zsOf S2), (.slice (some ⟨ra, 0, none⟩) N N, RA), (.slice Xs lS cs, zsOf S), (.slice (some ⟨go, 0, none⟩) N co, P)])) (fun i _ => N - (intOf i).toNat)
                case atStart => exact ⟨0, by omega, rfl, ⟨hk15.out.1⟩⟩
                case round =>
                  obtain ⟨k, hk, rfl, hI⟩ := hrel
                  have hw4 : IntKind.i64.wrap ((k : Int) + 1) = (k : Int) + 1 := IntWalk.i64_in _ (by omega)
                  by_cases hlt4 : k < N
                  · have hlt4' : (k : Int) < (N : Int) := by omega
                    have hk0 : ¬ (k : Int) < 0 := by omega
                    have c1 := ints_cell (hI.out.at (v := .slice (some ⟨ra, 0, none⟩) N N) (z := RA) (.tail _ (.tail _ (.head _)))) (k := k) (by rw [hRAk.out]; exact hlt4)
                    have c2 := ints_cell (hI.out.at (v := .slice (some ⟨go, 0, none⟩) N co) (z := P) (.tail _ (.tail _ (.tail _ (.tail _ (.head _)))))) (k := k) (by rw [hPm]; exact hlt4)
                    have c3 := ints_cell (hI.out.at (v := .slice (some ⟨rb, 0, none⟩) N N) (z := RB) (.head _)) (k := p k) (by rw [hRBk.out]; exact hpl.out k hlt4)
                    have hpkN := hpl.out k hlt4
                    rw [Nat.zero_add, hcmp.out k hlt4] at c1
                    rw [Nat.zero_add, hpe.out k hlt4] at c2
                    rw [Nat.zero_add] at c3
                    generalize RB.getD (p k) 0 = rv at c1 c3
                    generalize p k = pk at c2 c3 hpkN
                    have hpk0 : ¬ (pk : Int) < 0 := by omega
                    have hpkN' : (pk : Int) < (N : Int) := by omega
                    go_wp2
                    refine (wpIn_wide (n := 0)).1 ?_
                    refine Many.region_many (Cq (wr)) hmx (by kernel_rfl) (fun s s' W' h hc => hc) (fun s hs => ⟨1, rfl⟩) ?_
                    refine Many.lex_want (by rfl) (rd (v := .slice (some ⟨ra, 0, none⟩) N N) (fun q => by (go_simp; (try rfl); (try (intro hneg; omega))))) ?_
                    simp only [Act.put, List.setIfInBounds_toArray, List.set_cons_succ, List.set_cons_zero, Nat.reduceAdd]
                    refine Many.lex_want (by rfl) (rd (v := .int .i64 k) (fun q => by (go_simp; (try rfl); (try (intro hneg; omega))))) ?_
                    simp only [Act.put, List.setIfInBounds_toArray, List.set_cons_succ, List.set_cons_zero, Nat.reduceAdd]
                    refine Many.lex_want (by rfl) (rd (v := .pointer (some ⟨ra, k, none⟩)) (fun q => by (go_simp; (try rfl); (try (intro hneg; omega))))) ?_
                    simp only [Act.put, List.setIfInBounds_toArray, List.set_cons_succ, List.set_cons_zero, Nat.reduceAdd]
                    refine Many.lex_want (by rfl) (rd (v := .int .i64 rv) (fun q => by (go_simp; (try rfl); (try (intro hneg; omega))))) ?_
                    simp only [Act.put, List.setIfInBounds_toArray, List.set_cons_succ, List.set_cons_zero, Nat.reduceAdd]
                    refine Many.lex_want (by rfl) (rd (v := .slice (some ⟨rb, 0, none⟩) N N) (fun q => by (go_simp; (try rfl); (try (intro hneg; omega))))) ?_
                    simp only [Act.put, List.setIfInBounds_toArray, List.set_cons_succ, List.set_cons_zero, Nat.reduceAdd]
                    refine Many.lex_want (by rfl) (rd (v := .slice (some ⟨go, 0, none⟩) N co) (fun q => by (go_simp; (try rfl); (try (intro hneg; omega))))) ?_
                    simp only [Act.put, List.setIfInBounds_toArray, List.set_cons_succ, List.set_cons_zero, Nat.reduceAdd]
                    refine Many.lex_want (by rfl) (rd (v := .int .i64 k) (fun q => by (go_simp; (try rfl); (try (intro hneg; omega))))) ?_
                    simp only [Act.put, List.setIfInBounds_toArray, List.set_cons_succ, List.set_cons_zero, Nat.reduceAdd]
                    refine Many.lex_want (by rfl) (rd (v := .pointer (some ⟨go, k, none⟩)) (fun q => by (go_simp; (try rfl); (try (intro hneg; omega))))) ?_
                    simp only [Act.put, List.setIfInBounds_toArray, List.set_cons_succ, List.set_cons_zero, Nat.reduceAdd]
                    refine Many.lex_want (by rfl) (rd (v := .int .i64 pk) (fun q => by (go_simp; (try rfl); (try (intro hneg; omega))))) ?_
                    simp only [Act.put, List.setIfInBounds_toArray, List.set_cons_succ, List.set_cons_zero, Nat.reduceAdd]
                    refine Many.lex_want (by rfl) (rd (v := .pointer (some ⟨rb, pk, none⟩)) (fun q => by (go_simp; (try rfl); (try (intro hneg; omega))))) ?_
                    simp only [Act.put, List.setIfInBounds_toArray, List.set_cons_succ, List.set_cons_zero, Nat.reduceAdd]
                    refine Many.lex_want (by rfl) (rd (v := .int .i64 rv) (fun q => by (go_simp; (try rfl); (try (intro hneg; omega))))) ?_
                    simp only [Act.put, List.setIfInBounds_toArray, List.set_cons_succ, List.set_cons_zero, Nat.reduceAdd]
                    refine Many.lex_want (by rfl) (rd (v := .bool false) (fun q => by (go_simp; (try rfl); (try (intro hneg; omega))))) ?_
                    simp only [Act.put, List.setIfInBounds_toArray, List.set_cons_succ, List.set_cons_zero, Nat.reduceAdd]
                    refine Many.lex_nil fun s9 W2 hs9 hS9 => ?_
                    have hI2 := Keep.mk (hI.out.keep (W' := W2) (by
                      obtain ⟨nq, rfl⟩ := hS9
                      exact below_dn wr nq))
                    clear hI hS9 hs9 c1 c2 c3
                    go_wp2
                    exact ⟨⟨k + 1, by omega, by go_num, hI2⟩, by simp [intOf]; omega⟩
                  · obtain rfl : N = k := by omega
                    have hlt4' : ¬ (N : Int) < (N : Int) := by omega
                    go_wp2_with (first
                      | (go_at_call 23; (with_reducible refine (awake_w _).mono ?_); rintro e wl ⟨rfl, hb⟩
                         have hZ2 := Keep.mk (hI.out.2.2.trans (hb.mono hI.out.2.2.size))
                         clear hb hI))
                    refine bodyPost_ret (v := .bool true) (by simp [results, Try.results14, go_sem]) rfl ?_
                    exact ⟨rfl, hZ2.out⟩
          · obtain ⟨b2, o2, hA2, d0⟩ := argZ_at hbk.out (k := 0) (by rw [hbl.out]; omega)
            subst hA2
            rw [Nat.add_zero] at d0
            have d0 := cell_below d0 hkE.out.2.2
            generalize bs.getD 0 0 = x0 at d0
            have hl2p : (l2 : Int) > 0 := by omega
            have q51 := fun W => oSomeSl hN12 x0 (S := someS N x0) rfl (l := sz (someS N x0)) rfl W
            have hSin := someS_inN N x0
            obtain ⟨S, hS⟩ : ∃ S, someS N x0 = S := ⟨_, rfl⟩
            rw [hS] at q51 hSin
            clear hS
            obtain ⟨lS, hlS⟩ : ∃ lS, Keep (sz S = lS) := ⟨_, ⟨rfl⟩⟩
            rw [hlS.out] at q51
            have hlS12 : lS ≤ 12 := by rw [← hlS.out]; exact vsTo_len S 12
            have hSk := Keep.mk hSin
            have hsu : Keep (∀ k, k < lS → (vsTo S 12).getD k 0 < N ∧ (zsOf S).getD k 0 = (((vsTo S 12).getD k 0 : Nat) : Int)) := ⟨fun k hk => by
              have hk' : k < (vsTo S 12).length := by have := hlS.out; unfold sz at this; omega
              have hm := getN_mem hk'
              have hm : (vsTo S 12).getD k 0 < 12 ∧ S ((vsTo S 12).getD k 0) = true := by
                have h := List.mem_filter.1 (show (vsTo S 12).getD k 0 ∈ (List.range 12).filter S from hm)
                exact ⟨List.mem_range.1 h.1, h.2⟩
              refine ⟨?_, ?_⟩
              · show (vsTo S 12).getD k 0 < N
                rcases Nat.lt_or_ge ((vsTo S 12).getD k 0) N with h' | h'
                · exact h'
                · have := hSin _ h' hm.1; rw [this] at hm; exact absurd hm.2 (by simp)
              · unfold zsOf
                rw [List.getD_eq_getElem?_getD, List.getElem?_map, List.getD_eq_getElem?_getD, List.getElem?_eq_getElem hk']; rfl⟩
            have hmm4 := modN_lt x0 (m := 4) (by omega)
            have q53 : ∀ w, Calls Try.prog 53 #[.int .i64 x0, .int .i64 4] w fun e w' => e = .returned (.int .i64 (modN x0 4 : Nat)) ∧ w' = w := fun w => mod_any x0 (m := 4) (by omega) (by omega) w
            obtain ⟨mm, hmm⟩ : ∃ mm, modN x0 4 = mm := ⟨_, rfl⟩
            rw [hmm] at q53 hmm4
            obtain ⟨r, hr⟩ : ∃ r : Int, 1 + (mm : Int) = r := ⟨_, rfl⟩
            have hwr : IntKind.i64.wrap (1 + (mm : Int)) = r := by rw [IntWalk.i64_in _ (by omega)]; exact hr
            have hr1 : 1 ≤ r := by omega
            have hr6 : r ≤ 6 := by omega
            clear hmm hr hSin
            go_wp2_with (first
              | (go_at_call 51; (with_reducible refine (q51 _).mono ?_); rintro e w5 ⟨Xs, cs, rfl, hi, hb⟩
                 have hk5 : Keep (Hd w w5 (.slice Al M cl) E [(.slice Xs lS cs, zsOf S), (.slice (some ⟨go, 0, none⟩) N co, P)] ∧ PairsOf w5 (.slice Ac M cc) E2) := ⟨hkE.out.put hb hi, pairsOf_below hPo.out hb⟩
                 clear hi hb q51 hkE hPo))
            go_loopw [19, 18] (fun i tv wr => ∃ k : Nat, k ≤ lS ∧ i = .int .i64 k ∧ ∃ n : Nat, tv = .int .i64 n ∧ Keep (num (tTo p ((vsTo S 12).take k)) = n) ∧ Keep (Hd w wr (.slice Al M cl) E [(.slice Xs lS cs, zsOf S), (.slice (some ⟨go, 0, none⟩) N co, P)] ∧ PairsOf wr (.slice Ac M cc) E2)) (fun i _ _ => lS - (intOf i).toNat)
            case atStart => exact ⟨0, by omega, rfl, 0, rfl, ⟨by rw [List.take_zero]; exact num_nil p⟩, hk5⟩
            case round =>
              obtain ⟨k, hk, rfl, n, rfl, hn, hI⟩ := hrel
              have hw3 : IntKind.i64.wrap ((k : Int) + 1) = (k : Int) + 1 := IntWalk.i64_in _ (by omega)
              by_cases hlt3 : k < lS
              · have hlt3' : (k : Int) < (lS : Int) := by omega
                have hk0 : ¬ (k : Int) < 0 := by omega
                obtain ⟨huN, hzu⟩ := hsu.out k hlt3
                have hst := tTo_step (p := p) (l := vsTo S 12) (k := k) (by have := hlS.out; unfold sz at this; omega) (by have := hpl.out _ huN; omega)
                have hv5 := hI.out.1.at (v := .slice Xs lS cs) (z := zsOf S) (.head _)
                obtain ⟨A', cap', hv', hc'⟩ := hv5
                injection hv' with h1 h2 h3
                obtain ⟨gs, os, hA', cs0⟩ := hc' k (by rw [← h2]; exact hlt3)
                rw [← h1] at hA'
                subst hA'
                rw [hzu] at cs0
                generalize (vsTo S 12).getD k 0 = u at hst huN cs0
                have co0 := ints_cell (hI.out.1.at (v := .slice (some ⟨go, 0, none⟩) N co) (z := P) (.tail _ (.head _))) (k := u) (by rw [hPm]; exact huN)
                rw [Nat.zero_add, hpe.out u huN] at co0
                have hpuN := hpl.out u huN
                generalize p u = pu at hst co0 hpuN
                rw [hn.out] at hst
                obtain ⟨n2, hn2⟩ : ∃ n2, num (tTo p ((vsTo S 12).take (k + 1))) = n2 := ⟨_, rfl⟩
                rw [hn2] at hst
                have hnl : n < 4096 := by rw [← hn.out]; exact num_lt _
                obtain ⟨PP, hPP⟩ : ∃ PP : Nat, 2 ^ pu = PP := ⟨_, rfl⟩
                have wP : IntKind.i64.wrap (2 ^ pu) = (PP : Int) := by rw [← hPP]; exact wrap_pow (by omega)
                have lP : PP ≤ 4096 := by rw [← hPP]; exact pow_lt (by omega)
                have hor : bits .or .i64 (n : Int) (PP : Int) = ((n2 : Nat) : Int) := by
                  rw [or_i64 _ _ (by omega) (by omega), ← hPP, ← hst]
                have hu0 : ¬ (u : Int) < 0 := by omega
                have huN' : (u : Int) < (N : Int) := by omega
                have hpu0 : ¬ (pu : Int) < 0 := by omega
                have hnk := Keep.mk hn2
                clear hc' h1 h2 h3 hst hPP hn2 hzu
                go_wp2
                exact ⟨⟨k + 1, by omega, by go_num, n2, rfl, hnk, hI⟩, by simp [intOf]; omega⟩
              · obtain rfl : lS = k := by omega
                have hlt3' : ¬ (lS : Int) < (lS : Int) := by omega
                have hnS : Keep (num (ren N q S) = n) := ⟨by
                  rw [← hn.out, List.take_of_length_le (by have := hlS.out; unfold sz at this; omega)]
                  exact (num_ext (hta.out S hSk.out)).symm⟩
                have hk6 := hI
                have hS2in := ren_in hRk.out S
                have hrr := Keep.mk (fun j (hj : j < N) => rounds_ren hRk.out hSk.out hj)
                obtain ⟨S2, hS2⟩ : ∃ S2, ren N q S = S2 := ⟨_, rfl⟩
                rw [hS2] at hnS hS2in hrr
                clear hS2 hn hsu hta
                have q20a := Keep.mk (oRnd hGk.out hSk.out)
                have q20b := Keep.mk (oRnd hGEk.out hS2in)
                have hcmp : Keep (∀ c, c < N → (rowL (roundsOf (adjOf E) N S) N).getD c 0 = (rowL (roundsOf (adjOf E2) N S2) N).getD (p c) 0) := ⟨fun c hc => by
                  rw [rowL_at _ hc, rowL_at _ (hpl.out c hc), hrr.out c hc]⟩
                have hRAl : (rowL (roundsOf (adjOf E) N S) N).length = N := by simp [rowL]
                have hRBl : (rowL (roundsOf (adjOf E2) N S2) N).length = N := by simp [rowL]
                obtain ⟨RA, hRA⟩ : ∃ RA, rowL (roundsOf (adjOf E) N S) N = RA := ⟨_, rfl⟩
                obtain ⟨RB, hRB⟩ : ∃ RB, rowL (roundsOf (adjOf E2) N S2) N = RB := ⟨_, rfl⟩
                rw [hRA] at q20a hcmp hRAl
                rw [hRB] at q20b hcmp hRBl
                have hRAk := Keep.mk hRAl
                have hRBk := Keep.mk hRBl
                clear hRA hRB hrr hRAl hRBl
                have q28 := fun W => oList (N := N) hnS.out W
                obtain ⟨lF, hlF⟩ : ∃ l, sz (leastOf N (forcing N E)) = l := ⟨_, rfl⟩
                have hlF2 : sz (leastOf N (forcing N E2)) = lF := by rw [← hlF]; exact (least_ren hGk.out hGEk.out hRk.out).symm
                have q34a := Keep.mk (fun W ve he => oLeast hGk.out rfl hlF W ve he)
                have q34b := Keep.mk (fun W ve he => oLeast hGEk.out rfl hlF2 W ve he)
                obtain ⟨Mf, hMf⟩ : ∃ l, (fortsOf N (adjOf E)).length = l := ⟨_, rfl⟩
                have hMf2 : (fortsOf N (adjOf E2)).length = Mf := by rw [← hMf]; exact (forts_ren hRk.out).symm
                have hMf1 : 1 ≤ Mf := by rw [← hMf]; exact forts_ne hN1 hN12 (adjOf E)
                have hMf3 : Mf ≤ 4095 := by rw [← hMf]; exact forts_len hN12 (adjOf E)
                have q35a := Keep.mk (fun W ve he => oFortsL hGk.out rfl hMf hMf1 W ve he)
                have q35b := Keep.mk (fun W ve he => oFortsL hGEk.out rfl hMf2 hMf1 W ve he)
                obtain ⟨lW, hlW⟩ : ∃ l, sz (leastOf N (soaking N E r)) = l := ⟨_, rfl⟩
                have hlW2 : sz (leastOf N (soaking N E2 r)) = lW := by rw [← hlW]; exact (fewest_ren hGk.out hGEk.out hRk.out hr1).symm
                have q39a := Keep.mk (fun W ve he => oFewSl hGk.out hr1 hr6 hlW W ve he)
                have q39b := Keep.mk (fun W ve he => oFewSl hGEk.out hr1 hr6 hlW2 W ve he)
                clear hlF hlF2 hMf hMf2 hlW hlW2 hS2in
                go_wp2_with (first
                  | (go_at_call 20; have hp := hk6.out.1.ps; have hv := hk6.out.1.at (v := .slice Xs lS cs) (z := zsOf S) (.head _)
                     (with_reducible refine (q20a.out _ _ _ hp hv).mono ?_); rintro e w6 ⟨ra, rfl, hi, hb⟩
                     have hk7 := Keep.mk (And.intro (hk6.out.1.put hb hi) (pairsOf_below hk6.out.2 hb))
                     clear hi hb hp hv hk6 hI q20a)
                  | (go_at_call 28; (with_reducible refine (q28 _).mono ?_); rintro e w7 ⟨vt, rfl, hi, hb⟩
                     have hk8 := Keep.mk (And.intro (hk7.out.1.put hb hi) (pairsOf_below hk7.out.2 hb))
                     clear hi hb hk7 q28)
                  | (go_at_call 20; have hp := hk8.out.2; have hv := hk8.out.1.at (v := vt) (z := zsOf S2) (.head _)
                     (with_reducible refine (q20b.out _ _ _ hp hv).mono ?_); rintro e w8 ⟨rb, rfl, hi, hb⟩
                     have hk9 := Keep.mk (And.intro (hk8.out.1.put hb hi) (pairsOf_below hk8.out.2 hb))
                     clear hi hb hp hv hk8 q20b)
                  | (go_at_call 34; have hp := hk9.out.1.ps
                     (with_reducible refine (q34a.out _ _ hp).mono ?_); rintro e w9 ⟨Xa, ca, rfl, hi, hb⟩
                     have hk10 := Keep.mk (And.intro (hk9.out.1.keep hb) (pairsOf_below hk9.out.2 hb))
                     clear hi hb hp hk9 q34a)
                  | (go_at_call 34; have hp := hk10.out.2
                     (with_reducible refine (q34b.out _ _ hp).mono ?_); rintro e w10 ⟨Xb, cb, rfl, hi, hb⟩
                     have hk11 := Keep.mk (And.intro (hk10.out.1.keep hb) (pairsOf_below hk10.out.2 hb))
                     clear hi hb hp hk10 q34b)
                  | (go_at_call 35; have hp := hk11.out.1.ps
                     (with_reducible refine (q35a.out _ _ hp).mono ?_); rintro e w11 ⟨ga, ca2, rfl, hi, hb⟩
                     have hk12 := Keep.mk (And.intro (hk11.out.1.keep hb) (pairsOf_below hk11.out.2 hb))
                     clear hi hb hp hk11 q35a)
                  | (go_at_call 35; have hp := hk12.out.2
                     (with_reducible refine (q35b.out _ _ hp).mono ?_); rintro e w12 ⟨gb, cb2, rfl, hi, hb⟩
                     have hk13 := Keep.mk (And.intro (hk12.out.1.keep hb) (pairsOf_below hk12.out.2 hb))
                     clear hi hb hp hk12 q35b)
                  | (go_at_call 53; (with_reducible refine (q53 _).mono ?_); rintro e wm ⟨rfl, hem⟩; rw [hem]; clear hem wm q53)
                  | (go_at_call 39; have hp := hk13.out.1.ps
                     (with_reducible refine (q39a.out _ _ hp).mono ?_); rintro e w13 ⟨Xc, cc3, rfl, hi, hb⟩
                     have hk14 := Keep.mk (And.intro (hk13.out.1.keep hb) (pairsOf_below hk13.out.2 hb))
                     clear hi hb hp hk13 q39a)
                  | (go_at_call 39; have hp := hk14.out.2
                     (with_reducible refine (q39b.out _ _ hp).mono ?_); rintro e w14 ⟨Xd, cd3, rfl, hi, hb⟩
                     have hk15 := Keep.mk (And.intro (hk14.out.1.keep hb) (pairsOf_below hk14.out.2 hb))
                     clear hi hb hp hk14 q39b))
                go_loopw [37] (fun i wr => ∃ k : Nat, k ≤ N ∧ i = .int .i64 k ∧ Keep (Hd w wr (.slice Al M cl) E [(.slice (some ⟨rb, 0, none⟩) N N, RB), (vt, zsOf S2), (.slice (some ⟨ra, 0, none⟩) N N, RA), (.slice Xs lS cs, zsOf S), (.slice (some ⟨go, 0, none⟩) N co, P)])) (fun i _ => N - (intOf i).toNat)
                case atStart => exact ⟨0, by omega, rfl, ⟨hk15.out.1⟩⟩
                case round =>
                  obtain ⟨k, hk, rfl, hI⟩ := hrel
                  have hw4 : IntKind.i64.wrap ((k : Int) + 1) = (k : Int) + 1 := IntWalk.i64_in _ (by omega)
                  by_cases hlt4 : k < N
                  · have hlt4' : (k : Int) < (N : Int) := by omega
                    have hk0 : ¬ (k : Int) < 0 := by omega
                    have c1 := ints_cell (hI.out.at (v := .slice (some ⟨ra, 0, none⟩) N N) (z := RA) (.tail _ (.tail _ (.head _)))) (k := k) (by rw [hRAk.out]; exact hlt4)
                    have c2 := ints_cell (hI.out.at (v := .slice (some ⟨go, 0, none⟩) N co) (z := P) (.tail _ (.tail _ (.tail _ (.tail _ (.head _)))))) (k := k) (by rw [hPm]; exact hlt4)
                    have c3 := ints_cell (hI.out.at (v := .slice (some ⟨rb, 0, none⟩) N N) (z := RB) (.head _)) (k := p k) (by rw [hRBk.out]; exact hpl.out k hlt4)
                    have hpkN := hpl.out k hlt4
                    rw [Nat.zero_add, hcmp.out k hlt4] at c1
                    rw [Nat.zero_add, hpe.out k hlt4] at c2
                    rw [Nat.zero_add] at c3
                    generalize RB.getD (p k) 0 = rv at c1 c3
                    generalize p k = pk at c2 c3 hpkN
                    have hpk0 : ¬ (pk : Int) < 0 := by omega
                    have hpkN' : (pk : Int) < (N : Int) := by omega
                    go_wp2
                    refine (wpIn_wide (n := 0)).1 ?_
                    refine Many.region_many (Cq (wr)) hmx (by kernel_rfl) (fun s s' W' h hc => hc) (fun s hs => ⟨1, rfl⟩) ?_
                    refine Many.lex_want (by rfl) (rd (v := .slice (some ⟨ra, 0, none⟩) N N) (fun q => by (go_simp; (try rfl); (try (intro hneg; omega))))) ?_
                    simp only [Act.put, List.setIfInBounds_toArray, List.set_cons_succ, List.set_cons_zero, Nat.reduceAdd]
                    refine Many.lex_want (by rfl) (rd (v := .int .i64 k) (fun q => by (go_simp; (try rfl); (try (intro hneg; omega))))) ?_
                    simp only [Act.put, List.setIfInBounds_toArray, List.set_cons_succ, List.set_cons_zero, Nat.reduceAdd]
                    refine Many.lex_want (by rfl) (rd (v := .pointer (some ⟨ra, k, none⟩)) (fun q => by (go_simp; (try rfl); (try (intro hneg; omega))))) ?_
                    simp only [Act.put, List.setIfInBounds_toArray, List.set_cons_succ, List.set_cons_zero, Nat.reduceAdd]
                    refine Many.lex_want (by rfl) (rd (v := .int .i64 rv) (fun q => by (go_simp; (try rfl); (try (intro hneg; omega))))) ?_
                    simp only [Act.put, List.setIfInBounds_toArray, List.set_cons_succ, List.set_cons_zero, Nat.reduceAdd]
                    refine Many.lex_want (by rfl) (rd (v := .slice (some ⟨rb, 0, none⟩) N N) (fun q => by (go_simp; (try rfl); (try (intro hneg; omega))))) ?_
                    simp only [Act.put, List.setIfInBounds_toArray, List.set_cons_succ, List.set_cons_zero, Nat.reduceAdd]
                    refine Many.lex_want (by rfl) (rd (v := .slice (some ⟨go, 0, none⟩) N co) (fun q => by (go_simp; (try rfl); (try (intro hneg; omega))))) ?_
                    simp only [Act.put, List.setIfInBounds_toArray, List.set_cons_succ, List.set_cons_zero, Nat.reduceAdd]
                    refine Many.lex_want (by rfl) (rd (v := .int .i64 k) (fun q => by (go_simp; (try rfl); (try (intro hneg; omega))))) ?_
                    simp only [Act.put, List.setIfInBounds_toArray, List.set_cons_succ, List.set_cons_zero, Nat.reduceAdd]
                    refine Many.lex_want (by rfl) (rd (v := .pointer (some ⟨go, k, none⟩)) (fun q => by (go_simp; (try rfl); (try (intro hneg; omega))))) ?_
                    simp only [Act.put, List.setIfInBounds_toArray, List.set_cons_succ, List.set_cons_zero, Nat.reduceAdd]
                    refine Many.lex_want (by rfl) (rd (v := .int .i64 pk) (fun q => by (go_simp; (try rfl); (try (intro hneg; omega))))) ?_
                    simp only [Act.put, List.setIfInBounds_toArray, List.set_cons_succ, List.set_cons_zero, Nat.reduceAdd]
                    refine Many.lex_want (by rfl) (rd (v := .pointer (some ⟨rb, pk, none⟩)) (fun q => by (go_simp; (try rfl); (try (intro hneg; omega))))) ?_
                    simp only [Act.put, List.setIfInBounds_toArray, List.set_cons_succ, List.set_cons_zero, Nat.reduceAdd]
                    refine Many.lex_want (by rfl) (rd (v := .int .i64 rv) (fun q => by (go_simp; (try rfl); (try (intro hneg; omega))))) ?_
                    simp only [Act.put, List.setIfInBounds_toArray, List.set_cons_succ, List.set_cons_zero, Nat.reduceAdd]
                    refine Many.lex_want (by rfl) (rd (v := .bool false) (fun q => by (go_simp; (try rfl); (try (intro hneg; omega))))) ?_
                    simp only [Act.put, List.setIfInBounds_toArray, List.set_cons_succ, List.set_cons_zero, Nat.reduceAdd]
                    refine Many.lex_nil fun s9 W2 hs9 hS9 => ?_
                    have hI2 := Keep.mk (hI.out.keep (W' := W2) (by
                      obtain ⟨nq, rfl⟩ := hS9
                      exact below_dn wr nq))
                    clear hI hS9 hs9 c1 c2 c3
                    go_wp2
                    exact ⟨⟨k + 1, by omega, by go_num, hI2⟩, by simp [intOf]; omega⟩
                  · obtain rfl : N = k := by omega
                    have hlt4' : ¬ (N : Int) < (N : Int) := by omega
                    go_wp2_with (first
                      | (go_at_call 23; (with_reducible refine (awake_w _).mono ?_); rintro e wl ⟨rfl, hb⟩
                         have hZ2 := Keep.mk (hI.out.2.2.trans (hb.mono hI.out.2.2.size))
                         clear hb hI))
                    refine bodyPost_ret (v := .bool true) (by simp [results, Try.results14, go_sem]) rfl ?_
                    exact ⟨rfl, hZ2.out⟩
end Go.Proofs.Yteekigpdiklppaa
