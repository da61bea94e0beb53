import Derived.Test.YteekigpdiklppaaWHitM
set_option linter.unusedSimpArgs false
set_option linter.unusedVariables false
namespace Go.Proofs.Yteekigpdiklppaa
open Go Go.Proofs Go.RowKit Go.Seq
attribute [local go_sem] Oper.semAt_some
def hitTo (q : Nat → Nat) : Nat → Bool
  | 0 => true
  | k + 1 => hitTo q k && !(q k == 0)
theorem hitTo_yes {q : Nat → Nat} : ∀ M, (∀ k, k < M → q k ≠ 0) → hitTo q M = true
  | 0, _ => rfl
  | M + 1, h => by
    unfold hitTo
    rw [hitTo_yes M (fun k hk => h k (by omega))]
    have := h M (by omega)
    simp [this]
theorem hitTo_no {q : Nat → Nat} {i : Nat} (hq : q i = 0) : ∀ M, i < M → hitTo q M = false
  | 0, h => by omega
  | M + 1, h => by
    unfold hitTo
    by_cases e : i = M
    · subst e; simp [hq]
    · rw [hitTo_no hq M (by omega)]; rfl
theorem and_n {s t : Nat → Bool} {a b c : Nat} (ha : num s = a) (hb : num t = b) (hc : num (fun j => s j && t j) = c) : bits .and .i64 (a : Int) (b : Int) = (c : Int) := by
  rw [← ha, ← hb, ← hc]; exact and_num s t
set_option maxHeartbeats 8000000 in
set_option maxRecDepth 100000 in
theorem hits_any (n0 x2 : Int) {v1 : Value} {ps : Pts} {w : World} (hv : PairsO w v1 ps) (hlen : ps.length ≤ maxLen) :
    Calls Try.prog 9 #[.int .i64 n0, v1, .int .i64 x2] w fun e w' => e = .returned (.bool true) ∧ Below w.heap.size w w' := by
  have hmx : Try.prog.follows .mixedOrders = true := by kernel_rfl
  have q50 := tame_any n0 hv (by unfold maxLen at hlen; omega)
  have hG := tame_gok n0 ps
  obtain ⟨N, hN⟩ : ∃ N, 1 + modN n0 12 = N := ⟨_, rfl⟩
  rw [hN] at q50 hG
  obtain ⟨E, hE⟩ : ∃ E, tameE N ps = E := ⟨_, rfl⟩
  rw [hE] at q50 hG
  clear hN hE hv hlen
  have hN1 := hG.n1
  have hN12 := hG.n12
  have hM1 := forts_ne hN1 hN12 (adjOf E)
  have hM2 := forts_len hN12 (adjOf E)
  have hmem : ∀ F ∈ fortsOf N (adjOf E), isF N (adjOf E) F = true ∧ InN N F := fun F h => forts_mem h
  have hap := forts_apart hN12 (adjOf E)
  have hmiss : ∀ S, InN N S → forcing N E S = false → ∃ F ∈ fortsOf N (adjOf E), num (fun j => F j && S j) = 0 := fun S h1 h2 => missed hG h1 h2
  obtain ⟨L, hL⟩ : ∃ L, fortsOf N (adjOf E) = L := ⟨_, rfl⟩
  rw [hL] at hM1 hM2 hmem hap hmiss
  obtain ⟨M, hM⟩ : ∃ M, L.length = M := ⟨_, rfl⟩
  rw [hM] at hM1 hM2
  have q35 := oFortsL hG hL hM hM1
  obtain ⟨G, hGd⟩ : ∃ G : Nat → Nat → Bool, G = fun i => L.getD i (fun _ => false) := ⟨_, rfl⟩
  have hGi : ∀ i, i < M → L[i]? = some (G i) := fun i hi => by
    rw [hGd]
    have : i < L.length := by omega
    simp [List.getElem?_eq_getElem this]
  have hGm : ∀ i, i < M → isF N (adjOf E) (G i) = true ∧ InN N (G i) := fun i hi => hmem _ (List.mem_of_getElem? (hGi i hi))
  have hGa : ∀ i j, i < j → j < M → num (fun u => G i u && !G j u) ≠ 0 := fun i j hij hj h0 => by
    rw [List.pairwise_iff_getElem] at hap
    obtain ⟨hi', e1⟩ := List.getElem?_eq_some_iff.1 (hGi i (by omega))
    obtain ⟨hj', e2⟩ := List.getElem?_eq_some_iff.1 (hGi j hj)
    have := hap i j hi' hj' hij
    rw [e1, e2] at this
    exact this (num_sub.1 h0)
  obtain ⟨S, hS⟩ : ∃ S, someS N x2 = S := ⟨_, rfl⟩
  have hSin : InN N S := by rw [← hS]; exact someS_inN N x2
  obtain ⟨lS, hlS⟩ : ∃ l, sz S = l := ⟨_, rfl⟩
  have q51 := oSomeSl hN12 x2 hS hlS
  obtain ⟨A, hA⟩ : ∃ A, clo (fround (adjOf E)) S = A := ⟨_, rfl⟩
  have hAin : InN N A := by rw [← hA]; exact inN_force hG hSin
  obtain ⟨la, hla⟩ : ∃ l, sz A = l := ⟨_, rfl⟩
  obtain ⟨ka, hka⟩ : ∃ k, kfOf (fround (adjOf E)) S = k := ⟨_, rfl⟩
  have q19 := oCloseSl hG hSin hA hla hka
  obtain ⟨hLf, hLin, hLle⟩ := least_ok hG
  obtain ⟨Lm, hLm⟩ : ∃ F, leastOf N (forcing N E) = F := ⟨_, rfl⟩
  rw [hLm] at hLf hLin hLle
  obtain ⟨ll, hll⟩ : ∃ l, sz Lm = l := ⟨_, rfl⟩
  have q34 := oLeast hG hLm hll
  obtain ⟨z, hz⟩ : ∃ z, forcing N E S = z := ⟨_, rfl⟩
  have hfull := full_iff hN12 hAin
  rw [show eqb A (allS N) = z by rw [← hz, ← hA]; rfl, show (vsTo A 12).length = la from hla] at hfull
  have hmin : z = true → ll ≤ lS := fun e => by rw [← hll, ← hlS]; exact hLle S hSin (by rw [hz, e])
  obtain ⟨nI, hnI⟩ : ∃ nI : Nat → Nat, nI = fun k => num (fun j => G k j && S j) := ⟨_, rfl⟩
  have hHz : hitTo nI M = z := by
    cases z with
    | true => exact hitTo_yes M fun k hk => by rw [hnI]; exact forcing_hits hSin hz (hGm k hk).1 (hGm k hk).2
    | false =>
      obtain ⟨F, hF, h0⟩ := hmiss S hSin hz
      obtain ⟨i, hi, he⟩ := List.getElem_of_mem hF
      refine hitTo_no (i := i) ?_ M (by omega)
      rw [hnI]
      have h1 := hGi i (by omega)
      rw [List.getElem?_eq_getElem hi, he] at h1
      cases h1
      exact h0
  have hnJ : ∀ k, k < M → num (fun j => G k j && Lm j) ≠ 0 := fun k hk => forcing_hits hLin hLf (hGm k hk).1 (hGm k hk).2
  obtain ⟨nS, hnS⟩ : ∃ n, num S = n := ⟨_, rfl⟩
  obtain ⟨nL, hnL⟩ : ∃ n, num Lm = n := ⟨_, rfl⟩
  have q26S := Keep.mk (set_n hnS)
  have q26L := Keep.mk (set_n hnL)
  have hkS := Keep.mk (And.intro hnS (And.intro hnL hnI))
  have hMs : ¬ (M : Int) < 1 := by omega
  clear hL hM hmem hap hmiss hGd hS hlS hA hla hka hLf hLle hLm hll hz hnS hnL hnI hM1
  go_enter Try.func9, Try.ntmps9
  go_wp2_with (first
    | (go_at_call 50; (with_reducible refine q50.mono ?_); rintro e w1 ⟨ve, rfl, hrow1, hb1⟩
       have hp1 := own_pairs hrow1
       have hk1 : Keep (Fa w1 ve E [] ∧ Below w.heap.size w w1) := ⟨⟨⟨hp1, fun x hx => by simp at hx⟩, hb1⟩⟩
       clear hrow1 hb1 hp1 q50)
    | (go_at_call 51; (with_reducible refine (q51 _).mono ?_); rintro e w2 ⟨XS, cS, rfl, hi2, hb2⟩
       have hk2 := Keep.mk (And.intro ((hk1.out.1.after hb2).add hi2) (hk1.out.2.trans (hb2.mono hk1.out.2.size)))
       clear hi2 hb2 hk1 q51)
    | (go_at_call 35; have hp3 := hk2.out.1.1
       (with_reducible refine (q35 _ _ hp3).mono ?_); rintro e w3 ⟨g, cap, rfl, hl3, hb3⟩
       have hk3 : Keep (Fl w w3 ve E [((.slice XS lS cS), S)] (.slice (some ⟨g, 0, none⟩) M cap) L) := ⟨⟨hk2.out.1.after hb3, hl3, hk2.out.2.trans (hb3.mono hk2.out.2.size)⟩⟩
       clear hl3 hb3 hp3 hk2 q35)
    | (go_at_call 19; have hp4 := hk3.out.1.1; have hv4 := hk3.out.at (v := (.slice XS lS cS)) (s := S) (.head _)
       (with_reducible refine (q19 _ _ _ hp4 hv4).mono ?_); rintro e w4 ⟨XA, cA, rfl, hi4, hb4⟩
       have hk4 := Keep.mk (hk3.out.put hb4 hi4)
       clear hi4 hb4 hp4 hv4 hk3 q19)
    | (go_at_call 34; have hp5 := hk4.out.1.1
       (with_reducible refine (q34 _ _ hp5).mono ?_); rintro e w5 ⟨XL, cL, rfl, hi5, hb5⟩
       have hk5 := Keep.mk (hk4.out.put hb5 hi5)
       clear hi5 hb5 hp5 hk4 q34)
    | (go_at_call 52; have hv6 := hk5.out.at (v := (.slice XA la cA)) (s := A) (.tail _ (.head _))
       (with_reducible refine (oWithin hAin hv6).mono ?_); rintro e w6 ⟨rfl, hb6⟩
       have hk6 := Keep.mk (hk5.out.keep hb6)
       clear hb6 hv6 hk5)
    | (go_at_call 52; have hv7 := hk6.out.at (v := (.slice XL ll cL)) (s := Lm) (.head _)
       (with_reducible refine (oWithin hLin hv7).mono ?_); rintro e w7 ⟨rfl, hb7⟩
       have hk7 := Keep.mk (hk6.out.keep hb7)
       clear hb7 hv7 hk6))
  clear hAin hLin hSin
  go_loopw [16, 17, 18] (fun a b i wr => ∃ k : Nat, k ≤ M ∧ a = .bool (hitTo nI k) ∧ b = .bool true ∧ i = .int .i64 k ∧ Keep (Fl w wr ve E [((.slice XL ll cL), Lm), ((.slice XA la cA), A), ((.slice XS lS cS), S)] (.slice (some ⟨g, 0, none⟩) M cap) L)) (fun _ _ i _ => M - (intOf i).toNat)
  case atStart => exact ⟨0, by omega, rfl, rfl, rfl, hk7⟩
  case round =>
    obtain ⟨k, hk, rfl, rfl, rfl, hI⟩ := hrel
    by_cases hlt : k < M
    · have hw1 : IntKind.i64.wrap ((k : Int) + 1) = (k : Int) + 1 := IntWalk.i64_in _ (by omega)
      have hlt' : (k : Int) < (M : Int) := by omega
      have nk : ¬ (k : Int) < 0 := by omega
      obtain ⟨hKF, hKin⟩ := hGm k hlt
      have hKi := hGi k hlt
      have hJ0 := hnJ k hlt
      have hap := fun i (hi : i < k) => hGa i k hi hlt
      have hnx : hitTo nI (k + 1) = (hitTo nI k && !(nI k == 0)) := rfl
      have hIk : num (fun j => G k j && S j) = nI k := by rw [hkS.out.2.2]
      obtain ⟨X, m, c, hc, hiX, hm⟩ := hI.out.el hKi
      obtain ⟨K, hK⟩ : ∃ K, G k = K := ⟨_, rfl⟩
      rw [hK] at hKF hKin hKi hJ0 hap hIk hiX hm
      have hm1 : ¬ (m : Int) < 1 := by
        obtain ⟨⟨j, hj, hx⟩, _⟩ := isF_iff.1 hKF
        have := (sz_mono (a := (fun _ => false)) (b := K) (fun j hj h => by cases h)).2 ⟨j, hj, rfl, hx⟩
        omega
      obtain ⟨nK, hnK⟩ : ∃ n, num K = n := ⟨_, rfl⟩
      obtain ⟨nJ, hnJk⟩ : ∃ n, num (fun j => K j && Lm j) = n := ⟨_, rfl⟩
      rw [hnJk] at hJ0
      have hJ1 : ¬ (nJ : Int) = 0 := by omega
      have dKL := and_n hnK hkS.out.2.1 hnJk
      obtain ⟨nQ, hnQ⟩ : ∃ n, nI k = n := ⟨_, rfl⟩
      rw [hnQ] at hIk hnx
      have dKS := and_n hnK hkS.out.1 hIk
      have q26K := Keep.mk (set_n hnK)
      have q45 : ∀ W v, PairsOf W ve E → IntsO W v (zsOf K) → Calls Try.prog 45 #[.int .i64 N, ve, v] W fun e w' => e = .returned (.tuple #[.bool true, .int .i64 0]) ∧ Below W.heap.size W w' := fun W v he hv => by
        have := oIsFort hG he hKin hv
        rw [hKF] at this; exact this
      have dD : Keep (∀ i, i < k → ∀ ni, num (G i) = ni → ∃ d : Nat, bits .andNot .i64 (ni : Int) (nK : Int) = (d : Int) ∧ d ≠ 0) := ⟨fun i hi ni hni => ⟨_, by rw [← hni, ← hnK]; exact num_diff (G i) K, hap i hi⟩⟩
      have hX := Keep.mk hiX
      obtain ⟨b, hb⟩ : ∃ b, hitTo nI k = b := ⟨_, rfl⟩
      rw [hb] at hnx ⊢
      have hnxk := Keep.mk hnx
      clear hm hJ0 hap hIk hnJk hnQ hnK hK hKF hiX hnx hb
      cases b with
      | false =>
        go_wp2_with (first
          | (go_at_call 52; have hv := hX.out
             (with_reducible refine (oWithin hKin hv).mono ?_); rintro e w11 ⟨rfl, hb11⟩
             have hI1 := Keep.mk (hI.out.keep hb11)
             have hX1 := Keep.mk (intsO_below hX.out hb11)
             have hc1 := cell_below hc hb11
             clear hb11 hv hI hX hc)
          | (go_at_call 45; have hv := hX1.out; have hp := hI1.out.1.1
             (with_reducible refine (q45 _ _ hp hv).mono ?_); rintro e w12 ⟨rfl, hb12⟩
             have hI2 := Keep.mk (hI1.out.keep hb12)
             have hX2 := Keep.mk (intsO_below hX1.out hb12)
             have hc2 := cell_below hc1 hb12
             clear hb12 hv hp hI1 hX1 hc1)
          | (go_at_call 26; have hv := hX2.out
             (with_reducible refine (q26K.out _ _ hv).mono ?_); rintro e wm ⟨rfl, hem⟩; rw [hem]; clear hem wm hv)
          | (go_at_call 26; have hv := hI2.out.at (v := (.slice XS lS cS)) (s := S) (.tail _ (.tail _ (.head _)))
             (with_reducible refine (q26S.out _ _ hv).mono ?_); rintro e wm ⟨rfl, hem⟩; rw [hem]; clear hem wm hv)
          | (go_at_call 26; have hv := hI2.out.at (v := (.slice XL ll cL)) (s := Lm) (.head _)
             (with_reducible refine (q26L.out _ _ hv).mono ?_); rintro e wm ⟨rfl, hem⟩; rw [hem]; clear hem wm hv))
        have hI2r := hI2
        clear hI2 hX2 hc2
        go_loopw [21] (fun j wr => ∃ i : Nat, i ≤ k ∧ j = .int .i64 i ∧ Keep (Fl w wr ve E [((.slice XL ll cL), Lm), ((.slice XA la cA), A), ((.slice XS lS cS), S)] (.slice (some ⟨g, 0, none⟩) M cap) L)) (fun j _ => k - (intOf j).toNat)
        case atStart => exact ⟨0, by omega, rfl, hI2r⟩
        case round =>
          obtain ⟨i, hi, rfl, hJ⟩ := hrel
          by_cases hlt2 : i < k
          · have hw2 : IntKind.i64.wrap ((i : Int) + 1) = (i : Int) + 1 := IntWalk.i64_in _ (by omega)
            have hlt2' : (i : Int) < (k : Int) := by omega
            have hiM : (i : Int) < (M : Int) := by omega
            have ni0 : ¬ (i : Int) < 0 := by omega
            obtain ⟨Xi, mi, ci, hci, hii, -⟩ := hJ.out.el (hGi i (by omega))
            obtain ⟨Xk, mk, ck, hck, hik, -⟩ := hJ.out.el hKi
            obtain ⟨ni, hni⟩ : ∃ n, num (G i) = n := ⟨_, rfl⟩
            have q26i := set_n hni
            obtain ⟨d, hd, hd0⟩ := dD.out i hlt2 ni hni
            have hd1 : ¬ (d : Int) = 0 := by omega
            have hii := Keep.mk hii
            have hik := Keep.mk hik
            clear hni hd0
            go_wp2
            refine (wpIn_wide (n := 0)).1 ?_
            refine Many.region_many (Cq wr) hmx (by kernel_rfl) (fun s s' W' h hc => hc) (fun s hs => ⟨1, rfl⟩) ?_
            refine Many.lex_want (by rfl) (rd (v := .slice (some ⟨g, 0, none⟩) M cap) (fun q => by (go_simp; (try rfl); (try (intro hneg; omega))))) ?_
            simp only [Act.put, List.setIfInBounds_toArray, List.set_cons_succ, List.set_cons_zero, Nat.reduceAdd]
            refine Many.lex_want (by rfl) (rd (v := .int .i64 i) (fun q => by (go_simp; (try rfl); (try (intro hneg; omega))))) ?_
            simp only [Act.put, List.setIfInBounds_toArray, List.set_cons_succ, List.set_cons_zero, Nat.reduceAdd]
            refine Many.lex_want (by rfl) (rd (v := .pointer (some ⟨g, i, none⟩)) (fun q => by (go_simp; (try rfl); (try (intro hneg; omega))))) ?_
            simp only [Act.put, List.setIfInBounds_toArray, List.set_cons_succ, List.set_cons_zero, Nat.reduceAdd]
            refine Many.lex_want (by rfl) (rd (v := .slice Xi mi ci) (fun q => by (go_simp; (try rfl); (try (intro hneg; omega))))) ?_
            simp only [Act.put, List.setIfInBounds_toArray, List.set_cons_succ, List.set_cons_zero, Nat.reduceAdd]
            refine Many.lex_want (by rfl) (Many.tr_call (v := .int .i64 ni) (f := 26) (args := #[.slice Xi mi ci]) (fun w' => ∃ q, w' = wr.drewN q) (fun _ _ h => h) (fun s0 W h => by
              obtain ⟨q, rfl⟩ := h
              exact (q26i _ _ (intsO_below hii.out (below_dn wr q))).mono (fun e W' hw' => ⟨hw'.1, by rw [hw'.2]; exact ⟨q, rfl⟩⟩)) (fun W h => by obtain ⟨q, rfl⟩ := h; go_simp; try rfl)) ?_
            simp only [Act.put, List.setIfInBounds_toArray, List.set_cons_succ, List.set_cons_zero, Nat.reduceAdd]
            refine Many.lex_want (by rfl) (rd (v := .slice (some ⟨g, 0, none⟩) M cap) (fun q => by (go_simp; (try rfl); (try (intro hneg; omega))))) ?_
            simp only [Act.put, List.setIfInBounds_toArray, List.set_cons_succ, List.set_cons_zero, Nat.reduceAdd]
            refine Many.lex_want (by rfl) (rd (v := .int .i64 k) (fun q => by (go_simp; (try rfl); (try (intro hneg; omega))))) ?_
            simp only [Act.put, List.setIfInBounds_toArray, List.set_cons_succ, List.set_cons_zero, Nat.reduceAdd]
            refine Many.lex_want (by rfl) (rd (v := .pointer (some ⟨g, k, none⟩)) (fun q => by (go_simp; (try rfl); (try (intro hneg; omega))))) ?_
            simp only [Act.put, List.setIfInBounds_toArray, List.set_cons_succ, List.set_cons_zero, Nat.reduceAdd]
            refine Many.lex_want (by rfl) (rd (v := .slice Xk mk ck) (fun q => by (go_simp; (try rfl); (try (intro hneg; omega))))) ?_
            simp only [Act.put, List.setIfInBounds_toArray, List.set_cons_succ, List.set_cons_zero, Nat.reduceAdd]
            refine Many.lex_want (by rfl) (Many.tr_call (v := .int .i64 nK) (f := 26) (args := #[.slice Xk mk ck]) (fun w' => ∃ q, w' = wr.drewN q) (fun _ _ h => h) (fun s0 W h => by
              obtain ⟨q, rfl⟩ := h
              exact (q26K.out _ _ (intsO_below hik.out (below_dn wr q))).mono (fun e W' hw' => ⟨hw'.1, by rw [hw'.2]; exact ⟨q, rfl⟩⟩)) (fun W h => by obtain ⟨q, rfl⟩ := h; go_simp; try rfl)) ?_
            simp only [Act.put, List.setIfInBounds_toArray, List.set_cons_succ, List.set_cons_zero, Nat.reduceAdd]
            refine Many.lex_want (by rfl) (rd (v := .int .i64 d) (fun q => by (go_simp; (try rfl); (try (intro hneg; omega))))) ?_
            simp only [Act.put, List.setIfInBounds_toArray, List.set_cons_succ, List.set_cons_zero, Nat.reduceAdd]
            refine Many.lex_want (by rfl) (rd (v := .bool false) (fun q => by (go_simp; (try rfl); (try (intro hneg; omega))))) ?_
            simp only [Act.put, List.setIfInBounds_toArray, List.set_cons_succ, List.set_cons_zero, Nat.reduceAdd]
            refine Many.lex_nil fun s9 W4 hs9 hS4 => ?_
            obtain ⟨q, rfl⟩ := hS4
            have hJ' := Keep.mk (hJ.out.keep (below_dn wr q))
            go_wp2
            exact ⟨⟨i + 1, by omega, by go_num, hJ'⟩, by simp [intOf]; omega⟩
          · obtain rfl : i = k := by omega
            have hlt2' : ¬ (i : Int) < (i : Int) := by omega
            go_wp2
            exact ⟨⟨i + 1, by omega, by rw [hnxk.out]; rfl, by simp; omega, by go_num, hJ⟩, by simp [intOf]; omega⟩
      | true =>
        by_cases hq : nQ = 0
        · subst hq
          have dKS : bits .and .i64 (nK : Int) (nS : Int) = 0 := dKS
          go_wp2_with (first
            | (go_at_call 52; have hv := hX.out
               (with_reducible refine (oWithin hKin hv).mono ?_); rintro e w11 ⟨rfl, hb11⟩
               have hI1 := Keep.mk (hI.out.keep hb11)
               have hX1 := Keep.mk (intsO_below hX.out hb11)
               have hc1 := cell_below hc hb11
               clear hb11 hv hI hX hc)
            | (go_at_call 45; have hv := hX1.out; have hp := hI1.out.1.1
               (with_reducible refine (q45 _ _ hp hv).mono ?_); rintro e w12 ⟨rfl, hb12⟩
               have hI2 := Keep.mk (hI1.out.keep hb12)
               have hX2 := Keep.mk (intsO_below hX1.out hb12)
               have hc2 := cell_below hc1 hb12
               clear hb12 hv hp hI1 hX1 hc1)
            | (go_at_call 26; have hv := hX2.out
               (with_reducible refine (q26K.out _ _ hv).mono ?_); rintro e wm ⟨rfl, hem⟩; rw [hem]; clear hem wm hv)
            | (go_at_call 26; have hv := hI2.out.at (v := (.slice XS lS cS)) (s := S) (.tail _ (.tail _ (.head _)))
               (with_reducible refine (q26S.out _ _ hv).mono ?_); rintro e wm ⟨rfl, hem⟩; rw [hem]; clear hem wm hv)
            | (go_at_call 26; have hv := hI2.out.at (v := (.slice XL ll cL)) (s := Lm) (.head _)
               (with_reducible refine (q26L.out _ _ hv).mono ?_); rintro e wm ⟨rfl, hem⟩; rw [hem]; clear hem wm hv))
          have hI2r := hI2
          clear hI2 hX2 hc2
          go_loopw [21] (fun j wr => ∃ i : Nat, i ≤ k ∧ j = .int .i64 i ∧ Keep (Fl w wr ve E [((.slice XL ll cL), Lm), ((.slice XA la cA), A), ((.slice XS lS cS), S)] (.slice (some ⟨g, 0, none⟩) M cap) L)) (fun j _ => k - (intOf j).toNat)
          case atStart => exact ⟨0, by omega, rfl, hI2r⟩
          case round =>
            obtain ⟨i, hi, rfl, hJ⟩ := hrel
            by_cases hlt2 : i < k
            · have hw2 : IntKind.i64.wrap ((i : Int) + 1) = (i : Int) + 1 := IntWalk.i64_in _ (by omega)
              have hlt2' : (i : Int) < (k : Int) := by omega
              have hiM : (i : Int) < (M : Int) := by omega
              have ni0 : ¬ (i : Int) < 0 := by omega
              obtain ⟨Xi, mi, ci, hci, hii, -⟩ := hJ.out.el (hGi i (by omega))
              obtain ⟨Xk, mk, ck, hck, hik, -⟩ := hJ.out.el hKi
              obtain ⟨ni, hni⟩ : ∃ n, num (G i) = n := ⟨_, rfl⟩
              have q26i := set_n hni
              obtain ⟨d, hd, hd0⟩ := dD.out i hlt2 ni hni
              have hd1 : ¬ (d : Int) = 0 := by omega
              have hii := Keep.mk hii
              have hik := Keep.mk hik
              clear hni hd0
              go_wp2
              refine (wpIn_wide (n := 0)).1 ?_
              refine Many.region_many (Cq wr) hmx (by kernel_rfl) (fun s s' W' h hc => hc) (fun s hs => ⟨1, rfl⟩) ?_
              refine Many.lex_want (by rfl) (rd (v := .slice (some ⟨g, 0, none⟩) M cap) (fun q => by (go_simp; (try rfl); (try (intro hneg; omega))))) ?_
              simp only [Act.put, List.setIfInBounds_toArray, List.set_cons_succ, List.set_cons_zero, Nat.reduceAdd]
              refine Many.lex_want (by rfl) (rd (v := .int .i64 i) (fun q => by (go_simp; (try rfl); (try (intro hneg; omega))))) ?_
              simp only [Act.put, List.setIfInBounds_toArray, List.set_cons_succ, List.set_cons_zero, Nat.reduceAdd]
              refine Many.lex_want (by rfl) (rd (v := .pointer (some ⟨g, i, none⟩)) (fun q => by (go_simp; (try rfl); (try (intro hneg; omega))))) ?_
              simp only [Act.put, List.setIfInBounds_toArray, List.set_cons_succ, List.set_cons_zero, Nat.reduceAdd]
              refine Many.lex_want (by rfl) (rd (v := .slice Xi mi ci) (fun q => by (go_simp; (try rfl); (try (intro hneg; omega))))) ?_
              simp only [Act.put, List.setIfInBounds_toArray, List.set_cons_succ, List.set_cons_zero, Nat.reduceAdd]
              refine Many.lex_want (by rfl) (Many.tr_call (v := .int .i64 ni) (f := 26) (args := #[.slice Xi mi ci]) (fun w' => ∃ q, w' = wr.drewN q) (fun _ _ h => h) (fun s0 W h => by
                obtain ⟨q, rfl⟩ := h
                exact (q26i _ _ (intsO_below hii.out (below_dn wr q))).mono (fun e W' hw' => ⟨hw'.1, by rw [hw'.2]; exact ⟨q, rfl⟩⟩)) (fun W h => by obtain ⟨q, rfl⟩ := h; go_simp; try rfl)) ?_
              simp only [Act.put, List.setIfInBounds_toArray, List.set_cons_succ, List.set_cons_zero, Nat.reduceAdd]
              refine Many.lex_want (by rfl) (rd (v := .slice (some ⟨g, 0, none⟩) M cap) (fun q => by (go_simp; (try rfl); (try (intro hneg; omega))))) ?_
              simp only [Act.put, List.setIfInBounds_toArray, List.set_cons_succ, List.set_cons_zero, Nat.reduceAdd]
              refine Many.lex_want (by rfl) (rd (v := .int .i64 k) (fun q => by (go_simp; (try rfl); (try (intro hneg; omega))))) ?_
              simp only [Act.put, List.setIfInBounds_toArray, List.set_cons_succ, List.set_cons_zero, Nat.reduceAdd]
              refine Many.lex_want (by rfl) (rd (v := .pointer (some ⟨g, k, none⟩)) (fun q => by (go_simp; (try rfl); (try (intro hneg; omega))))) ?_
              simp only [Act.put, List.setIfInBounds_toArray, List.set_cons_succ, List.set_cons_zero, Nat.reduceAdd]
              refine Many.lex_want (by rfl) (rd (v := .slice Xk mk ck) (fun q => by (go_simp; (try rfl); (try (intro hneg; omega))))) ?_
              simp only [Act.put, List.setIfInBounds_toArray, List.set_cons_succ, List.set_cons_zero, Nat.reduceAdd]
              refine Many.lex_want (by rfl) (Many.tr_call (v := .int .i64 nK) (f := 26) (args := #[.slice Xk mk ck]) (fun w' => ∃ q, w' = wr.drewN q) (fun _ _ h => h) (fun s0 W h => by
                obtain ⟨q, rfl⟩ := h
                exact (q26K.out _ _ (intsO_below hik.out (below_dn wr q))).mono (fun e W' hw' => ⟨hw'.1, by rw [hw'.2]; exact ⟨q, rfl⟩⟩)) (fun W h => by obtain ⟨q, rfl⟩ := h; go_simp; try rfl)) ?_
              simp only [Act.put, List.setIfInBounds_toArray, List.set_cons_succ, List.set_cons_zero, Nat.reduceAdd]
              refine Many.lex_want (by rfl) (rd (v := .int .i64 d) (fun q => by (go_simp; (try rfl); (try (intro hneg; omega))))) ?_
              simp only [Act.put, List.setIfInBounds_toArray, List.set_cons_succ, List.set_cons_zero, Nat.reduceAdd]
              refine Many.lex_want (by rfl) (rd (v := .bool false) (fun q => by (go_simp; (try rfl); (try (intro hneg; omega))))) ?_
              simp only [Act.put, List.setIfInBounds_toArray, List.set_cons_succ, List.set_cons_zero, Nat.reduceAdd]
              refine Many.lex_nil fun s9 W4 hs9 hS4 => ?_
              obtain ⟨q, rfl⟩ := hS4
              have hJ' := Keep.mk (hJ.out.keep (below_dn wr q))
              go_wp2
              exact ⟨⟨i + 1, by omega, by go_num, hJ'⟩, by simp [intOf]; omega⟩
            · obtain rfl : i = k := by omega
              have hlt2' : ¬ (i : Int) < (i : Int) := by omega
              go_wp2
              exact ⟨⟨i + 1, by omega, by rw [hnxk.out]; rfl, by simp; omega, by go_num, hJ⟩, by simp [intOf]; omega⟩
        · have hq1 : ¬ (nQ : Int) = 0 := by omega
          have hq2 : (nQ == 0) = false := by simpa using hq
          rw [hq2] at hnxk
          clear hq hq2
          go_wp2_with (first
            | (go_at_call 52; have hv := hX.out
               (with_reducible refine (oWithin hKin hv).mono ?_); rintro e w11 ⟨rfl, hb11⟩
               have hI1 := Keep.mk (hI.out.keep hb11)
               have hX1 := Keep.mk (intsO_below hX.out hb11)
               have hc1 := cell_below hc hb11
               clear hb11 hv hI hX hc)
            | (go_at_call 45; have hv := hX1.out; have hp := hI1.out.1.1
               (with_reducible refine (q45 _ _ hp hv).mono ?_); rintro e w12 ⟨rfl, hb12⟩
               have hI2 := Keep.mk (hI1.out.keep hb12)
               have hX2 := Keep.mk (intsO_below hX1.out hb12)
               have hc2 := cell_below hc1 hb12
               clear hb12 hv hp hI1 hX1 hc1)
            | (go_at_call 26; have hv := hX2.out
               (with_reducible refine (q26K.out _ _ hv).mono ?_); rintro e wm ⟨rfl, hem⟩; rw [hem]; clear hem wm hv)
            | (go_at_call 26; have hv := hI2.out.at (v := (.slice XS lS cS)) (s := S) (.tail _ (.tail _ (.head _)))
               (with_reducible refine (q26S.out _ _ hv).mono ?_); rintro e wm ⟨rfl, hem⟩; rw [hem]; clear hem wm hv)
            | (go_at_call 26; have hv := hI2.out.at (v := (.slice XL ll cL)) (s := Lm) (.head _)
               (with_reducible refine (q26L.out _ _ hv).mono ?_); rintro e wm ⟨rfl, hem⟩; rw [hem]; clear hem wm hv))
          have hI2r := hI2
          clear hI2 hX2 hc2
          go_loopw [21] (fun j wr => ∃ i : Nat, i ≤ k ∧ j = .int .i64 i ∧ Keep (Fl w wr ve E [((.slice XL ll cL), Lm), ((.slice XA la cA), A), ((.slice XS lS cS), S)] (.slice (some ⟨g, 0, none⟩) M cap) L)) (fun j _ => k - (intOf j).toNat)
          case atStart => exact ⟨0, by omega, rfl, hI2r⟩
          case round =>
            obtain ⟨i, hi, rfl, hJ⟩ := hrel
            by_cases hlt2 : i < k
            · have hw2 : IntKind.i64.wrap ((i : Int) + 1) = (i : Int) + 1 := IntWalk.i64_in _ (by omega)
              have hlt2' : (i : Int) < (k : Int) := by omega
              have hiM : (i : Int) < (M : Int) := by omega
              have ni0 : ¬ (i : Int) < 0 := by omega
              obtain ⟨Xi, mi, ci, hci, hii, -⟩ := hJ.out.el (hGi i (by omega))
              obtain ⟨Xk, mk, ck, hck, hik, -⟩ := hJ.out.el hKi
              obtain ⟨ni, hni⟩ : ∃ n, num (G i) = n := ⟨_, rfl⟩
              have q26i := set_n hni
              obtain ⟨d, hd, hd0⟩ := dD.out i hlt2 ni hni
              have hd1 : ¬ (d : Int) = 0 := by omega
              have hii := Keep.mk hii
              have hik := Keep.mk hik
              clear hni hd0
              go_wp2
              refine (wpIn_wide (n := 0)).1 ?_
              refine Many.region_many (Cq wr) hmx (by kernel_rfl) (fun s s' W' h hc => hc) (fun s hs => ⟨1, rfl⟩) ?_
              refine Many.lex_want (by rfl) (rd (v := .slice (some ⟨g, 0, none⟩) M cap) (fun q => by (go_simp; (try rfl); (try (intro hneg; omega))))) ?_
              simp only [Act.put, List.setIfInBounds_toArray, List.set_cons_succ, List.set_cons_zero, Nat.reduceAdd]
              refine Many.lex_want (by rfl) (rd (v := .int .i64 i) (fun q => by (go_simp; (try rfl); (try (intro hneg; omega))))) ?_
              simp only [Act.put, List.setIfInBounds_toArray, List.set_cons_succ, List.set_cons_zero, Nat.reduceAdd]
              refine Many.lex_want (by rfl) (rd (v := .pointer (some ⟨g, i, none⟩)) (fun q => by (go_simp; (try rfl); (try (intro hneg; omega))))) ?_
              simp only [Act.put, List.setIfInBounds_toArray, List.set_cons_succ, List.set_cons_zero, Nat.reduceAdd]
              refine Many.lex_want (by rfl) (rd (v := .slice Xi mi ci) (fun q => by (go_simp; (try rfl); (try (intro hneg; omega))))) ?_
              simp only [Act.put, List.setIfInBounds_toArray, List.set_cons_succ, List.set_cons_zero, Nat.reduceAdd]
              refine Many.lex_want (by rfl) (Many.tr_call (v := .int .i64 ni) (f := 26) (args := #[.slice Xi mi ci]) (fun w' => ∃ q, w' = wr.drewN q) (fun _ _ h => h) (fun s0 W h => by
                obtain ⟨q, rfl⟩ := h
                exact (q26i _ _ (intsO_below hii.out (below_dn wr q))).mono (fun e W' hw' => ⟨hw'.1, by rw [hw'.2]; exact ⟨q, rfl⟩⟩)) (fun W h => by obtain ⟨q, rfl⟩ := h; go_simp; try rfl)) ?_
              simp only [Act.put, List.setIfInBounds_toArray, List.set_cons_succ, List.set_cons_zero, Nat.reduceAdd]
              refine Many.lex_want (by rfl) (rd (v := .slice (some ⟨g, 0, none⟩) M cap) (fun q => by (go_simp; (try rfl); (try (intro hneg; omega))))) ?_
              simp only [Act.put, List.setIfInBounds_toArray, List.set_cons_succ, List.set_cons_zero, Nat.reduceAdd]
              refine Many.lex_want (by rfl) (rd (v := .int .i64 k) (fun q => by (go_simp; (try rfl); (try (intro hneg; omega))))) ?_
              simp only [Act.put, List.setIfInBounds_toArray, List.set_cons_succ, List.set_cons_zero, Nat.reduceAdd]
              refine Many.lex_want (by rfl) (rd (v := .pointer (some ⟨g, k, none⟩)) (fun q => by (go_simp; (try rfl); (try (intro hneg; omega))))) ?_
              simp only [Act.put, List.setIfInBounds_toArray, List.set_cons_succ, List.set_cons_zero, Nat.reduceAdd]
              refine Many.lex_want (by rfl) (rd (v := .slice Xk mk ck) (fun q => by (go_simp; (try rfl); (try (intro hneg; omega))))) ?_
              simp only [Act.put, List.setIfInBounds_toArray, List.set_cons_succ, List.set_cons_zero, Nat.reduceAdd]
              refine Many.lex_want (by rfl) (Many.tr_call (v := .int .i64 nK) (f := 26) (args := #[.slice Xk mk ck]) (fun w' => ∃ q, w' = wr.drewN q) (fun _ _ h => h) (fun s0 W h => by
                obtain ⟨q, rfl⟩ := h
                exact (q26K.out _ _ (intsO_below hik.out (below_dn wr q))).mono (fun e W' hw' => ⟨hw'.1, by rw [hw'.2]; exact ⟨q, rfl⟩⟩)) (fun W h => by obtain ⟨q, rfl⟩ := h; go_simp; try rfl)) ?_
              simp only [Act.put, List.setIfInBounds_toArray, List.set_cons_succ, List.set_cons_zero, Nat.reduceAdd]
              refine Many.lex_want (by rfl) (rd (v := .int .i64 d) (fun q => by (go_simp; (try rfl); (try (intro hneg; omega))))) ?_
              simp only [Act.put, List.setIfInBounds_toArray, List.set_cons_succ, List.set_cons_zero, Nat.reduceAdd]
              refine Many.lex_want (by rfl) (rd (v := .bool false) (fun q => by (go_simp; (try rfl); (try (intro hneg; omega))))) ?_
              simp only [Act.put, List.setIfInBounds_toArray, List.set_cons_succ, List.set_cons_zero, Nat.reduceAdd]
              refine Many.lex_nil fun s9 W4 hs9 hS4 => ?_
              obtain ⟨q, rfl⟩ := hS4
              have hJ' := Keep.mk (hJ.out.keep (below_dn wr q))
              go_wp2
              exact ⟨⟨i + 1, by omega, by go_num, hJ'⟩, by simp [intOf]; omega⟩
            · obtain rfl : i = k := by omega
              have hlt2' : ¬ (i : Int) < (i : Int) := by omega
              go_wp2
              exact ⟨⟨i + 1, by omega, by rw [hnxk.out]; (simp; omega), by simp; omega, by go_num, hJ⟩, by simp [intOf]; omega⟩
    · obtain rfl : k = M := by omega
      have hlt' : ¬ (k : Int) < (k : Int) := by omega
      rw [hHz]
      clear hHz
      cases z with
      | true =>
        have h1 := hfull.1 rfl
        have h2 := hmin rfl
        have h1' : (la : Int) = (N : Int) := by omega
        have h2' : ¬ (lS : Int) < (ll : Int) := by omega
        have h2'' : (ll : Int) ≤ (lS : Int) := by omega
        clear h1 h2 hfull hmin
        go_wp2_with (go_at_call 23; (with_reducible refine (awake_w _).mono ?_); rintro e w9 ⟨rfl, hb9⟩; have hk9 := Keep.mk (hI.out.keep hb9); clear hb9)
        refine bodyPost_ret (v := .bool true) (by simp [results, Try.results9, go_sem]) rfl ?_
        exact ⟨rfl, hk9.out.2.2⟩
      | false =>
        have h1 := hfull.2 rfl
        have h1' : ¬ (la : Int) = (N : Int) := by omega
        clear h1 hfull hmin
        go_wp2_with (go_at_call 23; (with_reducible refine (awake_w _).mono ?_); rintro e w9 ⟨rfl, hb9⟩; have hk9 := Keep.mk (hI.out.keep hb9); clear hb9)
        refine bodyPost_ret (v := .bool true) (by simp [results, Try.results9, go_sem, h1']) rfl ?_
        exact ⟨rfl, hk9.out.2.2⟩
end Go.Proofs.Yteekigpdiklppaa
