import Derived.Test.YteekigpdiklppaaWLaw
set_option linter.unusedSimpArgs false
set_option linter.unusedVariables false
namespace Go.Proofs.Yteekigpdiklppaa
open Go Go.Proofs Go.RowKit Go.Seq
attribute [local go_sem] Oper.semAt_some
set_option maxHeartbeats 8000000 in
set_option maxRecDepth 100000 in
theorem unions_any (n0 x0 x1 x2 : Int) {v1 : Value} {ps : Pts} {w : World} (hv : PairsO w v1 ps) (hlen : ps.length ≤ maxLen) :
    Calls Try.prog 15 #[.int .i64 n0, v1, .agg #[.int .i64 x0, .int .i64 x1, .int .i64 x2]] w fun e w' => e = .returned (.bool true) ∧ Below w.heap.size w w' := by
  have hmx : Try.prog.follows .mixedOrders = true := by kernel_rfl
  obtain ⟨wa, hwa⟩ : ∃ wa, w.alloc (.cells #[.int .i64 x0, .int .i64 x1, .int .i64 x2] 70) = wa := ⟨_, rfl⟩
  have ba : Below w.heap.size w wa := by rw [← hwa]; exact (Below.refl _ _).alloc (Nat.le_refl _) _
  have fa : wa.heap[w.heap.size]? = some (.cells #[.int .i64 x0, .int .i64 x1, .int .i64 x2] 70 (0, 0)) := by rw [← hwa]; exact World.alloc_heap_new w _
  have sa : wa.heap.size = w.heap.size + 1 := by rw [← hwa]; simp
  have q50 := tame_any n0 (pairsO_below hv ba) (by unfold maxLen at hlen; omega)
  have hG := tame_gok n0 ps
  obtain ⟨N, hN⟩ : ∃ N, 1 + modN n0 12 = N := ⟨_, rfl⟩
  rw [hN] at q50 hG
  obtain ⟨E, hE⟩ : ∃ E, tameE N ps = E := ⟨_, rfl⟩
  rw [hE] at q50 hG
  clear hN hE hv hlen
  have hN1 := hG.n1
  have hN12 := hG.n12
  have hM1 := forts_ne hN1 hN12 (adjOf E)
  have hM2 := forts_len hN12 (adjOf E)
  have hmem : ∀ F ∈ fortsOf N (adjOf E), isF N (adjOf E) F = true ∧ InN N F := fun F h => forts_mem h
  obtain ⟨L, hL⟩ : ∃ L, fortsOf N (adjOf E) = L := ⟨_, rfl⟩
  rw [hL] at hM1 hM2 hmem
  obtain ⟨M, hM⟩ : ∃ M, L.length = M := ⟨_, rfl⟩
  rw [hM] at hM1 hM2
  have q53a := fun w => mod_any x0 (m := M) hM1 (by omega) w
  have q53b := fun w => mod_any x1 (m := M) hM1 (by omega) w
  have hia := modN_lt x0 hM1
  have hib := modN_lt x1 hM1
  obtain ⟨ia, hiae⟩ : ∃ ia, modN x0 M = ia := ⟨_, rfl⟩
  obtain ⟨ib, hibe⟩ : ∃ ib, modN x1 M = ib := ⟨_, rfl⟩
  rw [hiae] at q53a hia
  rw [hibe] at q53b hib
  obtain ⟨A, hA⟩ : ∃ A, L[ia]? = some A := ⟨_, List.getElem?_eq_getElem (by omega)⟩
  obtain ⟨B, hB⟩ : ∃ B, L[ib]? = some B := ⟨_, List.getElem?_eq_getElem (by omega)⟩
  obtain ⟨hAF, hAin⟩ := hmem A (List.mem_of_getElem? hA)
  obtain ⟨hBF, hBin⟩ := hmem B (List.mem_of_getElem? hB)
  have q35 : Keep (∀ W ve, PairsOf W ve E → _) := ⟨fun W ve he => oForts (w := W) (ve := ve) hG he hL hM hia hA hB⟩
  obtain ⟨U, hU⟩ : ∃ U : Nat → Bool, (fun j => A j || B j) = U := ⟨_, rfl⟩
  have hUF := union_fort hAF hBF
  rw [hU] at hUF
  have hUin : InN N U := fun j h1 h2 => by rw [← hU]; simp [hAin j h1 h2, hBin j h1 h2]
  obtain ⟨nA, hnA⟩ : ∃ n, num A = n := ⟨_, rfl⟩
  obtain ⟨nB, hnB⟩ : ∃ n, num B = n := ⟨_, rfl⟩
  obtain ⟨nU, hnU⟩ : ∃ n, num U = n := ⟨_, rfl⟩
  have dor : bits .or .i64 (nA : Int) (nB : Int) = (nU : Int) := by
    have := or_num A B
    rw [hU, hnA, hnB, hnU] at this; exact this
  have q26A := Keep.mk (set_n hnA)
  have q26B := Keep.mk (set_n hnB)
  have q28 := fun W => oList (N := N) hnU W
  have q45 : Keep (∀ W ve v, PairsOf W ve E → IntsO W v (zsOf U) → Calls Try.prog 45 #[.int .i64 N, ve, v] W fun e w' => e = .returned (.tuple #[.bool true, .int .i64 0]) ∧ Below W.heap.size W w') := ⟨fun W ve v he hv => by
    have := oIsFort hG he hUin hv
    rw [hUF] at this; exact this⟩
  have q51 := fun W => oSome hN12 x2 W
  have hSin := someS_inN N x2
  obtain ⟨S, hS⟩ : ∃ S, someS N x2 = S := ⟨_, rfl⟩
  rw [hS] at q51 hSin
  obtain ⟨nS, hnS⟩ : ∃ n, num S = n := ⟨_, rfl⟩
  have q26S := Keep.mk (set_n hnS)
  obtain ⟨F, hF⟩ : ∃ F, (fun j => allS N j && !clo (fround (adjOf E)) S j) = F := ⟨_, rfl⟩
  have hFin : InN N F := fun j h1 h2 => by rw [← hF]; simp [allS]; omega
  obtain ⟨nF, hnF⟩ : ∃ n, num F = n := ⟨_, rfl⟩
  have q26F := Keep.mk (set_n hnF)
  have q21 := Keep.mk (fun (W : World) (ve v : Value) (he : PairsOf W ve E) (hv : IntsO W v (zsOf S)) => oFortI hG he hSin hv)
  rw [hF] at q21
  have dFS : bits .and .i64 (nF : Int) (nS : Int) = 0 := by
    have := and_num F S
    rw [hnF, hnS] at this
    rw [this, num_none.2 (fun j hj => by
      rw [← hF]
      cases e : S j with
      | false => simp
      | true => simp [clo_up (infl_force (adjOf E)) S j e])]; rfl
  obtain ⟨nI, hnI⟩ : ∃ n, num (fun j => U j && S j) = n := ⟨_, rfl⟩
  have dUS : bits .and .i64 (nU : Int) (nS : Int) = (nI : Int) := by
    have := and_num U S
    rw [hnU, hnS, hnI] at this; exact this
  obtain ⟨y, hy⟩ : ∃ y, eqb (clo (fround (adjOf E)) S) (allS N) = y := ⟨_, rfl⟩
  rw [hy] at q21
  have hzero : nI = 0 → y = false ∧ bits .andNot .i64 (nU : Int) (nF : Int) = 0 := fun h0 => by
    have hd : ∀ j, j < 12 → S j = true → U j = false := fun j hj hs => by
      have := num_none.1 (hnI.trans h0) j hj
      simpa [hs] using this
    have hbs := beside_fort hUF hSin hd
    constructor
    · cases y with
      | false => rfl
      | true =>
        obtain ⟨⟨j, hj, hu⟩, _⟩ := isF_iff.1 hUF
        have h1 := eqb_iff.1 hy j hj
        rw [hbs j hj hu] at h1
        have h2 : j < N := by
          rcases Nat.lt_or_ge j N with h | h
          · exact h
          · rw [hUin j h hj] at hu; cases hu
        simp [allS] at h1; omega
    · have hsub : ∀ j, j < 12 → U j = true → F j = true := fun j hj hu => by
        have h2 : j < N := by
          rcases Nat.lt_or_ge j N with h | h
          · exact h
          · rw [hUin j h hj] at hu; cases hu
        rw [← hF]; simp [allS, h2, hbs j hj hu]
      have := num_diff U F
      rw [hnU, hnF] at this
      rw [this, num_sub.2 hsub]; rfl
  have hMs : ¬ (M : Int) < 1 := by omega
  have hak := Keep.mk (And.intro ba (And.intro fa sa))
  have hiaM : (ia : Int) < (M : Int) := by omega
  have hibM : (ib : Int) < (M : Int) := by omega
  have hia0 : ¬ (ia : Int) < 0 := by omega
  have hib0 : ¬ (ib : Int) < 0 := by omega
  clear ba fa sa hL hM hmem hiae hibe hA hB hAF hBF hU hUF hUin hnA hnB hnU hS hnS hF hnF hnI hy hM1 hM2 hG hSin
  go_enter Try.func15, Try.ntmps15
  go_wp2_with (first
    | (go_at_call 50; (with_reducible refine q50.mono ?_); rintro e w1 ⟨ve, rfl, hrow1, hb1⟩
       have hp1 := own_pairs hrow1
       have fa1 := (hb1.block w.heap.size (by rw [hak.out.2.2]; omega)).trans hak.out.2.1
       have h1k : Keep (Fb w w1 (.cells #[.int .i64 x0, .int .i64 x1, .int .i64 x2] 70 (0, 0)) ve E []) := ⟨⟨⟨hp1, fun x hx => by simp at hx⟩, fa1, hak.out.1.trans (hb1.mono hak.out.1.size)⟩⟩
       clear hrow1 hb1 hp1 fa1 q50)
    | (go_at_call 35; have hp1 := h1k.out.ps
       (with_reducible refine (q35.out _ _ hp1).mono ?_); rintro e w2 ⟨g, cap, XA, la, cA, XB, lb, cB, rfl, hcl, hil, hb2⟩
       have h2k := Keep.mk (And.intro ((h1k.out.put hb2 hil.1).put (Below.refl _ _) hil.2) hcl)
       clear hp1 hcl hil hb2 q35))
  clear hwa hak h1k
  obtain ⟨BX, hBX⟩ : ∃ BX : World → Prop, BX = fun W => Fb w W (.cells #[.int .i64 x0, .int .i64 x1, .int .i64 x2] 70 (0, 0)) ve E [((.slice XB lb cB), B), ((.slice XA la cA), A)] ∧ W.cell? ⟨g, ia, none⟩ = some (.slice XA la cA) ∧ W.cell? ⟨g, ib, none⟩ = some (.slice XB lb cB) := ⟨_, rfl⟩
  have hCa : ∀ W W', BX W → Below W.heap.size W W' → BX W' := fun W W' h hb => by rw [hBX] at h ⊢; exact ⟨h.1.keep hb, cell_below h.2.1 hb, cell_below h.2.2 hb⟩
  have hCg : ∀ W, BX W → Keep (Fb w W (.cells #[.int .i64 x0, .int .i64 x1, .int .i64 x2] 70 (0, 0)) ve E [((.slice XB lb cB), B), ((.slice XA la cA), A)]) := fun W h => by rw [hBX] at h; exact ⟨h.1⟩
  have hcx0 : ∀ W, BX W → W.cell? ⟨w.heap.size, 0, none⟩ = some (.int .i64 x0) := fun W h => by have := (hCg W h).out.2.1; simp [World.cell?, this]
  have hcx1 : ∀ W, BX W → W.cell? ⟨w.heap.size, 1, none⟩ = some (.int .i64 x1) := fun W h => by have := (hCg W h).out.2.1; simp [World.cell?, this]
  have hca : ∀ W, BX W → W.cell? ⟨g, ia, none⟩ = some (.slice XA la cA) := fun W h => by rw [hBX] at h; exact h.2.1
  have hcb : ∀ W, BX W → W.cell? ⟨g, ib, none⟩ = some (.slice XB lb cB) := fun W h => by rw [hBX] at h; exact h.2.2
  have hB0 : BX w2 := by rw [hBX]; exact h2k.out
  clear hBX h2k
  refine (wpIn_wide (n := 0)).1 ?_
  refine Many.region_many (fun _ W => BX W) hmx (by kernel_rfl) (fun s s' W' h hc => hc) (fun s hs => hCa _ _ hB0 ((Below.refl _ _).drew)) ?_
  refine Many.lex_want (by rfl) (Many.tr_read (v := .slice (some ⟨g, 0, none⟩) M cap) BX (fun s W h => h) (fun s W h => h) (fun W h => by clear h; go_simp; (try rfl); (try (intro hneg; omega)))) ?_
  simp only [Act.put, List.setIfInBounds_toArray, List.set_cons_succ, List.set_cons_zero, Nat.reduceAdd]
  refine Many.lex_want (by rfl) (Many.tr_read (v := .pointer (some ⟨w.heap.size, 0, none⟩)) BX (fun s W h => h) (fun s W h => h) (fun W h => by clear h; go_simp; (try rfl); (try (intro hneg; omega)))) ?_
  simp only [Act.put, List.setIfInBounds_toArray, List.set_cons_succ, List.set_cons_zero, Nat.reduceAdd]
  refine Many.lex_want (by rfl) (Many.tr_read (v := .int .i64 x0) BX (fun s W h => h) (fun s W h => h) (fun W h => by have cx := hcx0 W h; clear h; go_simp; (try rfl); (try (intro hneg; omega)))) ?_
  simp only [Act.put, List.setIfInBounds_toArray, List.set_cons_succ, List.set_cons_zero, Nat.reduceAdd]
  refine Many.lex_want (by rfl) (Many.tr_read (v := .slice (some ⟨g, 0, none⟩) M cap) BX (fun s W h => h) (fun s W h => h) (fun W h => by clear h; go_simp; (try rfl); (try (intro hneg; omega)))) ?_
  simp only [Act.put, List.setIfInBounds_toArray, List.set_cons_succ, List.set_cons_zero, Nat.reduceAdd]
  refine Many.lex_want (by rfl) (Many.tr_read (v := .int .i64 M) BX (fun s W h => h) (fun s W h => h) (fun W h => by clear h; go_simp; (try rfl); (try (intro hneg; omega)))) ?_
  simp only [Act.put, List.setIfInBounds_toArray, List.set_cons_succ, List.set_cons_zero, Nat.reduceAdd]
  refine Many.lex_want (by rfl) (Many.tr_call (v := .int .i64 ia) (f := 53) (args := #[.int .i64 x0, .int .i64 M]) BX (fun s W h => h) (fun s W h => (q53a W).mono (fun e W' hw' => ⟨hw'.1, by rw [hw'.2]; exact h⟩)) (fun W h => by clear h; go_simp; try rfl)) ?_
  simp only [Act.put, List.setIfInBounds_toArray, List.set_cons_succ, List.set_cons_zero, Nat.reduceAdd]
  refine Many.lex_want (by rfl) (Many.tr_read (v := .pointer (some ⟨g, ia, none⟩)) BX (fun s W h => h) (fun s W h => h) (fun W h => by clear h; go_simp; (try rfl); (try (intro hneg; omega)))) ?_
  simp only [Act.put, List.setIfInBounds_toArray, List.set_cons_succ, List.set_cons_zero, Nat.reduceAdd]
  refine Many.lex_want (by rfl) (Many.tr_read (v := (.slice XA la cA)) BX (fun s W h => h) (fun s W h => h) (fun W h => by have cx := hca W h; clear h; go_simp; (try rfl); (try (intro hneg; omega)))) ?_
  simp only [Act.put, List.setIfInBounds_toArray, List.set_cons_succ, List.set_cons_zero, Nat.reduceAdd]
  refine Many.lex_want (by rfl) (Many.tr_read (v := .slice (some ⟨g, 0, none⟩) M cap) BX (fun s W h => h) (fun s W h => h) (fun W h => by clear h; go_simp; (try rfl); (try (intro hneg; omega)))) ?_
  simp only [Act.put, List.setIfInBounds_toArray, List.set_cons_succ, List.set_cons_zero, Nat.reduceAdd]
  refine Many.lex_want (by rfl) (Many.tr_read (v := .pointer (some ⟨w.heap.size, 1, none⟩)) BX (fun s W h => h) (fun s W h => h) (fun W h => by clear h; go_simp; (try rfl); (try (intro hneg; omega)))) ?_
  simp only [Act.put, List.setIfInBounds_toArray, List.set_cons_succ, List.set_cons_zero, Nat.reduceAdd]
  refine Many.lex_want (by rfl) (Many.tr_read (v := .int .i64 x1) BX (fun s W h => h) (fun s W h => h) (fun W h => by have cx := hcx1 W h; clear h; go_simp; (try rfl); (try (intro hneg; omega)))) ?_
  simp only [Act.put, List.setIfInBounds_toArray, List.set_cons_succ, List.set_cons_zero, Nat.reduceAdd]
  refine Many.lex_want (by rfl) (Many.tr_read (v := .slice (some ⟨g, 0, none⟩) M cap) BX (fun s W h => h) (fun s W h => h) (fun W h => by clear h; go_simp; (try rfl); (try (intro hneg; omega)))) ?_
  simp only [Act.put, List.setIfInBounds_toArray, List.set_cons_succ, List.set_cons_zero, Nat.reduceAdd]
  refine Many.lex_want (by rfl) (Many.tr_read (v := .int .i64 M) BX (fun s W h => h) (fun s W h => h) (fun W h => by clear h; go_simp; (try rfl); (try (intro hneg; omega)))) ?_
  simp only [Act.put, List.setIfInBounds_toArray, List.set_cons_succ, List.set_cons_zero, Nat.reduceAdd]
  refine Many.lex_want (by rfl) (Many.tr_call (v := .int .i64 ib) (f := 53) (args := #[.int .i64 x1, .int .i64 M]) BX (fun s W h => h) (fun s W h => (q53b W).mono (fun e W' hw' => ⟨hw'.1, by rw [hw'.2]; exact h⟩)) (fun W h => by clear h; go_simp; try rfl)) ?_
  simp only [Act.put, List.setIfInBounds_toArray, List.set_cons_succ, List.set_cons_zero, Nat.reduceAdd]
  refine Many.lex_want (by rfl) (Many.tr_read (v := .pointer (some ⟨g, ib, none⟩)) BX (fun s W h => h) (fun s W h => h) (fun W h => by clear h; go_simp; (try rfl); (try (intro hneg; omega)))) ?_
  simp only [Act.put, List.setIfInBounds_toArray, List.set_cons_succ, List.set_cons_zero, Nat.reduceAdd]
  refine Many.lex_want (by rfl) (Many.tr_read (v := (.slice XB lb cB)) BX (fun s W h => h) (fun s W h => h) (fun W h => by have cx := hcb W h; clear h; go_simp; (try rfl); (try (intro hneg; omega)))) ?_
  simp only [Act.put, List.setIfInBounds_toArray, List.set_cons_succ, List.set_cons_zero, Nat.reduceAdd]
  refine Many.lex_want (by rfl) (Many.tr_read (v := (.slice XA la cA)) BX (fun s W h => h) (fun s W h => h) (fun W h => by clear h; go_simp; (try rfl); (try (intro hneg; omega)))) ?_
  simp only [Act.put, List.setIfInBounds_toArray, List.set_cons_succ, List.set_cons_zero, Nat.reduceAdd]
  refine Many.lex_want (by rfl) (Many.tr_read (v := (.slice XB lb cB)) BX (fun s W h => h) (fun s W h => h) (fun W h => by clear h; go_simp; (try rfl); (try (intro hneg; omega)))) ?_
  simp only [Act.put, List.setIfInBounds_toArray, List.set_cons_succ, List.set_cons_zero, Nat.reduceAdd]
  refine Many.lex_nil fun s9 W3 hs9 hS3 => ?_
  have hk3 := hCg _ hS3
  clear hS3 hB0 hCa hCg hcx0 hcx1 hca hcb q53a q53b
  by_cases h0 : nI = 0
  · obtain ⟨rfl, dUF⟩ := hzero h0
    rw [h0] at dUS
    simp only [Bool.false_eq_true, if_false] at q21
    clear hzero h0
    go_wp2_with (first
      | (go_at_call 52; have hv4 := hk3.out.at (v := (.slice XA la cA)) (s := A) (.tail _ (.head _))
         (with_reducible refine (oWithin hAin hv4).mono ?_); rintro e w4 ⟨rfl, hb4⟩
         have hk4 := Keep.mk (hk3.out.keep hb4)
         clear hb4 hv4 hk3)
      | (go_at_call 52; have hv5 := hk4.out.at (v := (.slice XB lb cB)) (s := B) (.head _)
         (with_reducible refine (oWithin hBin hv5).mono ?_); rintro e w5 ⟨rfl, hb5⟩
         have hk5 := Keep.mk (hk4.out.keep hb5)
         clear hb5 hv5 hk4)
      | (go_at_call 26; have hvx := hk5.out.at (v := (.slice XA la cA)) (s := A) (.tail _ (.head _))
         (with_reducible refine (q26A.out _ _ hvx).mono ?_); rintro e wm ⟨rfl, hem⟩; rw [hem]; clear hem wm hvx)
      | (go_at_call 26; have hvx := hk5.out.at (v := (.slice XB lb cB)) (s := B) (.head _)
         (with_reducible refine (q26B.out _ _ hvx).mono ?_); rintro e wm ⟨rfl, hem⟩; rw [hem]; clear hem wm hvx)
      | (go_at_call 28; (with_reducible refine (q28 _).mono ?_); rintro e w6 ⟨vu, rfl, hi6, hb6⟩
         have hk6 := Keep.mk (hk5.out.put hb6 hi6)
         clear hi6 hb6 hk5 q28)
      | (go_at_call 45; have hp7 := hk6.out.ps; have hv7 := hk6.out.at (v := vu) (s := U) (.head _)
         (with_reducible refine (q45.out _ _ _ hp7 hv7).mono ?_); rintro e w7 ⟨rfl, hb7⟩
         have hk7 := Keep.mk (hk6.out.keep hb7)
         have c2 : w7.cell? ⟨w.heap.size, 2, none⟩ = some (.int .i64 x2) := by have := hk7.out.2.1; simp [World.cell?, this]
         clear hb7 hv7 hp7 hk6 q45)
      | (go_at_call 51; (with_reducible refine (q51 _).mono ?_); rintro e w8 ⟨vs, rfl, hi8, hb8⟩
         have hk8 := Keep.mk (hk7.out.put hb8 hi8)
         clear hi8 hb8 hk7 q51 c2)
      | (go_at_call 21; have hp9 := hk8.out.ps; have hv9 := hk8.out.at (v := vs) (s := S) (.head _)
         (with_reducible refine (q21.out _ _ _ hp9 hv9).mono ?_); rintro e w9 ⟨vf, rfl, hi9, hb9⟩
         have hk9 := Keep.mk (hk8.out.put hb9 hi9)
         clear hi9 hb9 hv9 hp9 hk8 q21)
      | (go_at_call 52; have hv10 := hk9.out.at (v := vf) (s := F) (.head _)
         (with_reducible refine (oWithin hFin hv10).mono ?_); rintro e w10 ⟨rfl, hb10⟩
         have hk10 := Keep.mk (hk9.out.keep hb10)
         clear hb10 hv10 hk9)
      | (go_at_call 26; have hvx := hk10.out.at (v := vf) (s := F) (.head _)
         (with_reducible refine (q26F.out _ _ hvx).mono ?_); rintro e wm ⟨rfl, hem⟩; rw [hem]; clear hem wm hvx)
      | (go_at_call 26; have hvx := hk10.out.at (v := vs) (s := S) (.tail _ (.head _))
         (with_reducible refine (q26S.out _ _ hvx).mono ?_); rintro e wm ⟨rfl, hem⟩; rw [hem]; clear hem wm hvx)
      | (go_at_call 23; (with_reducible refine (awake_w _).mono ?_); rintro e w11 ⟨rfl, hb11⟩
         have hk11 := Keep.mk (hk10.out.keep hb11)
         clear hb11 hk10))
    refine bodyPost_ret (v := .bool true) (by simp [results, Try.results15, go_sem]) rfl ?_
    exact ⟨rfl, hk11.out.2.2⟩
  · have hI0 : ¬ (nI : Int) = 0 := by omega
    clear h0 hzero
    cases y with
    | true =>
      simp only [if_true] at q21
      go_wp2_with (first
        | (go_at_call 52; have hv4 := hk3.out.at (v := (.slice XA la cA)) (s := A) (.tail _ (.head _))
           (with_reducible refine (oWithin hAin hv4).mono ?_); rintro e w4 ⟨rfl, hb4⟩
           have hk4 := Keep.mk (hk3.out.keep hb4)
           clear hb4 hv4 hk3)
        | (go_at_call 52; have hv5 := hk4.out.at (v := (.slice XB lb cB)) (s := B) (.head _)
           (with_reducible refine (oWithin hBin hv5).mono ?_); rintro e w5 ⟨rfl, hb5⟩
           have hk5 := Keep.mk (hk4.out.keep hb5)
           clear hb5 hv5 hk4)
        | (go_at_call 26; have hvx := hk5.out.at (v := (.slice XA la cA)) (s := A) (.tail _ (.head _))
           (with_reducible refine (q26A.out _ _ hvx).mono ?_); rintro e wm ⟨rfl, hem⟩; rw [hem]; clear hem wm hvx)
        | (go_at_call 26; have hvx := hk5.out.at (v := (.slice XB lb cB)) (s := B) (.head _)
           (with_reducible refine (q26B.out _ _ hvx).mono ?_); rintro e wm ⟨rfl, hem⟩; rw [hem]; clear hem wm hvx)
        | (go_at_call 28; (with_reducible refine (q28 _).mono ?_); rintro e w6 ⟨vu, rfl, hi6, hb6⟩
           have hk6 := Keep.mk (hk5.out.put hb6 hi6)
           clear hi6 hb6 hk5 q28)
        | (go_at_call 45; have hp7 := hk6.out.ps; have hv7 := hk6.out.at (v := vu) (s := U) (.head _)
           (with_reducible refine (q45.out _ _ _ hp7 hv7).mono ?_); rintro e w7 ⟨rfl, hb7⟩
           have hk7 := Keep.mk (hk6.out.keep hb7)
           have c2 : w7.cell? ⟨w.heap.size, 2, none⟩ = some (.int .i64 x2) := by have := hk7.out.2.1; simp [World.cell?, this]
           clear hb7 hv7 hp7 hk6 q45)
        | (go_at_call 51; (with_reducible refine (q51 _).mono ?_); rintro e w8 ⟨vs, rfl, hi8, hb8⟩
           have hk8 := Keep.mk (hk7.out.put hb8 hi8)
           clear hi8 hb8 hk7 q51 c2)
        | (go_at_call 21; have hp9 := hk8.out.ps; have hv9 := hk8.out.at (v := vs) (s := S) (.head _)
           (with_reducible refine (q21.out _ _ _ hp9 hv9).mono ?_); rintro e w9 ⟨vf, rfl, hi9, hb9⟩
           have hk9 := Keep.mk (hk8.out.put hb9 hi9)
           clear hi9 hb9 hv9 hp9 hk8 q21)
        | (go_at_call 52; have hv10 := hk9.out.at (v := vf) (s := F) (.head _)
           (with_reducible refine (oWithin hFin hv10).mono ?_); rintro e w10 ⟨rfl, hb10⟩
           have hk10 := Keep.mk (hk9.out.keep hb10)
           clear hb10 hv10 hk9)
        | (go_at_call 26; have hvx := hk10.out.at (v := vf) (s := F) (.head _)
           (with_reducible refine (q26F.out _ _ hvx).mono ?_); rintro e wm ⟨rfl, hem⟩; rw [hem]; clear hem wm hvx)
        | (go_at_call 26; have hvx := hk10.out.at (v := vs) (s := S) (.tail _ (.head _))
           (with_reducible refine (q26S.out _ _ hvx).mono ?_); rintro e wm ⟨rfl, hem⟩; rw [hem]; clear hem wm hvx)
        | (go_at_call 23; (with_reducible refine (awake_w _).mono ?_); rintro e w11 ⟨rfl, hb11⟩
           have hk11 := Keep.mk (hk10.out.keep hb11)
           clear hb11 hk10))
      refine bodyPost_ret (v := .bool true) (by simp [results, Try.results15, go_sem]) rfl ?_
      exact ⟨rfl, hk11.out.2.2⟩
    | false =>
      simp only [Bool.false_eq_true, if_false] at q21
      go_wp2_with (first
        | (go_at_call 52; have hv4 := hk3.out.at (v := (.slice XA la cA)) (s := A) (.tail _ (.head _))
           (with_reducible refine (oWithin hAin hv4).mono ?_); rintro e w4 ⟨rfl, hb4⟩
           have hk4 := Keep.mk (hk3.out.keep hb4)
           clear hb4 hv4 hk3)
        | (go_at_call 52; have hv5 := hk4.out.at (v := (.slice XB lb cB)) (s := B) (.head _)
           (with_reducible refine (oWithin hBin hv5).mono ?_); rintro e w5 ⟨rfl, hb5⟩
           have hk5 := Keep.mk (hk4.out.keep hb5)
           clear hb5 hv5 hk4)
        | (go_at_call 26; have hvx := hk5.out.at (v := (.slice XA la cA)) (s := A) (.tail _ (.head _))
           (with_reducible refine (q26A.out _ _ hvx).mono ?_); rintro e wm ⟨rfl, hem⟩; rw [hem]; clear hem wm hvx)
        | (go_at_call 26; have hvx := hk5.out.at (v := (.slice XB lb cB)) (s := B) (.head _)
           (with_reducible refine (q26B.out _ _ hvx).mono ?_); rintro e wm ⟨rfl, hem⟩; rw [hem]; clear hem wm hvx)
        | (go_at_call 28; (with_reducible refine (q28 _).mono ?_); rintro e w6 ⟨vu, rfl, hi6, hb6⟩
           have hk6 := Keep.mk (hk5.out.put hb6 hi6)
           clear hi6 hb6 hk5 q28)
        | (go_at_call 45; have hp7 := hk6.out.ps; have hv7 := hk6.out.at (v := vu) (s := U) (.head _)
           (with_reducible refine (q45.out _ _ _ hp7 hv7).mono ?_); rintro e w7 ⟨rfl, hb7⟩
           have hk7 := Keep.mk (hk6.out.keep hb7)
           have c2 : w7.cell? ⟨w.heap.size, 2, none⟩ = some (.int .i64 x2) := by have := hk7.out.2.1; simp [World.cell?, this]
           clear hb7 hv7 hp7 hk6 q45)
        | (go_at_call 51; (with_reducible refine (q51 _).mono ?_); rintro e w8 ⟨vs, rfl, hi8, hb8⟩
           have hk8 := Keep.mk (hk7.out.put hb8 hi8)
           clear hi8 hb8 hk7 q51 c2)
        | (go_at_call 21; have hp9 := hk8.out.ps; have hv9 := hk8.out.at (v := vs) (s := S) (.head _)
           (with_reducible refine (q21.out _ _ _ hp9 hv9).mono ?_); rintro e w9 ⟨vf, rfl, hi9, hb9⟩
           have hk9 := Keep.mk (hk8.out.put hb9 hi9)
           clear hi9 hb9 hv9 hp9 hk8 q21)
        | (go_at_call 52; have hv10 := hk9.out.at (v := vf) (s := F) (.head _)
           (with_reducible refine (oWithin hFin hv10).mono ?_); rintro e w10 ⟨rfl, hb10⟩
           have hk10 := Keep.mk (hk9.out.keep hb10)
           clear hb10 hv10 hk9)
        | (go_at_call 26; have hvx := hk10.out.at (v := vf) (s := F) (.head _)
           (with_reducible refine (q26F.out _ _ hvx).mono ?_); rintro e wm ⟨rfl, hem⟩; rw [hem]; clear hem wm hvx)
        | (go_at_call 26; have hvx := hk10.out.at (v := vs) (s := S) (.tail _ (.head _))
           (with_reducible refine (q26S.out _ _ hvx).mono ?_); rintro e wm ⟨rfl, hem⟩; rw [hem]; clear hem wm hvx)
        | (go_at_call 23; (with_reducible refine (awake_w _).mono ?_); rintro e w11 ⟨rfl, hb11⟩
           have hk11 := Keep.mk (hk10.out.keep hb11)
           clear hb11 hk10))
      refine bodyPost_ret (v := .bool true) (by simp [results, Try.results15, go_sem]) rfl ?_
      exact ⟨rfl, hk11.out.2.2⟩
end Go.Proofs.Yteekigpdiklppaa
