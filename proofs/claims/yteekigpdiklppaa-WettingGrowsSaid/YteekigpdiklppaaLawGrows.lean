import Derived.Test.YteekigpdiklppaaWOwn
set_option linter.unusedSimpArgs false
set_option linter.unusedVariables false
namespace Go.Proofs.Yteekigpdiklppaa
open Go Go.Proofs Go.RowKit Go.Seq
attribute [local go_sem] Oper.semAt_some
/-- The lists that a law holds. -/
def Fa (W : World) (ve : Value) (E : Pts) (l : List (Value × (Nat → Bool))) : Prop := PairsOf W ve E ∧ ∀ x ∈ l, IntsO W x.1 (zsOf x.2)
theorem Fa.after {W W' : World} {ve : Value} {E : Pts} {l : List (Value × (Nat → Bool))} (h : Fa W ve E l) (hb : Below W.heap.size W W') : Fa W' ve E l := ⟨pairsOf_below h.1 hb, fun x hx => intsO_below (h.2 x hx) hb⟩
theorem Fa.add {W : World} {ve : Value} {E : Pts} {l : List (Value × (Nat → Bool))} (h : Fa W ve E l) {v : Value} {s : Nat → Bool} (hv : IntsO W v (zsOf s)) : Fa W ve E ((v, s) :: l) := ⟨h.1, fun x hx => by
  rcases List.mem_cons.1 hx with rfl | hx
  · exact hv
  · exact h.2 x hx⟩
theorem pairsO_below {w w' : World} {v : Value} {l : Pts} (h : PairsO w v l) (b : Below w.heap.size w w') : PairsO w' v l := by
  obtain ⟨A, cap, hv, hc⟩ := h
  refine ⟨A, cap, hv, fun k hk => ?_⟩
  obtain ⟨g, o, hA, h1, h2⟩ := hc k hk
  exact ⟨g, o, hA, cell_below h1 b, cell_below h2 b⟩
theorem tame_gok (n0 : Int) (ps : Pts) : GOk (1 + modN n0 12) (tameE (1 + modN n0 12) ps) := by
  have h := modN_lt n0 (m := 12) (by omega)
  exact ⟨by omega, by omega, tameE_ok (by omega) (by omega) ps⟩
theorem adds_inN {N : Nat} {s : Nat → Bool} (h : InN N s) {u : Nat} (hu : u < N) : InN N (adds s u) := fun j h1 h2 => by
  unfold adds
  rw [if_neg (by omega)]; exact h j h1 h2
theorem Fa.step {w W W' : World} {ve : Value} {E : Pts} {l : List (Value × (Nat → Bool))} (h : Fa W ve E l ∧ Below w.heap.size w W) (hb : Below W.heap.size W W') {v : Value} {s : Nat → Bool} (hv : IntsO W' v (zsOf s)) : Fa W' ve E ((v, s) :: l) ∧ Below w.heap.size w W' := ⟨(h.1.after hb).add hv, h.2.trans (hb.mono h.2.size)⟩
theorem Fa.step0 {w W W' : World} {ve : Value} {E : Pts} {l : List (Value × (Nat → Bool))} (h : Fa W ve E l ∧ Below w.heap.size w W) (hb : Below W.heap.size W W') : Fa W' ve E l ∧ Below w.heap.size w W' := ⟨h.1.after hb, h.2.trans (hb.mono h.2.size)⟩
theorem intsO_slice {W : World} {v : Value} {zs : List Int} (h : IntsO W v zs) : ∃ A cap, v = .slice A zs.length cap := by
  obtain ⟨A, cap, hv, _⟩ := h
  exact ⟨A, cap, hv⟩
/-- Close as a law uses it. -/
theorem close_sl {N : Nat} {E : Pts} {s : Nat → Bool} (h : GOk N E) (hs : InN N s) {A : Nat → Bool} (hA : clo (fround (adjOf E)) s = A) {la : Nat} (hla : (zsOf A).length = la) {k : Nat} (hk : kfOf (fround (adjOf E)) s = k) : ∀ (W : World) (ve v : Value), PairsOf W ve E → IntsO W v (zsOf s) →
    Calls Try.prog 19 #[.int .i64 N, ve, v] W fun e w' => ∃ X cap, e = .returned (.tuple #[.slice X la cap, .int .i64 k, .int .i64 0]) ∧ IntsO w' (.slice X la cap) (zsOf A) ∧ Below W.heap.size W w' := fun W ve v he hv => (oClose h he hs hv).mono fun e w' ⟨lv, h1, h2, h3⟩ => by
  rw [hA] at h2; rw [hk] at h1
  obtain ⟨X, cap, rfl⟩ := intsO_slice h2
  rw [hla] at h1 h2
  exact ⟨X, cap, h1, h2, h3⟩
/-- Soak as a law uses it. -/
theorem soak_sl {N : Nat} {E : Pts} {r : Int} {s : Nat → Bool} (h : GOk N E) (hr1 : 1 ≤ r) (hr6 : r ≤ 6) (hs : InN N s) {A : Nat → Bool} (hA : clo (sokd N (adjOf E) r) s = A) {la : Nat} (hla : (zsOf A).length = la) {k : Nat} (hk : kfOf (sokd N (adjOf E) r) s = k) : ∀ (W : World) (ve v : Value), PairsOf W ve E → IntsO W v (zsOf s) →
    Calls Try.prog 30 #[.int .i64 N, ve, v, .int .i64 r] W fun e w' => ∃ X cap, e = .returned (.tuple #[.slice X la cap, .int .i64 k, .int .i64 0]) ∧ IntsO w' (.slice X la cap) (zsOf A) ∧ Below W.heap.size W w' := fun W ve v he hv => (oSoak h hr1 hr6 he hs hv).mono fun e w' ⟨lv, h1, h2, h3⟩ => by
  rw [hA] at h2; rw [hk] at h1
  obtain ⟨X, cap, rfl⟩ := intsO_slice h2
  rw [hla] at h1 h2
  exact ⟨X, cap, h1, h2, h3⟩
theorem set_n {s : Nat → Bool} {n : Nat} (hn : num s = n) : ∀ (W : World) (v : Value), IntsO W v (zsOf s) → Calls Try.prog 26 #[v] W fun e w' => e = .returned (.int .i64 (n : Nat)) ∧ w' = W := fun W v h => by
  have := set_of h
  rw [hn] at this
  exact this
theorem sub_zero {s t : Nat → Bool} {n m : Nat} (hn : num s = n) (hm : num t = m) (h : ∀ j, j < 12 → s j = true → t j = true) : bits .andNot .i64 (n : Int) (m : Int) = 0 := by
  rw [← hn, ← hm, num_diff, num_sub.2 h]; rfl
set_option maxHeartbeats 8000000 in
set_option maxRecDepth 100000 in
theorem grows_any (n0 x0 x1 x2 : Int) {v1 : Value} {ps : Pts} {w : World} (hv : PairsO w v1 ps) (hlen : ps.length ≤ maxLen) :
    Calls Try.prog 10 #[.int .i64 n0, v1, .agg #[.int .i64 x0, .int .i64 x1, .int .i64 x2]] w fun e w' => e = .returned (.bool true) ∧ Below w.heap.size w w' := by
  have hmx : Try.prog.follows .mixedOrders = true := by kernel_rfl
  obtain ⟨wa, hwa⟩ : ∃ wa, w.alloc (.cells #[.int .i64 x0, .int .i64 x1, .int .i64 x2] 70) = wa := ⟨_, rfl⟩
  have ba : Below w.heap.size w wa := by rw [← hwa]; exact (Below.refl _ _).alloc (Nat.le_refl _) _
  have fa : wa.heap[w.heap.size]? = some (.cells #[.int .i64 x0, .int .i64 x1, .int .i64 x2] 70 (0, 0)) := by rw [← hwa]; exact World.alloc_heap_new w _
  have sa : wa.heap.size = w.heap.size + 1 := by rw [← hwa]; simp
  have q50 := tame_any n0 (pairsO_below hv ba) (by unfold maxLen at hlen; omega)
  have hG := tame_gok n0 ps
  obtain ⟨N, hN⟩ : ∃ N, 1 + modN n0 12 = N := ⟨_, rfl⟩
  rw [hN] at q50 hG
  obtain ⟨E, hE⟩ : ∃ E, tameE N ps = E := ⟨_, rfl⟩
  rw [hE] at q50 hG
  clear hN hE hv hlen
  have hN1 := hG.n1
  have hN12 := hG.n12
  -- the numbers that the third argument gives
  have q53r : ∀ w, Calls Try.prog 53 #[.int .i64 x2, .int .i64 6] w fun e w' => e = .returned (.int .i64 (modN x2 6 : Nat)) ∧ w' = w := fun w => mod_any x2 (m := 6) (by omega) (by omega) w
  have hr0 := modN_lt x2 (m := 6) (by omega)
  obtain ⟨r0, hr0e⟩ : ∃ r0, modN x2 6 = r0 := ⟨_, rfl⟩
  rw [hr0e] at q53r hr0
  obtain ⟨r, hr⟩ : ∃ r : Int, 1 + (r0 : Int) = r := ⟨_, rfl⟩
  have hrw : IntKind.i64.wrap (1 + (r0 : Int)) = r := by rw [hr]; exact IntWalk.i64_in _ (by omega)
  have hr1 : 1 ≤ r := by omega
  have hr6 : r ≤ 6 := by omega
  clear hr hr0e
  have q51 := fun w => some_any hN12 x0 w
  have hSin := someS_inN N x0
  obtain ⟨S, hS⟩ : ∃ S, someS N x0 = S := ⟨_, rfl⟩
  rw [hS] at q51 hSin
  have q53u := fun w => mod_any x1 (m := N) hN1 (by omega) w
  have hu := modN_lt x1 hN1
  obtain ⟨u, hue⟩ : ∃ u, modN x1 N = u := ⟨_, rfl⟩
  rw [hue] at q53u hu
  obtain ⟨P, hP⟩ : ∃ P : Nat, 2 ^ u = P := ⟨_, rfl⟩
  have hPw : IntKind.i64.wrap (2 ^ u) = (P : Int) := by rw [← hP]; exact wrap_pow (by omega)
  have hPl : P ≤ 4096 := by rw [← hP]; exact pow_lt (by omega)
  have hu0 : ¬ (u : Int) < 0 := by omega
  obtain ⟨T, hT⟩ : ∃ T, adds S u = T := ⟨_, rfl⟩
  have hTin : InN N T := by rw [← hT]; exact adds_inN hSin hu
  have hST : ∀ j, j < 12 → S j = true → T j = true := fun j _ hs => by rw [← hT]; unfold adds; split <;> simp_all
  have hnT : num S ||| P = num T := by rw [← hP, num_or _ _ (by omega), hT]
  have hmT := num_lt T
  have hnSl := num_lt S
  have hor : bits .or .i64 (num S : Int) (P : Int) = (num T : Int) := by rw [or_i64 _ _ (by omega) (by omega), hnT]
  have q28 := fun w => List_any (num T) hmT w
  rw [vsTo_cg (s := setN (num T)) (t := T) 12 (fun j hj => by show (num T).testBit j = T j; rw [num_bit]; simp [hj])] at q28
  have hq26S : Keep (∀ W v, IntsO W v (zsOf S) → Calls Try.prog 26 #[v] W fun e w' => e = .returned (.int .i64 (num S : Nat)) ∧ w' = W) := ⟨fun W v h => set_of h⟩
  obtain ⟨nS, hnS⟩ : ∃ nS, num S = nS := ⟨_, rfl⟩
  obtain ⟨mT, hmTe⟩ : ∃ mT, num T = mT := ⟨_, rfl⟩
  rw [hnS] at hor hnSl hq26S
  rw [hmTe] at hor hmT q28
  have hk0 := Keep.mk (And.intro hnS hmTe)
  have hak := Keep.mk (And.intro ba (And.intro fa sa))
  clear hnS hmTe hnT hP hue hS hT ba
  have c00 : wa.cell? ⟨w.heap.size, 0, none⟩ = some (.int .i64 x0) := by simp [World.cell?, fa]
  clear fa sa
  go_enter Try.func10, Try.ntmps10
  go_wp2_with (first
    | (go_at_call 50; (with_reducible refine q50.mono ?_); rintro e w1 ⟨ve, rfl, hrow1, hb1⟩
       have hp1 := own_pairs hrow1
       have fa1 := (hb1.block w.heap.size (by rw [hak.out.2.2]; omega)).trans hak.out.2.1
       have c0 : w1.cell? ⟨w.heap.size, 0, none⟩ = some (.int .i64 x0) := by simp [World.cell?, fa1]
       have c2 : w1.cell? ⟨w.heap.size, 2, none⟩ = some (.int .i64 x2) := by simp [World.cell?, fa1]
       have h1k := Keep.mk (And.intro hp1 (And.intro fa1 (hak.out.1.trans (hb1.mono hak.out.1.size))))
       clear hrow1 hb1 hp1 fa1 q50)
    | (go_at_call 53; (with_reducible refine (q53r _).mono ?_); rintro e wm ⟨rfl, hem⟩; rw [hem]; clear hem wm)
    | (go_at_call 51; (with_reducible refine (q51 _).mono ?_); rintro e w2 ⟨vs, rfl, hrow2, hb2⟩
       have hFa2 : Fa w2 ve E [(vs, S)] := Fa.add (l := []) ⟨pairsOf_below h1k.out.1 hb2, fun x hx => by simp at hx⟩ (ints_list hrow2)
       have fa2 := (hb2.block w.heap.size (Array.getElem?_eq_some_iff.1 h1k.out.2.1).1).trans h1k.out.2.1
       have h2k := Keep.mk (And.intro hFa2 (And.intro fa2 (h1k.out.2.2.trans (hb2.mono h1k.out.2.2.size))))
       clear hrow2 hb2 hFa2 fa2 c0 c2 q51))
  clear hwa c00 q53r hak h1k
  obtain ⟨BX, hBX⟩ : ∃ BX : World → Prop, BX = fun W => Fa W ve E [(vs, S)] ∧ W.heap[w.heap.size]? = some (.cells #[.int .i64 x0, .int .i64 x1, .int .i64 x2] 70 (0, 0)) ∧ Below w.heap.size w W := ⟨_, rfl⟩
  have hBa : ∀ W W', BX W → Below W.heap.size W W' → BX W' := fun W W' h hb => by
    rw [hBX] at h ⊢; exact ⟨h.1.after hb, (hb.block _ (Array.getElem?_eq_some_iff.1 h.2.1).1).trans h.2.1, h.2.2.trans (hb.mono h.2.2.size)⟩
  have hB0 : BX w2 := by rw [hBX]; exact h2k.out
  have hBf : ∀ W, BX W → Fa W ve E [(vs, S)] ∧ Below w.heap.size w W := fun W h => by rw [hBX] at h; exact ⟨h.1, h.2.2⟩
  have hBc : ∀ W, BX W → W.cell? ⟨w.heap.size, 1, none⟩ = some (.int .i64 x1) := fun W h => by rw [hBX] at h; simp [World.cell?, h.2.1]
  clear hBX h2k
  obtain ⟨CX, hCX⟩ : ∃ CX : (Nat → Bool) → Value → World → Prop, CX = fun t lv W => BX W ∧ (t 8 = true → IntsO W lv (zsOf T)) := ⟨_, rfl⟩
  have hCk : ∀ i, i ≠ 8 → ∀ t lv W, CX t lv W → CX (Manyd.upd t i) lv W := fun i hi t lv W h => by
    rw [hCX] at h ⊢
    exact ⟨h.1, fun e => h.2 (by simpa [Manyd.upd, hi] using e)⟩
  have hC26 : ∀ t lv W, CX t lv W → Calls Try.prog 26 #[vs] W fun e w' => e = .returned (.int .i64 (nS : Nat)) ∧ w' = W := fun t lv W h => by
    rw [hCX] at h; exact hq26S.out W vs ((hBf W h.1).1.2 (vs, S) (by simp))
  have hCx : ∀ t lv W, CX t lv W → W.cell? ⟨w.heap.size, 1, none⟩ = some (.int .i64 x1) := fun t lv W h => by rw [hCX] at h; exact hBc W h.1
  have hC8 : ∀ t lv lv2 W W', CX t lv W → W'.ownsRow W.heap.size 3 1 lv2 (vsTo T 12).length ((vsTo T 12).map ik) → Below W.heap.size W W' → CX (Manyd.upd t 8) lv2 W' := fun t lv lv2 W W' h hr hb => by
    rw [hCX] at h ⊢
    exact ⟨hBa W W' h.1 hb, fun _ => ints_list hr⟩
  have hC0 : ∀ t : Nat → Bool, (∀ j, j < 10 → t j = false) → CX t (.slice none 0 0) w2.drew := fun t ht => by
    rw [hCX]
    exact ⟨hBa _ _ hB0 ((Below.refl _ _).drew), fun e => by rw [ht 8 (by decide)] at e; cases e⟩
  have hCf : ∀ t lv W, CX t lv W → t 8 = true → Keep (Fa W ve E [(lv, T), (vs, S)] ∧ Below w.heap.size w W) := fun t lv W h e => by rw [hCX] at h; exact ⟨(hBf W h.1).1.add (h.2 e), (hBf W h.1).2⟩
  clear hCX hB0
  refine (wpIn_wide (n := 0)).1 ?_
  refine Inv.region_inv (fun t a W => ∃ lv, a = { tmps := #[.int .i64 N, v1, .agg #[.int .i64 x0, .int .i64 x1, .int .i64 x2], undef, undef, .pointer (some ⟨w.heap.size, 0, none⟩), .bool false, ve, .int .i64 r, vs, if t 9 = true then lv else undef, undef, undef, undef, undef, undef, undef, undef, undef, undef, undef, undef, undef, undef, undef, undef, undef, undef, .tuple #[.int .i64 N, ve], .int .i64 n0, v1, .tuple #[.int .i64 N, ve], .int .i64 N, ve, .pointer (some ⟨w.heap.size, 2, none⟩), .int .i64 x2, .int .i64 r0, .int .i64 r, .int .i64 N, .pointer (some ⟨w.heap.size, 0, none⟩), .int .i64 x0, vs, if t 0 = true then vs else undef, if t 1 = true then .int .i64 nS else undef, if t 2 = true then .pointer (some ⟨w.heap.size, 1, none⟩) else undef, if t 3 = true then .int .i64 x1 else undef, if t 4 = true then .int .i64 N else undef, if t 5 = true then .int .i64 u else undef, if t 6 = true then .int .i64 P else undef, if t 7 = true then .int .i64 mT else undef, if t 8 = true then lv else undef, undef, undef, undef, undef, undef, undef, undef, undef, undef, undef, undef, undef, undef, undef, undef, undef, undef, undef, undef, undef, undef, undef, undef, undef, undef, undef, undef, undef, undef, undef, undef, undef, undef, undef, undef, undef, undef, undef, undef, undef, undef, undef, undef, undef, undef, undef, undef, undef, undef, undef, undef, undef, undef, undef, undef, undef, undef, undef, undef, undef, undef, undef, undef, undef, undef, undef, undef, undef, undef, undef, undef, undef, undef, undef, undef, undef, undef, undef, undef, undef, undef, undef, undef, undef, undef, undef, undef, undef, undef, undef, undef, undef, undef, undef, undef, undef, undef, undef, undef, undef, undef, undef, undef, undef, undef, undef, undef, undef, undef, undef, undef, undef, undef, undef, undef, undef, undef, undef, undef, undef, undef, undef, undef, undef, undef, undef, undef, undef, undef, undef, undef, undef, undef, undef, undef, undef, undef, undef, undef, undef, undef, undef, undef, undef, undef, undef, undef, undef, undef, undef, undef, undef, undef, undef, undef, undef, undef, undef, undef], defers := [] } ∧ CX t lv W) hmx (by kernel_rfl) ?_ ?_ ?_
  · intro t hs
    refine ⟨.slice none 0 0, ?_, hC0 t (fun j hj => hs j hj)⟩
    simp only [hs 0 (by decide), hs 1 (by decide), hs 2 (by decide), hs 3 (by decide), hs 4 (by decide), hs 5 (by decide), hs 6 (by decide), hs 7 (by decide), hs 8 (by decide), hs 9 (by decide), Bool.false_eq_true, if_false]
  · refine ⟨?_, ?_, ?_, ?_, ?_, ?_, ?_, ?_, ?_, ?_, trivial⟩
    · rintro t a W hun hdep hbeh ⟨lv, rfl, hT⟩
      (try simp only [Nat.reduceAdd] at hun)
      refine .inl ⟨by rfl, Inv.comesV_val (vs) W (by (clear hT; go_simp; (try rfl); try (intro hneg; omega))) ⟨lv, by (simp only [Act.put, List.setIfInBounds_toArray, List.set_cons_succ, List.set_cons_zero, Manyd.upd, Nat.reduceAdd, Nat.reduceBEq, Bool.or_false, Bool.or_true, if_true]), hCk 0 (by decide) t lv W hT⟩⟩
    · rintro t a W hun hdep hbeh ⟨lv, rfl, hT⟩
      (try simp only [Nat.reduceAdd] at hun)
      have h0 : t 0 = true := Inv.depB_mem 0 hdep (by rfl)
      refine .inl ⟨by rfl, Inv.comesV_call 26 #[vs] W (by (simp only [h0, if_true]; clear hT; go_simp; try rfl)) ((hC26 t lv W hT).mono fun e w5 hw5 => ⟨.int .i64 nS, hw5.1, lv, ?_, ?_⟩)⟩
      · simp only [Act.put, List.setIfInBounds_toArray, List.set_cons_succ, List.set_cons_zero, Manyd.upd, Nat.reduceAdd, Nat.reduceBEq, Bool.or_false, Bool.or_true, if_true]
      · rw [hw5.2]; exact hCk 1 (by decide) t lv W hT
    · rintro t a W hun hdep hbeh ⟨lv, rfl, hT⟩
      (try simp only [Nat.reduceAdd] at hun)
      refine .inl ⟨by rfl, Inv.comesV_val (.pointer (some ⟨w.heap.size, 1, none⟩)) W (by (clear hT; go_simp; (try rfl); try (intro hneg; omega))) ⟨lv, by (simp only [Act.put, List.setIfInBounds_toArray, List.set_cons_succ, List.set_cons_zero, Manyd.upd, Nat.reduceAdd, Nat.reduceBEq, Bool.or_false, Bool.or_true, if_true]), hCk 2 (by decide) t lv W hT⟩⟩
    · rintro t a W hun hdep hbeh ⟨lv, rfl, hT⟩
      (try simp only [Nat.reduceAdd] at hun)
      have h2 : t 2 = true := Inv.depB_mem 2 hdep (by rfl)
      have cx := hCx t lv W hT
      refine .inl ⟨by rfl, Inv.comesV_val (.int .i64 x1) W (by (simp only [h2, if_true]; clear hT; go_simp; (try rfl); try (intro hneg; omega))) ⟨lv, by (simp only [Act.put, List.setIfInBounds_toArray, List.set_cons_succ, List.set_cons_zero, Manyd.upd, Nat.reduceAdd, Nat.reduceBEq, Bool.or_false, Bool.or_true, if_true]), hCk 3 (by decide) t lv W hT⟩⟩
    · rintro t a W hun hdep hbeh ⟨lv, rfl, hT⟩
      (try simp only [Nat.reduceAdd] at hun)
      refine .inl ⟨by rfl, Inv.comesV_val (.int .i64 N) W (by (clear hT; go_simp; (try rfl); try (intro hneg; omega))) ⟨lv, by (simp only [Act.put, List.setIfInBounds_toArray, List.set_cons_succ, List.set_cons_zero, Manyd.upd, Nat.reduceAdd, Nat.reduceBEq, Bool.or_false, Bool.or_true, if_true]), hCk 4 (by decide) t lv W hT⟩⟩
    · rintro t a W hun hdep hbeh ⟨lv, rfl, hT⟩
      (try simp only [Nat.reduceAdd] at hun)
      have h3 : t 3 = true := Inv.depB_mem 3 hdep (by rfl)
      have h4 : t 4 = true := Inv.depB_mem 4 hdep (by rfl)
      refine .inl ⟨by rfl, Inv.comesV_call 53 #[.int .i64 x1, .int .i64 N] W (by (simp only [h3, h4, if_true]; clear hT; go_simp; try rfl)) ((q53u W).mono fun e w5 hw5 => ⟨.int .i64 u, hw5.1, lv, ?_, ?_⟩)⟩
      · simp only [Act.put, List.setIfInBounds_toArray, List.set_cons_succ, List.set_cons_zero, Manyd.upd, Nat.reduceAdd, Nat.reduceBEq, Bool.or_false, Bool.or_true, if_true]
      · rw [hw5.2]; exact hCk 5 (by decide) t lv W hT
    · rintro t a W hun hdep hbeh ⟨lv, rfl, hT⟩
      (try simp only [Nat.reduceAdd] at hun)
      have h5 : t 5 = true := Inv.depB_mem 5 hdep (by rfl)
      refine .inl ⟨by rfl, Inv.comesV_val (.int .i64 P) W (by (simp only [h5, if_true]; clear hT; go_simp; (try rfl); try (intro hneg; omega))) ⟨lv, by (simp only [Act.put, List.setIfInBounds_toArray, List.set_cons_succ, List.set_cons_zero, Manyd.upd, Nat.reduceAdd, Nat.reduceBEq, Bool.or_false, Bool.or_true, if_true]), hCk 6 (by decide) t lv W hT⟩⟩
    · rintro t a W hun hdep hbeh ⟨lv, rfl, hT⟩
      (try simp only [Nat.reduceAdd] at hun)
      have h1 : t 1 = true := Inv.depB_mem 1 hdep (by rfl)
      have h6 : t 6 = true := Inv.depB_mem 6 hdep (by rfl)
      refine .inl ⟨by rfl, Inv.comesV_val (.int .i64 mT) W (by (simp only [h1, h6, if_true]; clear hT; go_simp; (try rfl); try (intro hneg; omega))) ⟨lv, by (simp only [Act.put, List.setIfInBounds_toArray, List.set_cons_succ, List.set_cons_zero, Manyd.upd, Nat.reduceAdd, Nat.reduceBEq, Bool.or_false, Bool.or_true, if_true]), hCk 7 (by decide) t lv W hT⟩⟩
    · rintro t a W hun hdep hbeh ⟨lv, rfl, hT⟩
      (try simp only [Nat.reduceAdd] at hun)
      have h7 : t 7 = true := Inv.depB_mem 7 hdep (by rfl)
      have hn9 : t 9 = false := hbeh 9 (by kernel_rfl)
      refine .inl ⟨by rfl, Inv.comesV_call 28 #[.int .i64 mT] W (by (simp only [h7, if_true]; clear hT; go_simp; try rfl)) ((q28 W).mono fun e w5 hw5 => by
        obtain ⟨lv2, r1, r2, r3⟩ := hw5
        exact ⟨lv2, r1, lv2, by (simp only [hun, hn9, Bool.false_eq_true, if_false]; simp only [Act.put, List.setIfInBounds_toArray, List.set_cons_succ, List.set_cons_zero, Manyd.upd, Nat.reduceAdd, Nat.reduceBEq, Bool.or_false, Bool.or_true, if_true]; simp only [hn9, Bool.false_eq_true, if_false]), hC8 t lv lv2 W w5 hT r2 r3⟩)⟩
    · rintro t a W hun hdep hbeh ⟨lv, rfl, hT⟩
      (try simp only [Nat.reduceAdd] at hun)
      have h8 : t 8 = true := Inv.depB_mem 8 hdep (by rfl)
      refine .inl ⟨by rfl, Inv.comesV_val (lv) W (by (simp only [h8, if_true]; clear hT; go_simp; (try rfl); try (intro hneg; omega))) ⟨lv, by (simp only [Act.put, List.setIfInBounds_toArray, List.set_cons_succ, List.set_cons_zero, Manyd.upd, Nat.reduceAdd, Nat.reduceBEq, Bool.or_false, Bool.or_true, if_true]), hCk 9 (by decide) t lv W hT⟩⟩
  rintro t a W3 hs ⟨vt, rfl, hT3⟩
  have hk3 := hCf t vt W3 hT3 (hs 8 (by decide))
  simp only [hs 0 (by decide), hs 1 (by decide), hs 2 (by decide), hs 3 (by decide), hs 4 (by decide), hs 5 (by decide), hs 6 (by decide), hs 7 (by decide), hs 8 (by decide), hs 9 (by decide), if_true]
  clear hT3 hs hCf hC0 hC8 hCx hC26 hCk hBc hBf hBa q28 q53u hor hPw
  have hIf := infl_force (adjOf E)
  have hIs := infl_soak N (adjOf E) r
  have hAf := absorbs_force (adjOf E)
  have hAs := absorbs_soak N (adjOf E) r
  obtain ⟨A, hA⟩ : ∃ A, clo (fround (adjOf E)) S = A := ⟨_, rfl⟩
  obtain ⟨la, hla⟩ : ∃ la, (zsOf A).length = la := ⟨_, rfl⟩
  obtain ⟨ka, hka⟩ : ∃ ka, kfOf (fround (adjOf E)) S = ka := ⟨_, rfl⟩
  have hAin : InN N A := by rw [← hA]; exact inN_force hG hSin
  have qcA := close_sl hG hSin hA hla hka
  obtain ⟨nA, hnA⟩ : ∃ n, num A = n := ⟨_, rfl⟩
  have q26A := Keep.mk (set_n hnA)
  obtain ⟨B, hB⟩ : ∃ B, clo (fround (adjOf E)) T = B := ⟨_, rfl⟩
  obtain ⟨lb, hlb⟩ : ∃ lb, (zsOf B).length = lb := ⟨_, rfl⟩
  obtain ⟨kb, hkb⟩ : ∃ kb, kfOf (fround (adjOf E)) T = kb := ⟨_, rfl⟩
  have hBin : InN N B := by rw [← hB]; exact inN_force hG hTin
  have qcB := close_sl hG hTin hB hlb hkb
  obtain ⟨nB, hnB⟩ : ∃ n, num B = n := ⟨_, rfl⟩
  have q26B := Keep.mk (set_n hnB)
  obtain ⟨C, hC⟩ : ∃ C, clo (sokd N (adjOf E) r) S = C := ⟨_, rfl⟩
  obtain ⟨lc, hlc⟩ : ∃ lc, (zsOf C).length = lc := ⟨_, rfl⟩
  obtain ⟨kc, hkc⟩ : ∃ kc, kfOf (sokd N (adjOf E) r) S = kc := ⟨_, rfl⟩
  have hCin : InN N C := by rw [← hC]; exact inN_soak r hG hSin
  have qcC := soak_sl hG hr1 hr6 hSin hC hlc hkc
  obtain ⟨nC, hnC⟩ : ∃ n, num C = n := ⟨_, rfl⟩
  have q26C := Keep.mk (set_n hnC)
  obtain ⟨D, hD⟩ : ∃ D, clo (sokd N (adjOf E) r) T = D := ⟨_, rfl⟩
  obtain ⟨ld, hld⟩ : ∃ ld, (zsOf D).length = ld := ⟨_, rfl⟩
  obtain ⟨kd, hkd⟩ : ∃ kd, kfOf (sokd N (adjOf E) r) T = kd := ⟨_, rfl⟩
  have hDin : InN N D := by rw [← hD]; exact inN_soak r hG hTin
  have qcD := soak_sl hG hr1 hr6 hTin hD hld hkd
  obtain ⟨nD, hnD⟩ : ∃ n, num D = n := ⟨_, rfl⟩
  have q26D := Keep.mk (set_n hnD)
  have hA12 := fun j hj => clo_closed hIf S j hj
  rw [hA] at hA12
  have hkA := kf_closed hA12
  have hAA : clo (fround (adjOf E)) A = A := by unfold clo; rw [hkA]; rfl
  have qcG := close_sl hG hAin hAA hla hkA
  have dSA := sub_zero hk0.out.1 hnA (fun j _ hs => by rw [← hA]; exact clo_up hIf S j hs)
  have dAB := sub_zero hnA hnB (by rw [← hA, ← hB]; exact clo_mono hIf hAf hST)
  have dSC := sub_zero hk0.out.1 hnC (fun j _ hs => by rw [← hC]; exact clo_up hIs S j hs)
  have dCD := sub_zero hnC hnD (by rw [← hC, ← hD]; exact clo_mono hIs hAs hST)
  have hfull := full_iff hN12 hAin
  have hle : (vsTo A 12).length = la := by rw [← hla, zsOf_len]
  rw [hle] at hfull
  obtain ⟨z, hz⟩ : ∃ z, eqb A (allS N) = z := ⟨_, rfl⟩
  obtain ⟨F, hF⟩ : ∃ F, (fun j => allS N j && !A j) = F := ⟨_, rfl⟩
  obtain ⟨nF, hnF⟩ : ∃ n, num F = n := ⟨_, rfl⟩
  have q26F := Keep.mk (set_n hnF)
  have hFin : InN N F := fun j h1 h2 => by rw [← hF]; simp [allS]; omega
  obtain ⟨PN, hPN⟩ : ∃ P : Nat, 2 ^ N = P := ⟨_, rfl⟩
  have hsum : nF + nA = PN - 1 := by rw [← hnF, ← hnA, ← hPN, ← hF]; exact num_rest hN12 hAin
  have hPNw : IntKind.i64.wrap (2 ^ N) = (PN : Int) := by rw [← hPN]; exact wrap_pow (by omega)
  have hPNl : PN ≤ 4096 := by rw [← hPN]; exact pow_lt (by omega)
  have hPN1 : 1 ≤ PN := by rw [← hPN]; exact Nat.one_le_two_pow
  have hFl := num_lt F
  rw [hnF] at hFl
  have hAl := num_lt A
  rw [hnA] at hAl
  have q21 : Keep (∀ W v, PairsOf W ve E → IntsO W v (zsOf S) → Calls Try.prog 21 #[.int .i64 N, ve, v] W fun e w' => ∃ (lv : Value) (er : Int), e = .returned (.tuple #[lv, .int .i64 er]) ∧ ((z = true ∧ er = 6) ∨ (z = false ∧ er = 0 ∧ IntsO w' lv (zsOf F))) ∧ Below W.heap.size W w') := ⟨fun W v he hv => by
    have := oFort hG he hSin hv
    rw [hA, hz, hF] at this
    exact this⟩
  have hzA : (z = true → la = N) ∧ (z = false → la < N) := by rw [← hz]; exact hfull
  have hkeep := Keep.mk (And.intro hsum (And.intro hPN1 hFl))
  have hl100 : (zsOf A).length ≤ 100000 := by have := zs_len A; omega
  have hlak := Keep.mk hla
  clear hla hlb hlc hld hka hkb hkc hkd hA hB hC hD hnA hnB hnC hnD hAA hkA hA12 hIf hIs hAf hAs hz hF hnF hPN hfull hle hsum hk0 hST hTin
  have q27 : Keep (∀ W a b, IntsO W a (zsOf A) → IntsO W b (zsOf A) → Calls Try.prog 27 #[a, b] W fun e w' => e = .returned (.bool true) ∧ Below W.heap.size W w') := ⟨fun W a b ha hb => (ints_any ha hb hl100).mono fun e w' ⟨h1, n, h2⟩ => ⟨by rw [h1]; simp, by rw [h2]; exact below_dn W n⟩⟩
  clear hl100 hlak
  obtain ⟨Xn, hXn⟩ : ∃ X : Nat, PN - 1 = X := ⟨_, rfl⟩
  have h11 : IntKind.i64.wrap ((nF : Int) + (nA : Int)) = (Xn : Int) := by
    have := hkeep.out
    rw [show (nF : Int) + (nA : Int) = (Xn : Int) by omega]; exact IntWalk.i64_in _ (by omega)
  have h14 : IntKind.i64.wrap ((PN : Int) - 1) = (Xn : Int) := by
    have := hkeep.out
    rw [show (PN : Int) - 1 = (Xn : Int) by omega]; exact IntWalk.i64_in _ (by omega)
  have hN0 : ¬ (N : Int) < 0 := by omega
  clear hXn hkeep
  cases z with
  | true =>
    have hlN := hzA.1 rfl
    have hlN' : ¬ (la : Int) < (N : Int) := by omega
    clear hlN hzA
    go_wp2_with (first
      | (go_at_call 19; have hp4 := hk3.out.1.1; have hv4 : IntsO _ vs (zsOf S) := hk3.out.1.2 (vs, S) (.tail _ (.head _))
         (with_reducible refine (qcA _ _ _ hp4 hv4).mono ?_); rintro e w4 ⟨XA, cA, rfl, hi4, hb4⟩
         have hk4 := Keep.mk (Fa.step hk3.out hb4 hi4)
         clear hi4 hb4 hv4 hp4 hk3 qcA)
      | (go_at_call 19; have hp5 := hk4.out.1.1; have hv5 : IntsO _ vt (zsOf T) := hk4.out.1.2 (vt, T) (.tail _ (.head _))
         (with_reducible refine (qcB _ _ _ hp5 hv5).mono ?_); rintro e w5 ⟨XB, cB, rfl, hi5, hb5⟩
         have hk5 := Keep.mk (Fa.step hk4.out hb5 hi5)
         clear hi5 hb5 hv5 hp5 hk4 qcB)
      | (go_at_call 30; have hp6 := hk5.out.1.1; have hv6 : IntsO _ vs (zsOf S) := hk5.out.1.2 (vs, S) (.tail _ (.tail _ (.tail _ (.head _))))
         (with_reducible refine (qcC _ _ _ hp6 hv6).mono ?_); rintro e w6 ⟨XC, cC, rfl, hi6, hb6⟩
         have hk6 := Keep.mk (Fa.step hk5.out hb6 hi6)
         clear hi6 hb6 hv6 hp6 hk5 qcC)
      | (go_at_call 30; have hp7 := hk6.out.1.1; have hv7 : IntsO _ vt (zsOf T) := hk6.out.1.2 (vt, T) (.tail _ (.tail _ (.tail _ (.head _))))
         (with_reducible refine (qcD _ _ _ hp7 hv7).mono ?_); rintro e w7 ⟨XD, cD, rfl, hi7, hb7⟩
         have hk7 := Keep.mk (Fa.step hk6.out hb7 hi7)
         clear hi7 hb7 hv7 hp7 hk6 qcD)
      | (go_at_call 52; have hv8 : IntsO _ (.slice XA la cA) (zsOf A) := hk7.out.1.2 ((.slice XA la cA), A) (.tail _ (.tail _ (.tail _ (.head _))))
         (with_reducible refine (oWithin hAin hv8).mono ?_); rintro e w8 ⟨rfl, hb8⟩
         have hk8 := Keep.mk (Fa.step0 hk7.out hb8)
         clear hb8 hv8 hk7)
      | (go_at_call 52; have hv9 : IntsO _ (.slice XB lb cB) (zsOf B) := hk8.out.1.2 ((.slice XB lb cB), B) (.tail _ (.tail _ (.head _)))
         (with_reducible refine (oWithin hBin hv9).mono ?_); rintro e w9 ⟨rfl, hb9⟩
         have hk9 := Keep.mk (Fa.step0 hk8.out hb9)
         clear hb9 hv9 hk8)
      | (go_at_call 52; have hv10 : IntsO _ (.slice XC lc cC) (zsOf C) := hk9.out.1.2 ((.slice XC lc cC), C) (.tail _ (.head _))
         (with_reducible refine (oWithin hCin hv10).mono ?_); rintro e w10 ⟨rfl, hb10⟩
         have hk10 := Keep.mk (Fa.step0 hk9.out hb10)
         clear hb10 hv10 hk9)
      | (go_at_call 52; have hv11 : IntsO _ (.slice XD ld cD) (zsOf D) := hk10.out.1.2 ((.slice XD ld cD), D) (.head _)
         (with_reducible refine (oWithin hDin hv11).mono ?_); rintro e w11 ⟨rfl, hb11⟩
         have hk11 := Keep.mk (Fa.step0 hk10.out hb11)
         clear hb11 hv11 hk10)
      | (go_at_call 26; have hvx : IntsO _ vs (zsOf S) := hk11.out.1.2 (vs, S) (.tail _ (.tail _ (.tail _ (.tail _ (.tail _ (.head _))))))
         (with_reducible refine (hq26S.out _ _ hvx).mono ?_); rintro e wm ⟨rfl, hem⟩; rw [hem]; clear hem wm hvx)
      | (go_at_call 26; have hvx : IntsO _ (.slice XA la cA) (zsOf A) := hk11.out.1.2 ((.slice XA la cA), A) (.tail _ (.tail _ (.tail _ (.head _))))
         (with_reducible refine (q26A.out _ _ hvx).mono ?_); rintro e wm ⟨rfl, hem⟩; rw [hem]; clear hem wm hvx)
      | (go_at_call 26; have hvx : IntsO _ (.slice XB lb cB) (zsOf B) := hk11.out.1.2 ((.slice XB lb cB), B) (.tail _ (.tail _ (.head _)))
         (with_reducible refine (q26B.out _ _ hvx).mono ?_); rintro e wm ⟨rfl, hem⟩; rw [hem]; clear hem wm hvx)
      | (go_at_call 26; have hvx : IntsO _ (.slice XC lc cC) (zsOf C) := hk11.out.1.2 ((.slice XC lc cC), C) (.tail _ (.head _))
         (with_reducible refine (q26C.out _ _ hvx).mono ?_); rintro e wm ⟨rfl, hem⟩; rw [hem]; clear hem wm hvx)
      | (go_at_call 26; have hvx : IntsO _ (.slice XD ld cD) (zsOf D) := hk11.out.1.2 ((.slice XD ld cD), D) (.head _)
         (with_reducible refine (q26D.out _ _ hvx).mono ?_); rintro e wm ⟨rfl, hem⟩; rw [hem]; clear hem wm hvx)
      | (go_at_call 19; have hp12 := hk11.out.1.1; have hv12 : IntsO _ (.slice XA la cA) (zsOf A) := hk11.out.1.2 ((.slice XA la cA), A) (.tail _ (.tail _ (.tail _ (.head _))))
         (with_reducible refine (qcG _ _ _ hp12 hv12).mono ?_); rintro e w12 ⟨XG, cG, rfl, hi12, hb12⟩
         have hk12 := Keep.mk (Fa.step hk11.out hb12 hi12)
         clear hi12 hb12 hv12 hp12 hk11 qcG)
      | (go_at_call 21; have hp13 := hk12.out.1.1; have hv13 : IntsO _ vs (zsOf S) := hk12.out.1.2 (vs, S) (.tail _ (.tail _ (.tail _ (.tail _ (.tail _ (.tail _ (.head _)))))))
         (with_reducible refine (q21.out _ _ hp13 hv13).mono ?_); rintro e w13 ⟨vf, er, rfl, her, hb13⟩
         obtain ⟨rfl, -⟩ : er = 6 ∧ True := by
           rcases her with h | h
           · exact ⟨h.2, trivial⟩
           · cases h.1
         have hk13 := Keep.mk (Fa.step0 hk12.out hb13)
         clear her hb13 hp13 hv13 hk12)
      | (go_at_call 27; have hvg : IntsO _ (.slice XG la cG) (zsOf A) := hk13.out.1.2 ((.slice XG la cG), A) (.head _)
         have hva : IntsO _ (.slice XA la cA) (zsOf A) := hk13.out.1.2 ((.slice XA la cA), A) (.tail _ (.tail _ (.tail _ (.tail _ (.head _)))))
         (with_reducible refine (q27.out _ _ _ hvg hva).mono ?_); rintro e w14 ⟨rfl, hb14⟩
         have hk14 := Keep.mk (Fa.step0 hk13.out hb14)
         clear hb14 hvg hva hk13))
    obtain ⟨BX, hBX⟩ : ∃ BX : World → Prop, BX = fun W => Fa W ve E [((.slice XG la cG), A), ((.slice XD ld cD), D), ((.slice XC lc cC), C), ((.slice XB lb cB), B), ((.slice XA la cA), A), (vt, T), (vs, S)] ∧ Below w.heap.size w W := ⟨_, rfl⟩
    have hCa : ∀ W W', BX W → Below W.heap.size W W' → BX W' := fun W W' h hb => by rw [hBX] at h ⊢; exact Fa.step0 h hb
    have hCg : ∀ W, BX W → Fa W ve E [((.slice XG la cG), A), ((.slice XD ld cD), D), ((.slice XC lc cC), C), ((.slice XB lb cB), B), ((.slice XA la cA), A), (vt, T), (vs, S)] ∧ Below w.heap.size w W := fun W h => by rw [hBX] at h; exact h
    have hB0 : BX w14 := by rw [hBX]; exact hk14.out
    have hca : ∀ W, BX W → IntsO W (.slice XA la cA) (zsOf A) := fun W h => (hCg W h).1.2 ((.slice XA la cA), A) (.tail _ (.tail _ (.tail _ (.tail _ (.head _)))))
    clear hBX hk14
    refine (wpIn_wide (n := 0)).1 ?_
    refine Many.region_many (fun _ W => BX W) hmx (by kernel_rfl) (fun s s' W' h hc => hc) (fun s hs => hCa _ _ hB0 ((Below.refl _ _).drew)) ?_
    refine Many.lex_want (by rfl) (Many.tr_read (v := .int .i64 6) BX (fun s W h => h) (fun s W h => h) (fun W h => by clear h; go_simp; (try rfl); (try (intro hneg; omega)))) ?_
    simp only [Act.put, List.setIfInBounds_toArray, List.set_cons_succ, List.set_cons_zero, Nat.reduceAdd]
    refine Many.lex_want (by rfl) (Many.tr_read (v := .bool true) BX (fun s W h => h) (fun s W h => h) (fun W h => by clear h; go_simp; (try rfl); (try (intro hneg; omega)))) ?_
    simp only [Act.put, List.setIfInBounds_toArray, List.set_cons_succ, List.set_cons_zero, Nat.reduceAdd]
    refine Many.lex_want (by rfl) (Many.tr_read (v := .bool true) BX (fun s W h => h) (fun s W h => h) (fun W h => by clear h; go_simp; (try rfl); (try (intro hneg; omega)))) ?_
    simp only [Act.put, List.setIfInBounds_toArray, List.set_cons_succ, List.set_cons_zero, Nat.reduceAdd]
    refine lex_skip (by rfl) (fun s W h => h) ?_
    simp only [Act.put, List.setIfInBounds_toArray, List.set_cons_succ, List.set_cons_zero, Nat.reduceAdd]
    refine lex_skip (by rfl) (fun s W h => h) ?_
    simp only [Act.put, List.setIfInBounds_toArray, List.set_cons_succ, List.set_cons_zero, Nat.reduceAdd]
    refine lex_skip (by rfl) (fun s W h => h) ?_
    simp only [Act.put, List.setIfInBounds_toArray, List.set_cons_succ, List.set_cons_zero, Nat.reduceAdd]
    refine lex_skip (by rfl) (fun s W h => h) ?_
    simp only [Act.put, List.setIfInBounds_toArray, List.set_cons_succ, List.set_cons_zero, Nat.reduceAdd]
    refine lex_skip (by rfl) (fun s W h => h) ?_
    simp only [Act.put, List.setIfInBounds_toArray, List.set_cons_succ, List.set_cons_zero, Nat.reduceAdd]
    refine lex_skip (by rfl) (fun s W h => h) ?_
    simp only [Act.put, List.setIfInBounds_toArray, List.set_cons_succ, List.set_cons_zero, Nat.reduceAdd]
    refine lex_skip (by rfl) (fun s W h => h) ?_
    simp only [Act.put, List.setIfInBounds_toArray, List.set_cons_succ, List.set_cons_zero, Nat.reduceAdd]
    refine lex_skip (by rfl) (fun s W h => h) ?_
    simp only [Act.put, List.setIfInBounds_toArray, List.set_cons_succ, List.set_cons_zero, Nat.reduceAdd]
    refine lex_skip (by rfl) (fun s W h => h) ?_
    simp only [Act.put, List.setIfInBounds_toArray, List.set_cons_succ, List.set_cons_zero, Nat.reduceAdd]
    refine lex_skip (by rfl) (fun s W h => h) ?_
    simp only [Act.put, List.setIfInBounds_toArray, List.set_cons_succ, List.set_cons_zero, Nat.reduceAdd]
    refine lex_skip (by rfl) (fun s W h => h) ?_
    simp only [Act.put, List.setIfInBounds_toArray, List.set_cons_succ, List.set_cons_zero, Nat.reduceAdd]
    refine lex_skip (by rfl) (fun s W h => h) ?_
    simp only [Act.put, List.setIfInBounds_toArray, List.set_cons_succ, List.set_cons_zero, Nat.reduceAdd]
    refine lex_skip (by rfl) (fun s W h => h) ?_
    simp only [Act.put, List.setIfInBounds_toArray, List.set_cons_succ, List.set_cons_zero, Nat.reduceAdd]
    refine lex_skip (by rfl) (fun s W h => h) ?_
    simp only [Act.put, List.setIfInBounds_toArray, List.set_cons_succ, List.set_cons_zero, Nat.reduceAdd]
    refine Many.lex_want (by rfl) (Many.tr_read (v := .bool true) BX (fun s W h => h) (fun s W h => h) (fun W h => by clear h; go_simp; (try rfl); (try (intro hneg; omega)))) ?_
    simp only [Act.put, List.setIfInBounds_toArray, List.set_cons_succ, List.set_cons_zero, Nat.reduceAdd]
    refine Many.lex_want (by rfl) (Many.tr_read (v := .bool true) BX (fun s W h => h) (fun s W h => h) (fun W h => by clear h; go_simp; (try rfl); (try (intro hneg; omega)))) ?_
    simp only [Act.put, List.setIfInBounds_toArray, List.set_cons_succ, List.set_cons_zero, Nat.reduceAdd]
    refine Many.lex_want (by rfl) (Many.tr_call (v := .bool true) (f := 23) (args := #[]) BX (fun s W h => h) (fun s W h => (awake_w W).mono (fun e W' hw' => ⟨hw'.1, hCa _ _ h hw'.2⟩)) (fun W h => by clear h; go_simp; try rfl)) ?_
    simp only [Act.put, List.setIfInBounds_toArray, List.set_cons_succ, List.set_cons_zero, Nat.reduceAdd]
    refine Many.lex_want (by rfl) (Many.tr_read (v := .bool true) BX (fun s W h => h) (fun s W h => h) (fun W h => by clear h; go_simp; (try rfl); (try (intro hneg; omega)))) ?_
    simp only [Act.put, List.setIfInBounds_toArray, List.set_cons_succ, List.set_cons_zero, Nat.reduceAdd]
    refine Many.lex_want (by rfl) (Many.tr_read (v := .bool true) BX (fun s W h => h) (fun s W h => h) (fun W h => by clear h; go_simp; (try rfl); (try (intro hneg; omega)))) ?_
    simp only [Act.put, List.setIfInBounds_toArray, List.set_cons_succ, List.set_cons_zero, Nat.reduceAdd]
    refine Many.lex_nil fun s9 W4 hs9 hS4 => ?_
    have hb4 := (hCg _ hS4).2
    clear hS4 hB0
    go_wp2
    refine bodyPost_ret (v := .bool true) (by simp [results, Try.results10, go_sem]) rfl ?_
    exact ⟨rfl, hb4⟩
  | false =>
    have hlN := hzA.2 rfl
    have hlN' : (la : Int) < (N : Int) := by omega
    clear hlN hzA
    go_wp2_with (first
      | (go_at_call 19; have hp4 := hk3.out.1.1; have hv4 : IntsO _ vs (zsOf S) := hk3.out.1.2 (vs, S) (.tail _ (.head _))
         (with_reducible refine (qcA _ _ _ hp4 hv4).mono ?_); rintro e w4 ⟨XA, cA, rfl, hi4, hb4⟩
         have hk4 := Keep.mk (Fa.step hk3.out hb4 hi4)
         clear hi4 hb4 hv4 hp4 hk3 qcA)
      | (go_at_call 19; have hp5 := hk4.out.1.1; have hv5 : IntsO _ vt (zsOf T) := hk4.out.1.2 (vt, T) (.tail _ (.head _))
         (with_reducible refine (qcB _ _ _ hp5 hv5).mono ?_); rintro e w5 ⟨XB, cB, rfl, hi5, hb5⟩
         have hk5 := Keep.mk (Fa.step hk4.out hb5 hi5)
         clear hi5 hb5 hv5 hp5 hk4 qcB)
      | (go_at_call 30; have hp6 := hk5.out.1.1; have hv6 : IntsO _ vs (zsOf S) := hk5.out.1.2 (vs, S) (.tail _ (.tail _ (.tail _ (.head _))))
         (with_reducible refine (qcC _ _ _ hp6 hv6).mono ?_); rintro e w6 ⟨XC, cC, rfl, hi6, hb6⟩
         have hk6 := Keep.mk (Fa.step hk5.out hb6 hi6)
         clear hi6 hb6 hv6 hp6 hk5 qcC)
      | (go_at_call 30; have hp7 := hk6.out.1.1; have hv7 : IntsO _ vt (zsOf T) := hk6.out.1.2 (vt, T) (.tail _ (.tail _ (.tail _ (.head _))))
         (with_reducible refine (qcD _ _ _ hp7 hv7).mono ?_); rintro e w7 ⟨XD, cD, rfl, hi7, hb7⟩
         have hk7 := Keep.mk (Fa.step hk6.out hb7 hi7)
         clear hi7 hb7 hv7 hp7 hk6 qcD)
      | (go_at_call 52; have hv8 : IntsO _ (.slice XA la cA) (zsOf A) := hk7.out.1.2 ((.slice XA la cA), A) (.tail _ (.tail _ (.tail _ (.head _))))
         (with_reducible refine (oWithin hAin hv8).mono ?_); rintro e w8 ⟨rfl, hb8⟩
         have hk8 := Keep.mk (Fa.step0 hk7.out hb8)
         clear hb8 hv8 hk7)
      | (go_at_call 52; have hv9 : IntsO _ (.slice XB lb cB) (zsOf B) := hk8.out.1.2 ((.slice XB lb cB), B) (.tail _ (.tail _ (.head _)))
         (with_reducible refine (oWithin hBin hv9).mono ?_); rintro e w9 ⟨rfl, hb9⟩
         have hk9 := Keep.mk (Fa.step0 hk8.out hb9)
         clear hb9 hv9 hk8)
      | (go_at_call 52; have hv10 : IntsO _ (.slice XC lc cC) (zsOf C) := hk9.out.1.2 ((.slice XC lc cC), C) (.tail _ (.head _))
         (with_reducible refine (oWithin hCin hv10).mono ?_); rintro e w10 ⟨rfl, hb10⟩
         have hk10 := Keep.mk (Fa.step0 hk9.out hb10)
         clear hb10 hv10 hk9)
      | (go_at_call 52; have hv11 : IntsO _ (.slice XD ld cD) (zsOf D) := hk10.out.1.2 ((.slice XD ld cD), D) (.head _)
         (with_reducible refine (oWithin hDin hv11).mono ?_); rintro e w11 ⟨rfl, hb11⟩
         have hk11 := Keep.mk (Fa.step0 hk10.out hb11)
         clear hb11 hv11 hk10)
      | (go_at_call 26; have hvx : IntsO _ vs (zsOf S) := hk11.out.1.2 (vs, S) (.tail _ (.tail _ (.tail _ (.tail _ (.tail _ (.head _))))))
         (with_reducible refine (hq26S.out _ _ hvx).mono ?_); rintro e wm ⟨rfl, hem⟩; rw [hem]; clear hem wm hvx)
      | (go_at_call 26; have hvx : IntsO _ (.slice XA la cA) (zsOf A) := hk11.out.1.2 ((.slice XA la cA), A) (.tail _ (.tail _ (.tail _ (.head _))))
         (with_reducible refine (q26A.out _ _ hvx).mono ?_); rintro e wm ⟨rfl, hem⟩; rw [hem]; clear hem wm hvx)
      | (go_at_call 26; have hvx : IntsO _ (.slice XB lb cB) (zsOf B) := hk11.out.1.2 ((.slice XB lb cB), B) (.tail _ (.tail _ (.head _)))
         (with_reducible refine (q26B.out _ _ hvx).mono ?_); rintro e wm ⟨rfl, hem⟩; rw [hem]; clear hem wm hvx)
      | (go_at_call 26; have hvx : IntsO _ (.slice XC lc cC) (zsOf C) := hk11.out.1.2 ((.slice XC lc cC), C) (.tail _ (.head _))
         (with_reducible refine (q26C.out _ _ hvx).mono ?_); rintro e wm ⟨rfl, hem⟩; rw [hem]; clear hem wm hvx)
      | (go_at_call 26; have hvx : IntsO _ (.slice XD ld cD) (zsOf D) := hk11.out.1.2 ((.slice XD ld cD), D) (.head _)
         (with_reducible refine (q26D.out _ _ hvx).mono ?_); rintro e wm ⟨rfl, hem⟩; rw [hem]; clear hem wm hvx)
      | (go_at_call 19; have hp12 := hk11.out.1.1; have hv12 : IntsO _ (.slice XA la cA) (zsOf A) := hk11.out.1.2 ((.slice XA la cA), A) (.tail _ (.tail _ (.tail _ (.head _))))
         (with_reducible refine (qcG _ _ _ hp12 hv12).mono ?_); rintro e w12 ⟨XG, cG, rfl, hi12, hb12⟩
         have hk12 := Keep.mk (Fa.step hk11.out hb12 hi12)
         clear hi12 hb12 hv12 hp12 hk11 qcG)
      | (go_at_call 21; have hp13 := hk12.out.1.1; have hv13 : IntsO _ vs (zsOf S) := hk12.out.1.2 (vs, S) (.tail _ (.tail _ (.tail _ (.tail _ (.tail _ (.tail _ (.head _)))))))
         (with_reducible refine (q21.out _ _ hp13 hv13).mono ?_); rintro e w13 ⟨vf, er, rfl, her, hb13⟩
         obtain ⟨rfl, hi13⟩ : er = 0 ∧ IntsO w13 vf (zsOf F) := by
           rcases her with h | h
           · cases h.1
           · exact h.2
         have hk13 := Keep.mk (Fa.step hk12.out hb13 hi13)
         clear her hb13 hp13 hv13 hk12 hi13)
      | (go_at_call 27; have hvg : IntsO _ (.slice XG la cG) (zsOf A) := hk13.out.1.2 ((.slice XG la cG), A) (.tail _ (.head _))
         have hva : IntsO _ (.slice XA la cA) (zsOf A) := hk13.out.1.2 ((.slice XA la cA), A) (.tail _ (.tail _ (.tail _ (.tail _ (.tail _ (.head _))))))
         (with_reducible refine (q27.out _ _ _ hvg hva).mono ?_); rintro e w14 ⟨rfl, hb14⟩
         have hk14 := Keep.mk (Fa.step0 hk13.out hb14)
         clear hb14 hvg hva hk13))
    obtain ⟨BX, hBX⟩ : ∃ BX : World → Prop, BX = fun W => Fa W ve E [(vf, F), ((.slice XG la cG), A), ((.slice XD ld cD), D), ((.slice XC lc cC), C), ((.slice XB lb cB), B), ((.slice XA la cA), A), (vt, T), (vs, S)] ∧ Below w.heap.size w W := ⟨_, rfl⟩
    have hCa : ∀ W W', BX W → Below W.heap.size W W' → BX W' := fun W W' h hb => by rw [hBX] at h ⊢; exact Fa.step0 h hb
    have hCg : ∀ W, BX W → Fa W ve E [(vf, F), ((.slice XG la cG), A), ((.slice XD ld cD), D), ((.slice XC lc cC), C), ((.slice XB lb cB), B), ((.slice XA la cA), A), (vt, T), (vs, S)] ∧ Below w.heap.size w W := fun W h => by rw [hBX] at h; exact h
    have hB0 : BX w14 := by rw [hBX]; exact hk14.out
    have hca : ∀ W, BX W → IntsO W (.slice XA la cA) (zsOf A) := fun W h => (hCg W h).1.2 ((.slice XA la cA), A) (.tail _ (.tail _ (.tail _ (.tail _ (.tail _ (.head _))))))
    have hcf : ∀ W, BX W → IntsO W vf (zsOf F) := fun W h => (hCg W h).1.2 (vf, F) (.head _)
    clear hBX hk14
    refine (wpIn_wide (n := 0)).1 ?_
    refine Many.region_many (fun _ W => BX W) hmx (by kernel_rfl) (fun s s' W' h hc => hc) (fun s hs => hCa _ _ hB0 ((Below.refl _ _).drew)) ?_
    refine Many.lex_want (by rfl) (Many.tr_read (v := .int .i64 0) BX (fun s W h => h) (fun s W h => h) (fun W h => by clear h; go_simp; (try rfl); (try (intro hneg; omega)))) ?_
    simp only [Act.put, List.setIfInBounds_toArray, List.set_cons_succ, List.set_cons_zero, Nat.reduceAdd]
    refine Many.lex_want (by rfl) (Many.tr_read (v := .bool false) BX (fun s W h => h) (fun s W h => h) (fun W h => by clear h; go_simp; (try rfl); (try (intro hneg; omega)))) ?_
    simp only [Act.put, List.setIfInBounds_toArray, List.set_cons_succ, List.set_cons_zero, Nat.reduceAdd]
    refine Many.lex_want (by rfl) (Many.tr_read (v := .bool false) BX (fun s W h => h) (fun s W h => h) (fun W h => by clear h; go_simp; (try rfl); (try (intro hneg; omega)))) ?_
    simp only [Act.put, List.setIfInBounds_toArray, List.set_cons_succ, List.set_cons_zero, Nat.reduceAdd]
    refine Many.lex_want (by rfl) (Many.tr_read (v := .int .i64 N) BX (fun s W h => h) (fun s W h => h) (fun W h => by clear h; go_simp; (try rfl); (try (intro hneg; omega)))) ?_
    simp only [Act.put, List.setIfInBounds_toArray, List.set_cons_succ, List.set_cons_zero, Nat.reduceAdd]
    refine Many.lex_want (by rfl) (Many.tr_read (v := vf) BX (fun s W h => h) (fun s W h => h) (fun W h => by clear h; go_simp; (try rfl); (try (intro hneg; omega)))) ?_
    simp only [Act.put, List.setIfInBounds_toArray, List.set_cons_succ, List.set_cons_zero, Nat.reduceAdd]
    refine Many.lex_want (by rfl) (Many.tr_call (v := .bool true) (f := 52) (args := #[.int .i64 N, vf]) BX (fun s W h => h) (fun s W h => (oWithin hFin (hcf W h)).mono (fun e W' hw' => ⟨hw'.1, hCa _ _ h hw'.2⟩)) (fun W h => by clear h; go_simp; try rfl)) ?_
    simp only [Act.put, List.setIfInBounds_toArray, List.set_cons_succ, List.set_cons_zero, Nat.reduceAdd]
    refine Many.lex_want (by rfl) (Many.tr_read (v := .bool true) BX (fun s W h => h) (fun s W h => h) (fun W h => by clear h; go_simp; (try rfl); (try (intro hneg; omega)))) ?_
    simp only [Act.put, List.setIfInBounds_toArray, List.set_cons_succ, List.set_cons_zero, Nat.reduceAdd]
    refine Many.lex_want (by rfl) (Many.tr_read (v := vf) BX (fun s W h => h) (fun s W h => h) (fun W h => by clear h; go_simp; (try rfl); (try (intro hneg; omega)))) ?_
    simp only [Act.put, List.setIfInBounds_toArray, List.set_cons_succ, List.set_cons_zero, Nat.reduceAdd]
    refine Many.lex_want (by rfl) (Many.tr_call (v := .int .i64 nF) (f := 26) (args := #[vf]) BX (fun s W h => h) (fun s W h => (q26F.out W vf (hcf W h)).mono (fun e W' hw' => ⟨hw'.1, by rw [hw'.2]; exact h⟩)) (fun W h => by clear h; go_simp; try rfl)) ?_
    simp only [Act.put, List.setIfInBounds_toArray, List.set_cons_succ, List.set_cons_zero, Nat.reduceAdd]
    refine Many.lex_want (by rfl) (Many.tr_read (v := (.slice XA la cA)) BX (fun s W h => h) (fun s W h => h) (fun W h => by clear h; go_simp; (try rfl); (try (intro hneg; omega)))) ?_
    simp only [Act.put, List.setIfInBounds_toArray, List.set_cons_succ, List.set_cons_zero, Nat.reduceAdd]
    refine Many.lex_want (by rfl) (Many.tr_call (v := .int .i64 nA) (f := 26) (args := #[(.slice XA la cA)]) BX (fun s W h => h) (fun s W h => (q26A.out W _ (hca W h)).mono (fun e W' hw' => ⟨hw'.1, by rw [hw'.2]; exact h⟩)) (fun W h => by clear h; go_simp; try rfl)) ?_
    simp only [Act.put, List.setIfInBounds_toArray, List.set_cons_succ, List.set_cons_zero, Nat.reduceAdd]
    refine Many.lex_want (by rfl) (Many.tr_read (v := .int .i64 Xn) BX (fun s W h => h) (fun s W h => h) (fun W h => by clear h; go_simp; (try rfl); (try (intro hneg; omega)))) ?_
    simp only [Act.put, List.setIfInBounds_toArray, List.set_cons_succ, List.set_cons_zero, Nat.reduceAdd]
    refine Many.lex_want (by rfl) (Many.tr_read (v := .int .i64 N) BX (fun s W h => h) (fun s W h => h) (fun W h => by clear h; go_simp; (try rfl); (try (intro hneg; omega)))) ?_
    simp only [Act.put, List.setIfInBounds_toArray, List.set_cons_succ, List.set_cons_zero, Nat.reduceAdd]
    refine Many.lex_want (by rfl) (Many.tr_read (v := .int .i64 PN) BX (fun s W h => h) (fun s W h => h) (fun W h => by clear h; go_simp; (try rfl); (try (intro hneg; omega)))) ?_
    simp only [Act.put, List.setIfInBounds_toArray, List.set_cons_succ, List.set_cons_zero, Nat.reduceAdd]
    refine Many.lex_want (by rfl) (Many.tr_read (v := .int .i64 Xn) BX (fun s W h => h) (fun s W h => h) (fun W h => by clear h; go_simp; (try rfl); (try (intro hneg; omega)))) ?_
    simp only [Act.put, List.setIfInBounds_toArray, List.set_cons_succ, List.set_cons_zero, Nat.reduceAdd]
    refine Many.lex_want (by rfl) (Many.tr_read (v := .bool true) BX (fun s W h => h) (fun s W h => h) (fun W h => by clear h; go_simp; (try rfl); (try (intro hneg; omega)))) ?_
    simp only [Act.put, List.setIfInBounds_toArray, List.set_cons_succ, List.set_cons_zero, Nat.reduceAdd]
    refine Many.lex_want (by rfl) (Many.tr_read (v := .bool true) BX (fun s W h => h) (fun s W h => h) (fun W h => by clear h; go_simp; (try rfl); (try (intro hneg; omega)))) ?_
    simp only [Act.put, List.setIfInBounds_toArray, List.set_cons_succ, List.set_cons_zero, Nat.reduceAdd]
    refine Many.lex_want (by rfl) (Many.tr_read (v := .bool true) BX (fun s W h => h) (fun s W h => h) (fun W h => by clear h; go_simp; (try rfl); (try (intro hneg; omega)))) ?_
    simp only [Act.put, List.setIfInBounds_toArray, List.set_cons_succ, List.set_cons_zero, Nat.reduceAdd]
    refine Many.lex_want (by rfl) (Many.tr_read (v := .bool true) BX (fun s W h => h) (fun s W h => h) (fun W h => by clear h; go_simp; (try rfl); (try (intro hneg; omega)))) ?_
    simp only [Act.put, List.setIfInBounds_toArray, List.set_cons_succ, List.set_cons_zero, Nat.reduceAdd]
    refine Many.lex_want (by rfl) (Many.tr_call (v := .bool true) (f := 23) (args := #[]) BX (fun s W h => h) (fun s W h => (awake_w W).mono (fun e W' hw' => ⟨hw'.1, hCa _ _ h hw'.2⟩)) (fun W h => by clear h; go_simp; try rfl)) ?_
    simp only [Act.put, List.setIfInBounds_toArray, List.set_cons_succ, List.set_cons_zero, Nat.reduceAdd]
    refine Many.lex_want (by rfl) (Many.tr_read (v := .bool true) BX (fun s W h => h) (fun s W h => h) (fun W h => by clear h; go_simp; (try rfl); (try (intro hneg; omega)))) ?_
    simp only [Act.put, List.setIfInBounds_toArray, List.set_cons_succ, List.set_cons_zero, Nat.reduceAdd]
    refine Many.lex_want (by rfl) (Many.tr_read (v := .bool true) BX (fun s W h => h) (fun s W h => h) (fun W h => by clear h; go_simp; (try rfl); (try (intro hneg; omega)))) ?_
    simp only [Act.put, List.setIfInBounds_toArray, List.set_cons_succ, List.set_cons_zero, Nat.reduceAdd]
    refine Many.lex_nil fun s9 W4 hs9 hS4 => ?_
    have hb4 := (hCg _ hS4).2
    clear hS4 hB0
    go_wp2
    refine bodyPost_ret (v := .bool true) (by simp [results, Try.results10, go_sem]) rfl ?_
    exact ⟨rfl, hb4⟩
end Go.Proofs.Yteekigpdiklppaa
