import Derived.Test.YteekigpdiklppaaWBef
set_option linter.unusedSimpArgs false
set_option linter.unusedVariables false
namespace Go.Proofs.Yteekigpdiklppaa
open Go Go.Proofs Go.RowKit Go.Seq
attribute [local go_sem] Oper.semAt_some
theorem min_ok {N : Nat} (hN : N ≤ 12) {isW : (Nat → Bool) → Bool} (cg : ∀ s t, Eqv s t → isW s = isW t) (ne : ∀ s, isW s = true → 1 ≤ sz s) (all : isW (allS N) = true) : InN N (leastOf N isW) ∧ isW (leastOf N isW) = true ∧ ∀ S, InN N S → isW S = true → NotBefore S (leastOf N isW) := by
  have key : ∀ S, InN N S → isW S = true → ∃ l, (setsTo N N).find? isW = some l ∧ NotBefore S l := fun S hS hf => by
    have h1 := ne S hf
    have hle := sz_in hN hS
    obtain ⟨s', hs, he⟩ := lev_full hN hS (m := sz S - 1 + 1) (by omega)
    obtain ⟨rest, hr⟩ := setsTo_rest N (k := sz S - 1) (M := N) (by omega)
    have hf' : isW s' = true := by rw [cg _ _ he]; exact hf
    rw [hr, List.find?_append]
    cases hx : (setsTo N (sz S - 1)).find? isW with
    | some l =>
      refine ⟨l, rfl, .inl ?_⟩
      have := setsTo_sz hN (List.mem_of_find?_eq_some hx); omega
    | none =>
      rw [List.find?_append]
      have hpw := fillL_lex hN (sz S - 1 + 1) (fun _ => false) 0 none_hi
      have hlev := fun x (h : x ∈ fillL N (sz S - 1 + 1) (fun _ => false) 0) => lev_in hN h
      generalize fillL N (sz S - 1 + 1) (fun _ => false) 0 = lv at hs hpw hlev
      cases hy : lv.find? isW with
      | none => exact absurd hf' (List.find?_eq_none.1 hy s' hs)
      | some l =>
        refine ⟨l, rfl, .inr ?_⟩
        have hz := (hlev l (List.mem_of_find?_eq_some hy)).1
        refine ⟨by omega, ?_⟩
        obtain ⟨_, pre, post, hlv, hpre⟩ := List.find?_eq_some_iff_append.1 hy
        rw [hlv] at hs hpw
        rcases List.mem_append.1 hs with hs | hs
        · have := hpre s' hs; simp [hf'] at this
        · rcases List.mem_cons.1 hs with rfl | hs
          · exact .inr he
          · rw [List.pairwise_append, List.pairwise_cons] at hpw
            obtain ⟨u, g1, g2, g3, g4⟩ := hpw.2.1.1 s' hs
            refine .inl ⟨u, g1, g2, by rw [← he u g1]; exact g3, fun j hj => by rw [← he j (by omega)]; exact g4 j hj⟩
  obtain ⟨l, hl, _⟩ := key (allS N) (fun j h1 h2 => by simp [allS]; omega) (all)
  have he : leastOf N isW = l := by unfold leastOf; rw [hl]; rfl
  rw [he]
  refine ⟨setsTo_in (List.mem_of_find?_eq_some hl), List.find?_some hl, fun S hS hf => ?_⟩
  obtain ⟨l2, h1, h2⟩ := key S hS hf
  rw [hl] at h1
  cases h1
  exact h2
theorem lex_tri (s t : Nat → Bool) : Lex s t ∨ Lex t s ∨ Eqv s t := by
  by_cases h : ∃ j, j < 12 ∧ s j ≠ t j
  · obtain ⟨j, hj⟩ := h
    obtain ⟨u, ⟨h1, h2⟩, h3⟩ := least_of (P := fun j => j < 12 ∧ s j ≠ t j) j hj
    have he : ∀ i, i < u → s i = t i := fun i hi => by
      have := h3 i hi
      by_cases e : s i = t i
      · exact e
      · exact absurd ⟨by omega, e⟩ this
    cases hs : s u with
    | true =>
      cases ht : t u with
      | true => exact absurd (hs.trans ht.symm) h2
      | false => exact .inl ⟨u, h1, hs, ht, he⟩
    | false =>
      cases ht : t u with
      | true => exact .inr (.inl ⟨u, h1, ht, hs, fun i hi => (he i hi).symm⟩)
      | false => exact absurd (hs.trans ht.symm) h2
  · refine .inr (.inr fun j hj => ?_)
    by_cases e : s j = t j
    · exact e
    · exact absurd ⟨j, hj, e⟩ h
theorem bef_tri (s t : Nat → Bool) : IsBefore s t ∨ NotBefore s t := by
  unfold IsBefore NotBefore
  rcases Nat.lt_trichotomy (sz s) (sz t) with h | h | h
  · exact .inl (.inl h)
  · rcases lex_tri s t with h' | h' | h'
    · exact .inl (.inr ⟨h.symm, h'⟩)
    · exact .inr (.inr ⟨h.symm, .inl h'⟩)
    · exact .inr (.inr ⟨h.symm, .inr fun j hj => (h' j hj).symm⟩)
  · exact .inr (.inl h)
theorem eqv_symm {s t : Nat → Bool} (h : Eqv s t) : Eqv t s := fun j hj => (h j hj).symm
theorem eqv_trans {s t u : Nat → Bool} (h : Eqv s t) (h' : Eqv t u) : Eqv s u := fun j hj => (h j hj).trans (h' j hj)
theorem bef_nb {s t : Nat → Bool} (h : IsBefore s t) : NotBefore t s := by
  rcases h with h | ⟨h, h'⟩
  · exact .inl h
  · exact .inr ⟨h.symm, .inl h'⟩
theorem bef_not {s t : Nat → Bool} (h : IsBefore s t) (h' : NotBefore s t) : False := by
  rcases h with h | ⟨h, g⟩ <;> rcases h' with h' | ⟨h', g'⟩
  · omega
  · omega
  · omega
  · exact lex_asymm g g'
theorem lex_eqv_l {s s' t : Nat → Bool} (h : Lex s t) (e : Eqv s s') : Lex s' t := by
  obtain ⟨u, h1, h2, h3, h4⟩ := h
  exact ⟨u, h1, by rw [← e u h1]; exact h2, h3, fun j hj => by rw [← e j (by omega)]; exact h4 j hj⟩
theorem lex_eqv_r {s t t' : Nat → Bool} (h : Lex s t) (e : Eqv t t') : Lex s t' := by
  obtain ⟨u, h1, h2, h3, h4⟩ := h
  exact ⟨u, h1, h2, by rw [← e u h1]; exact h3, fun j hj => by rw [← e j (by omega)]; exact h4 j hj⟩
theorem lex_trans {a b c : Nat → Bool} (h : Lex a b) (h' : Lex b c) : Lex a c := by
  obtain ⟨u, u1, u2, u3, u4⟩ := h
  obtain ⟨v, v1, v2, v3, v4⟩ := h'
  rcases Nat.lt_trichotomy u v with e | e | e
  · exact ⟨u, u1, u2, by rw [← v4 u e]; exact u3, fun j hj => (u4 j hj).trans (v4 j (by omega))⟩
  · subst e; rw [u3] at v2; cases v2
  · exact ⟨v, v1, by rw [u4 v e]; exact v2, v3, fun j hj => (u4 j (by omega)).trans (v4 j hj)⟩
theorem nb_trans {a b c : Nat → Bool} (h : NotBefore a b) (h' : NotBefore b c) : NotBefore a c := by
  rcases h with h | ⟨h, g⟩ <;> rcases h' with h' | ⟨h', g'⟩
  · exact .inl (by omega)
  · exact .inl (by omega)
  · exact .inl (by omega)
  · refine .inr ⟨by omega, ?_⟩
    rcases g with g | g <;> rcases g' with g' | g'
    · exact .inl (lex_trans g' g)
    · exact .inl (lex_eqv_l g (eqv_symm g'))
    · exact .inl (lex_eqv_r g' g)
    · exact .inr (eqv_trans g' g)
theorem nb_antisymm {s t : Nat → Bool} (h : NotBefore s t) (h' : NotBefore t s) : Eqv s t := by
  rcases h with h | ⟨h, g⟩ <;> rcases h' with h' | ⟨h', g'⟩
  · omega
  · omega
  · omega
  · rcases g with g | g
    · exact absurd (lex_asymm g g') id
    · exact eqv_symm g
theorem nb_eqv {s t : Nat → Bool} (h : Eqv s t) : NotBefore s t := .inr ⟨(sz_cg h).symm, .inr (eqv_symm h)⟩
theorem setN_in {N m : Nat} (hm : m < 2 ^ N) : InN N (setN m) := fun j h1 _ => Nat.testBit_lt_two_pow (Nat.lt_of_lt_of_le hm (Nat.pow_le_pow_right (by omega) h1))
theorem setN_num {s : Nat → Bool} : Eqv (setN (num s)) s := fun j hj => by
  show (num s).testBit j = s j
  rw [num_bit]; simp [hj]
theorem num_lt2 {N : Nat} (hN : N ≤ 12) {s : Nat → Bool} (h : InN N s) : num s < 2 ^ N := by
  refine Nat.lt_pow_two_of_testBit _ fun p hp => ?_
  rw [num_bit]
  by_cases e : p < 12
  · rw [h p hp e]; simp
  · simp [e]
/-- The best one so far. -/
structure Lbi (N : Nat) (isW : (Nat → Bool) → Bool) (k : Nat) (b : Nat → Bool) : Prop where
  bin : InN N b
  w : isW b = true
  le : ∀ m, m < k → isW (setN m) = true → NotBefore (setN m) b
theorem Lbi.start {N : Nat} {isW : (Nat → Bool) → Bool} (all : isW (allS N) = true) : Lbi N isW 0 (allS N) := ⟨fun j h1 h2 => by simp [allS]; omega, all, fun m hm => by omega⟩
theorem Lbi.keep {N k : Nat} {isW : (Nat → Bool) → Bool} {b : Nat → Bool} (h : Lbi N isW k b) (hn : isW (setN k) = true → NotBefore (setN k) b) : Lbi N isW (k + 1) b := ⟨h.bin, h.w, fun m hm hw => by
  by_cases e : m = k
  · subst e; exact hn hw
  · exact h.le m (by omega) hw⟩
theorem Lbi.next {N k : Nat} {isW : (Nat → Bool) → Bool} {b : Nat → Bool} (h : Lbi N isW k b) (hk : k < 2 ^ N) (hb : IsBefore (setN k) b) (hw : isW (setN k) = true) : Lbi N isW (k + 1) (setN k) := ⟨setN_in hk, hw, fun m hm hw' => by
  by_cases e : m = k
  · subst e; exact nb_eqv fun _ _ => rfl
  · exact nb_trans (h.le m (by omega) hw') (bef_nb hb)⟩
theorem Lbi.done {N : Nat} (hN : N ≤ 12) {isW : (Nat → Bool) → Bool} (cg : ∀ s t, Eqv s t → isW s = isW t) (ne : ∀ s, isW s = true → 1 ≤ sz s) (all : isW (allS N) = true) {b : Nat → Bool} (h : Lbi N isW (2 ^ N) b) : num b = num (leastOf N isW) := by
  obtain ⟨h1, h2, h3⟩ := min_ok hN cg ne all
  refine num_ext (nb_antisymm (h3 b h.bin h.w) ?_)
  have := h.le (num (leastOf N isW)) (num_lt2 hN h1) (by rw [cg _ _ setN_num]; exact h2)
  exact nb_trans (nb_eqv (eqv_symm setN_num)) this
set_option maxRecDepth 100000 in
theorem forcing_any {N n G : Nat} {E : Pts} {s : Nat → Bool} {w : World} (hG : GOk N E) (hs : InN N s) (hn : num s = n) (hg : NumsAt w G N 3 (nearOf E)) :
    Calls Try.prog 72 #[.slice (some ⟨G, 0, none⟩) N N, .int .i64 (n : Nat)] w fun e w' => e = .returned (.bool (forcing N E s)) ∧ Below w.heap.size w w' := by
  have q25 := refClose_any hG hs hn hg
  have q29 := fun p cap w => refAll_any hG.n12 p cap w
  unfold forcing
  obtain ⟨C, hC⟩ : ∃ C, clo (fround (adjOf E)) s = C := ⟨_, rfl⟩
  rw [hC] at q25 ⊢
  obtain ⟨nC, hnC⟩ : ∃ nC, num C = nC := ⟨_, rfl⟩
  rw [hnC] at q25
  obtain ⟨nA, hnA⟩ : ∃ nA, num (allS N) = nA := ⟨_, rfl⟩
  rw [hnA] at q29
  have hz : ((nC : Int) == (nA : Int)) = eqb C (allS N) := by
    rw [Bool.eq_iff_iff, beq_iff_eq, eqb_iff, ← hnC, ← hnA]
    constructor
    · intro h; exact num_inj (by omega)
    · intro h; rw [num_ext h]
  obtain ⟨z, hze⟩ : ∃ z, eqb C (allS N) = z := ⟨_, rfl⟩
  rw [hze] at hz ⊢
  clear hC hnC hnA hze
  go_enter Try.func72, Try.ntmps72
  go_wp2_with (first
    | (go_at_call 25; (with_reducible refine q25.mono ?_); rintro e w5 ⟨R, rfl, hR, hRl, hb5⟩
       have hbk := Keep.mk hb5
       clear hR hRl hb5)
    | (go_at_call 29; (with_reducible refine (q29 _ _ _).mono ?_); rintro e wm ⟨rfl, hem⟩; rw [hem]; clear hem wm))
  refine bodyPost_ret (v := .bool z) (by simp [results, Try.results72, go_sem]) rfl ?_
  exact ⟨rfl, hbk.out⟩
set_option maxHeartbeats 4000000 in
set_option maxRecDepth 100000 in
theorem refLeast_any {N G : Nat} {E : Pts} {w : World} (hG : GOk N E) (hg : NumsAt w G N 3 (nearOf E)) :
    Calls Try.prog 38 #[.slice (some ⟨G, 0, none⟩) N N] w fun e w' => e = .returned (.int .i64 (num (leastOf N (forcing N E)) : Nat)) ∧ Below w.heap.size w w' := by
  have hN := hG.n12
  have q29 := fun p cap w => refAll_any hN p cap w
  have qW := Keep.mk (fun (s : Nat → Bool) (n : Nat) (W : World) (hs : InN N s) (hn : num s = n) (hg : NumsAt W G N 3 (nearOf E)) => forcing_any hG hs hn hg)
  have hdone := fun b (h : Lbi N (forcing N E) (2 ^ N) b) => Lbi.done hN (fun s t e => forcing_cg e) (fun s h => forcing_ne hG h) (forcing_all hG) h
  have hst := Lbi.start (N := N) (isW := (forcing N E)) (forcing_all hG)
  obtain ⟨P, hP⟩ : ∃ P : Nat, 2 ^ N = P := ⟨_, rfl⟩
  have wP : IntKind.i64.wrap (2 ^ N) = (P : Int) := by rw [← hP]; exact wrap_pow (by omega)
  have lP : P ≤ 4096 := by rw [← hP]; exact pow_lt (by omega)
  obtain ⟨isW, hisW⟩ : ∃ isW, (forcing N E) = isW := ⟨_, rfl⟩
  rw [hisW] at hst hdone ⊢
  have hWa : ∀ s, (forcing N E) s = isW s := fun s => by rw [← hisW]
  have hPk := Keep.mk hP
  rw [hP] at hdone
  obtain ⟨nA, hnA⟩ : ∃ nA, num (allS N) = nA := ⟨_, rfl⟩
  rw [hnA] at q29
  have hst0 := Keep.mk (And.intro hst hnA)
  have hg0 := Keep.mk (And.intro hg (Below.refl w.heap.size w))
  have hN0 : ¬ (N : Int) < 0 := by omega
  have hGk := Keep.mk hG
  clear hst hnA hisW hg hP hG
  go_enter Try.func38, Try.ntmps38
  go_wp2_with (first
    | (go_at_call 29; (with_reducible refine (q29 _ _ _).mono ?_); rintro e wm ⟨rfl, hem⟩; rw [hem]; clear hem wm))
  go_loopw [4, 3] (fun i bv wr => ∃ k : Nat, k ≤ P ∧ i = .int .i64 k ∧ ∃ b nb, bv = .int .i64 (nb : Nat) ∧ Keep (num b = nb) ∧ Keep (Lbi N isW k b) ∧ Keep (NumsAt wr G N 3 (nearOf E) ∧ Below w.heap.size w wr)) (fun i _ _ => P - (intOf i).toNat)
  case atStart => exact ⟨0, by omega, rfl, allS N, nA, rfl, ⟨hst0.out.2⟩, ⟨hst0.out.1⟩, hg0⟩
  case round =>
    obtain ⟨k, hk, rfl, b, nb, rfl, hnb, hL, hI⟩ := hrel
    have hw1 : IntKind.i64.wrap ((k : Int) + 1) = (k : Int) + 1 := IntWalk.i64_in _ (by omega)
    by_cases hlt : k < P
    · have hlt' : (k : Int) < (P : Int) := by omega
      have hkp : k < 2 ^ N := by rw [hPk.out]; exact hlt
      have hnk : num (setN k) = k := num_setN (by omega)
      rcases bef_tri (setN k) b with hb | hb
      · have q56 := fun (W : World) => before_yes (w := W) hnk hnb.out hb
        have qw := fun (W : World) (hg : NumsAt W G N 3 (nearOf E)) => qW.out (setN k) k W (setN_in hkp) hnk hg
        rw [hWa] at qw
        cases hw : isW (setN k) with
        | true =>
          rw [hw] at qw
          have hL2 := Keep.mk (hL.out.next hkp hb hw)
          have hnkk := Keep.mk hnk
          clear hw hb hkp hnk hL
          go_wp2_with (first
            | (go_at_call 56; (with_reducible refine (q56 _).mono ?_); rintro e w5 ⟨rfl, hb5⟩
               have hI5 : Keep (NumsAt w5 G N 3 (nearOf E) ∧ Below w.heap.size w w5) := ⟨hI.out.1.below hb5 hI.out.1.lt, hI.out.2.trans (hb5.mono hI.out.2.size)⟩
               clear hb5 hI q56)
            | (go_at_call 72; have hg5 := hI5.out.1; (with_reducible refine (qw _ hg5).mono ?_); rintro e w6 ⟨rfl, hb6⟩
               have hI6 : Keep (NumsAt w6 G N 3 (nearOf E) ∧ Below w.heap.size w w6) := ⟨hI5.out.1.below hb6 hI5.out.1.lt, hI5.out.2.trans (hb6.mono hI5.out.2.size)⟩
               clear hb6 hI5 hg5 qw))
          exact ⟨⟨k + 1, by omega, by go_num, setN k, k, rfl, hnkk, hL2, hI6⟩, by simp [intOf]; omega⟩
        | false =>
          rw [hw] at qw
          have hL2 := Keep.mk (hL.out.keep (fun h => by rw [hw] at h; cases h))
          clear hw hb hkp hnk hL
          go_wp2_with (first
            | (go_at_call 56; (with_reducible refine (q56 _).mono ?_); rintro e w5 ⟨rfl, hb5⟩
               have hI5 : Keep (NumsAt w5 G N 3 (nearOf E) ∧ Below w.heap.size w w5) := ⟨hI.out.1.below hb5 hI.out.1.lt, hI.out.2.trans (hb5.mono hI.out.2.size)⟩
               clear hb5 hI q56)
            | (go_at_call 72; have hg5 := hI5.out.1; (with_reducible refine (qw _ hg5).mono ?_); rintro e w6 ⟨rfl, hb6⟩
               have hI6 : Keep (NumsAt w6 G N 3 (nearOf E) ∧ Below w.heap.size w w6) := ⟨hI5.out.1.below hb6 hI5.out.1.lt, hI5.out.2.trans (hb6.mono hI5.out.2.size)⟩
               clear hb6 hI5 hg5 qw))
          exact ⟨⟨k + 1, by omega, by go_num, b, nb, rfl, hnb, hL2, hI6⟩, by simp [intOf]; omega⟩
      · have q56 := fun (W : World) => before_no (w := W) hnk hnb.out hb
        have hL2 := Keep.mk (hL.out.keep (fun _ => hb))
        clear hb hkp hnk hL
        go_wp2_with (first
          | (go_at_call 56; (with_reducible refine (q56 _).mono ?_); rintro e w5 ⟨rfl, hb5⟩
             have hI5 : Keep (NumsAt w5 G N 3 (nearOf E) ∧ Below w.heap.size w w5) := ⟨hI.out.1.below hb5 hI.out.1.lt, hI.out.2.trans (hb5.mono hI.out.2.size)⟩
             clear hb5 hI q56))
        exact ⟨⟨k + 1, by omega, by go_num, b, nb, rfl, hnb, hL2, hI5⟩, by simp [intOf]; omega⟩
    · obtain rfl : k = P := by omega
      have hlt' : ¬ (k : Int) < (k : Int) := by omega
      have hfin := Keep.mk (hdone b hL.out)
      go_wp2
      refine bodyPost_ret (v := .int .i64 (nb : Nat)) (by simp [results, Try.results38, go_sem]) rfl ?_
      exact ⟨by rw [← hfin.out, hnb.out], hI.out.2⟩
end Go.Proofs.Yteekigpdiklppaa
