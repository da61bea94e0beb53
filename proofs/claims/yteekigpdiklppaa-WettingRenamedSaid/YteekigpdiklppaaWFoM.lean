import Derived.Test.YteekigpdiklppaaWLea
set_option linter.unusedSimpArgs false
set_option linter.unusedVariables false
namespace Go.Proofs.Yteekigpdiklppaa
open Go Go.Proofs Go.RowKit Go.Seq
/-! The least forts, as the reference finds them. -/
theorem sorted_same {R : Nat → Nat → Prop} (hi : ∀ a, ¬ R a a) (ha : ∀ a b, R a b → ¬ R b a) : ∀ (l m : List Nat), l.Pairwise R → m.Pairwise R → (∀ x, x ∈ l ↔ x ∈ m) → l = m
  | [], [], _, _, _ => rfl
  | [], b :: m, _, _, h => absurd ((h b).2 (List.mem_cons_self)) (by simp)
  | a :: l, [], _, _, h => absurd ((h a).1 (List.mem_cons_self)) (by simp)
  | a :: l, b :: m, hl, hm, h => by
    rw [List.pairwise_cons] at hl hm
    have hab : a = b := by
      rcases List.mem_cons.1 ((h a).1 List.mem_cons_self) with e | e
      · exact e
      · rcases List.mem_cons.1 ((h b).2 List.mem_cons_self) with e' | e'
        · exact e'.symm
        · exact absurd (hl.1 b e') (ha _ _ (hm.1 a e))
    subst hab
    refine congrArg (a :: ·) (sorted_same hi ha l m hl.2 hm.2 fun x => ?_)
    constructor
    · intro hx
      rcases List.mem_cons.1 ((h x).1 (List.mem_cons_of_mem _ hx)) with e | e
      · subst e; exact absurd (hl.1 x hx) (hi x)
      · exact e
    · intro hx
      rcases List.mem_cons.1 ((h x).2 (List.mem_cons_of_mem _ hx)) with e | e
      · subst e; exact absurd (hm.1 x hx) (hi x)
      · exact e
def BefN (a b : Nat) : Prop := IsBefore (setN a) (setN b)
theorem befN_irr (a : Nat) : ¬ BefN a a := fun h => bef_not h (nb_eqv fun _ _ => rfl)
theorem befN_asym (a b : Nat) (h : BefN a b) : ¬ BefN b a := fun h' => bef_not h (bef_nb h')
theorem bef_of_not {s t : Nat → Bool} (h : ¬ NotBefore s t) : IsBefore s t := (bef_tri s t).resolve_right h
theorem nb_of_not {s t : Nat → Bool} (h : ¬ IsBefore s t) : NotBefore s t := (bef_tri s t).resolve_left h
theorem bef_trans {a b c : Nat → Bool} (h : IsBefore a b) (h' : IsBefore b c) : IsBefore a c := by
  refine bef_of_not fun hn => bef_not h ?_
  exact nb_trans hn (bef_nb h')
theorem bef_eqv {s s' t t' : Nat → Bool} (h : IsBefore s t) (e1 : Eqv s s') (e2 : Eqv t t') : IsBefore s' t' := by
  refine bef_of_not fun hn => bef_not h ?_
  exact nb_trans (nb_trans (nb_eqv e1) hn) (nb_eqv (eqv_symm e2))
theorem setsTo_bef {n : Nat} (hn : n ≤ 12) : ∀ k, (setsTo n k).Pairwise IsBefore
  | 0 => by simp [setsTo]
  | k + 1 => by
    rw [setsTo_succ, List.pairwise_append]
    have hlex := fillL_lex hn (k + 1) (fun _ => false) 0 none_hi
    have hlev := fun x (h : x ∈ fillL n (k + 1) (fun _ => false) 0) => lev_in hn h
    refine ⟨setsTo_bef hn k, ?_, fun a ha b hb => .inl ?_⟩
    · generalize fillL n (k + 1) (fun _ => false) 0 = lv at hlex hlev
      refine hlex.imp_of_mem fun {a b} ha hb h => .inr ⟨?_, h⟩
      rw [(hlev a ha).1, (hlev b hb).1]
    · have h1 := setsTo_sz hn ha
      have h2 := (hlev b hb).1
      omega
theorem stF_sub (n : Nat) (adj : Nat → Nat → Bool) : ∀ (pre : List (Nat → Bool)) (st : Hst) (l : List (Nat → Bool)), st.2.Sublist l → (pre.foldl (stepF n adj) st).2.Sublist (l ++ pre)
  | [], st, l, h => by simpa using h
  | s :: pre, st, l, h => by
    rw [List.foldl_cons, show l ++ s :: pre = (l ++ [s]) ++ pre by simp]
    refine stF_sub n adj pre _ _ ?_
    unfold stepF
    split
    · exact h.trans (List.sublist_append_left l [s])
    · split
      · exact h.append (List.Sublist.refl _)
      · exact h.trans (List.sublist_append_left l [s])
theorem forts_bef {n : Nat} (hn : n ≤ 12) (adj : Nat → Nat → Bool) : (fortsOf n adj).Pairwise IsBefore := by
  have h := stF_sub n adj (setsTo n n) (fun _ => false, []) [] (List.Sublist.refl _)
  rw [List.nil_append] at h
  exact (setsTo_bef hn n).sublist h
/-- A fort with no smaller one inside. -/
def MinF (n : Nat) (adj : Nat → Nat → Bool) (s : Nat → Bool) : Prop := isF n adj s = true ∧ ∀ t, InN n t → isF n adj t = true → Sub t s → Eqv t s
theorem minF_cg {n : Nat} {adj : Nat → Nat → Bool} {s t : Nat → Bool} (h : Eqv s t) (hm : MinF n adj s) : MinF n adj t := ⟨by rw [← isF_cg h]; exact hm.1, fun u hu hf hs => eqv_trans (hm.2 u hu hf fun j hj hx => by rw [h j hj]; exact hs j hj hx) h⟩
theorem sub_num {a b : Nat → Bool} (h : Sub a b) : num a ≤ num b := by
  have h1 : num a &&& num b = num a := by
    rw [num_and2]
    exact num_ext fun j hj => by
      cases e : a j with
      | false => rfl
      | true => rw [h j hj e]; rfl
  rw [← h1]; exact Nat.and_le_right
theorem eqv_num {a b : Nat → Bool} : Eqv a b ↔ num a = num b := ⟨num_ext, num_inj⟩
theorem forts_min {n : Nat} (hn : n ≤ 12) {adj : Nat → Nat → Bool} {s : Nat → Bool} (h : s ∈ fortsOf n adj) : MinF n adj s := by
  obtain ⟨h1, h2⟩ := forts_mem h
  refine ⟨h1, fun t ht hf hs => ?_⟩
  obtain ⟨F, hF, hsub⟩ := forts_cover hn ht hf
  have hFs : Sub F s := fun j hj hx => hs j hj (hsub j hj hx)
  have hback : Eqv F s → Eqv t s := fun he j hj => by
    cases e : s j with
    | true => rw [← he j hj] at e; exact hsub j hj e
    | false =>
      cases e2 : t j with
      | false => rfl
      | true => rw [hs j hj e2] at e; cases e
  have hap := forts_apart hn adj
  have hbf := forts_bef hn adj
  obtain ⟨i, hi, hie⟩ := List.getElem_of_mem hF
  obtain ⟨k, hk, hke⟩ := List.getElem_of_mem h
  rcases Nat.lt_trichotomy i k with e | e | e
  · have := List.pairwise_iff_getElem.1 hap i k hi hk e
    rw [hie, hke] at this
    exact absurd hFs this
  · subst e
    rw [hie] at hke
    subst hke
    exact hback fun _ _ => rfl
  · have hb := List.pairwise_iff_getElem.1 hbf k i hk hi e
    rw [hie, hke] at hb
    have hz := (sz_mono hFs).1
    refine hback (sub_eqv hFs ?_)
    rcases hb with hb | ⟨hb, _⟩ <;> omega
/-- What the reference has found among the numbers below k. -/
structure Fnd (n : Nat) (adj : Nat → Nat → Bool) (k : Nat) (out : List Nat) : Prop where
  so : out.Pairwise BefN
  me : ∀ m, m ∈ out ↔ m < k ∧ 1 ≤ m ∧ MinF n adj (setN m)
theorem Fnd.least {n : Nat} (hn : n ≤ 12) {adj : Nat → Nat → Bool} {k : Nat} {out : List Nat} (h : Fnd n adj k out) (hk1 : 1 ≤ k) (hk : k < 2 ^ n) : (isF n adj (setN k) = true ∧ ∀ m ∈ out, ¬ Sub (setN m) (setN k)) ↔ MinF n adj (setN k) := by
  have hk4 : k < 4096 := Nat.lt_of_lt_of_le hk (by have := Nat.pow_le_pow_right (n := 2) (by omega) hn; simpa using this)
  constructor
  · rintro ⟨h1, h2⟩
    refine ⟨h1, fun t ht hf hs => ?_⟩
    by_cases e : Eqv t (setN k)
    · exact e
    · exfalso
      have hlt : num t < k := by
        have h3 := sub_num hs
        rw [num_setN hk4] at h3
        rcases Nat.lt_or_ge (num t) k with h' | h'
        · exact h'
        · exact absurd (eqv_num.2 (by rw [num_setN hk4]; omega)) e
      obtain ⟨F, hF, hsub⟩ := forts_cover hn ht hf
      have hFn : num F < k := Nat.lt_of_le_of_lt (sub_num hsub) hlt
      obtain ⟨hFf, hFin⟩ := forts_mem hF
      have hF1 : 1 ≤ num F := by
        rcases Nat.eq_zero_or_pos (num F) with h0 | h0
        · obtain ⟨⟨j, hj, hx⟩, _⟩ := isF_iff.1 hFf
          rw [num_none.1 h0 j hj] at hx; cases hx
        · exact h0
      have := (h.me (num F)).2 ⟨hFn, hF1, minF_cg (eqv_symm setN_num) (forts_min hn hF)⟩
      exact h2 _ this fun j hj hx => hs j hj (hsub j hj (by rw [← setN_num (s := F) j hj]; exact hx))
  · rintro ⟨h1, h2⟩
    refine ⟨h1, fun m hm hs => ?_⟩
    obtain ⟨hmk, hm1, hmF⟩ := (h.me m).1 hm
    have := eqv_num.1 (h2 (setN m) (setN_in (by omega)) hmF.1 hs)
    rw [num_setN hk4, num_setN (by omega)] at this
    omega
theorem Fnd.skip {n : Nat} {adj : Nat → Nat → Bool} {k : Nat} {out : List Nat} (h : Fnd n adj k out) (hk : ¬ MinF n adj (setN k)) : Fnd n adj (k + 1) out := ⟨h.so, fun m => by
  rw [h.me]
  constructor
  · rintro ⟨a, b, c⟩; exact ⟨by omega, b, c⟩
  · rintro ⟨a, b, c⟩
    refine ⟨?_, b, c⟩
    by_cases e : m = k
    · subst e; exact absurd c hk
    · omega⟩
theorem Fnd.put {n : Nat} {adj : Nat → Nat → Bool} {k i : Nat} {out : List Nat} (h : Fnd n adj k out) (hk1 : 1 ≤ k) (hk : MinF n adj (setN k)) (hi : i ≤ out.length) (hb : ∀ j, j < i → ∀ m, out[j]? = some m → BefN m k) (hn : ∀ m, out[i]? = some m → ¬ BefN m k) (hk4 : k < 4096) : Fnd n adj (k + 1) (out.take i ++ k :: out.drop i) := by
  have hne : ∀ m ∈ out, m ≠ k := fun m hm e => by
    have := ((h.me m).1 hm).1; omega
  have hm4 : ∀ m ∈ out, m < 4096 := fun m hm => by have := ((h.me m).1 hm).1; omega
  have hpre : ∀ a ∈ out.take i, BefN a k := fun a ha => by
    obtain ⟨j, hj, he⟩ := List.getElem_of_mem ha
    rw [List.length_take] at hj
    rw [List.getElem_take] at he
    exact hb j (by omega) a (by rw [List.getElem?_eq_getElem (by omega), he])
  have hpost : ∀ a ∈ out.drop i, BefN k a := fun a ha => by
    obtain ⟨j, hj, he⟩ := List.getElem_of_mem ha
    rw [List.length_drop] at hj
    rw [List.getElem_drop] at he
    have hx := hn (out[i]'(by omega)) (List.getElem?_eq_getElem (by omega))
    have hnb : NotBefore (setN (out[i]'(by omega))) (setN k) := nb_of_not hx
    have hle : NotBefore (setN a) (setN (out[i]'(by omega))) := by
      by_cases e : j = 0
      · subst e; rw [← he]; exact nb_eqv fun _ _ => rfl
      · rw [← he]
        exact bef_nb (List.pairwise_iff_getElem.1 h.so i (i + j) (by omega) (by omega) (by omega))
    have hab := nb_trans hle hnb
    refine bef_of_not fun hc => ?_
    have := eqv_num.1 (nb_antisymm hab hc)
    have ham : a ∈ out := List.mem_of_mem_drop ha
    rw [num_setN (hm4 a ham), num_setN hk4] at this
    exact hne a ham this
  refine ⟨?_, fun m => ?_⟩
  · rw [List.pairwise_append, List.pairwise_cons]
    refine ⟨h.so.sublist (List.take_sublist _ _), ⟨hpost, h.so.sublist (List.drop_sublist _ _)⟩, fun a ha b hb' => ?_⟩
    rcases List.mem_cons.1 hb' with rfl | hb'
    · exact hpre a ha
    · exact bef_trans (hpre a ha) (hpost b hb')
  · have hmem : m ∈ out.take i ++ k :: out.drop i ↔ m = k ∨ m ∈ out := by
      rw [List.mem_append, List.mem_cons]
      constructor
      · rintro (h1 | h1 | h1)
        · exact .inr (List.mem_of_mem_take h1)
        · exact .inl h1
        · exact .inr (List.mem_of_mem_drop h1)
      · rintro (h1 | h1)
        · exact .inr (.inl h1)
        · rw [← List.take_append_drop i out, List.mem_append] at h1
          rcases h1 with h1 | h1
          · exact .inl h1
          · exact .inr (.inr h1)
    rw [hmem, h.me]
    constructor
    · rintro (rfl | ⟨a, b, c⟩)
      · exact ⟨by omega, hk1, hk⟩
      · exact ⟨by omega, b, c⟩
    · rintro ⟨a, b, c⟩
      by_cases e : m = k
      · exact .inl e
      · exact .inr ⟨by omega, b, c⟩
theorem Fnd.done {n : Nat} (hn : n ≤ 12) {adj : Nat → Nat → Bool} {out : List Nat} (h : Fnd n adj (2 ^ n) out) : out = (fortsOf n adj).map num := by
  refine sorted_same befN_irr befN_asym _ _ h.so ?_ fun m => ?_
  · rw [List.pairwise_map]
    exact (forts_bef hn adj).imp fun {a b} hab => bef_eqv hab (eqv_symm setN_num) (eqv_symm setN_num)
  · rw [h.me, List.mem_map]
    constructor
    · rintro ⟨h1, h2, h3⟩
      have h4 : m < 4096 := Nat.lt_of_lt_of_le h1 (by have := Nat.pow_le_pow_right (n := 2) (by omega) hn; simpa using this)
      obtain ⟨F, hF, hs⟩ := forts_cover hn (setN_in h1) h3.1
      refine ⟨F, hF, ?_⟩
      have := eqv_num.1 (h3.2 F (forts_mem hF).2 (forts_mem hF).1 hs)
      rw [num_setN h4] at this; exact this
    · rintro ⟨F, hF, rfl⟩
      obtain ⟨hFf, hFin⟩ := forts_mem hF
      refine ⟨num_lt2 hn hFin, ?_, minF_cg (eqv_symm setN_num) (forts_min hn hF)⟩
      rcases Nat.eq_zero_or_pos (num F) with h0 | h0
      · obtain ⟨⟨j, hj, hx⟩, _⟩ := isF_iff.1 hFf
        rw [num_none.1 h0 j hj] at hx; cases hx
      · exact h0
end Go.Proofs.Yteekigpdiklppaa
