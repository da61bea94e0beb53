import Derived.Test.YteekigpdiklppaaWUn
set_option linter.unusedSimpArgs false
set_option linter.unusedVariables false
namespace Go.Proofs.Yteekigpdiklppaa
open Go Go.Proofs Go.RowKit Go.Seq
/-! The sets in their order: by size, then by their least difference; and what the search for forts finds. -/
def sz (s : Nat → Bool) : Nat := (vsTo s 12).length
def Sub (a b : Nat → Bool) : Prop := ∀ j, j < 12 → a j = true → b j = true
def Eqv (a b : Nat → Bool) : Prop := ∀ j, j < 12 → a j = b j
def Lex (a b : Nat → Bool) : Prop := ∃ u, u < 12 ∧ a u = true ∧ b u = false ∧ ∀ j, j < u → a j = b j
theorem sz_cg {a b : Nat → Bool} (h : Eqv a b) : sz a = sz b := by unfold sz; rw [vsTo_cg 12 h]
theorem sz_mono {a b : Nat → Bool} (h : Sub a b) : sz a ≤ sz b ∧ ((∃ j, j < 12 ∧ a j = false ∧ b j = true) → sz a < sz b) := by
  have h2 := vsTo_mono (s := fun j => decide (j < 12) && a j) (t := fun j => decide (j < 12) && b j) (fun j hj => by
    simp only [Bool.and_eq_true, decide_eq_true_eq] at hj ⊢
    exact ⟨hj.1, h j hj.1 hj.2⟩) 12
  rw [vsTo_cg (t := a) 12 (fun j hj => by simp [hj]), vsTo_cg (s := fun j => decide (j < 12) && b j) (t := b) 12 (fun j hj => by simp [hj])] at h2
  exact ⟨h2.1, fun ⟨j, hj, e1, e2⟩ => h2.2 ⟨j, hj, by simp [e1], by simp [hj, e2]⟩⟩
theorem sub_eqv {a b : Nat → Bool} (h : Sub a b) (hs : sz b ≤ sz a) : Eqv a b := fun j hj => by
  cases ha : a j with
  | true => exact (h j hj ha).symm
  | false =>
    cases hb : b j with
    | false => rfl
    | true => have := (sz_mono h).2 ⟨j, hj, ha, hb⟩; omega
theorem sub_more {a b : Nat → Bool} (h : sz a < sz b) : ∃ v, v < 12 ∧ b v = true ∧ a v = false := by
  refine Classical.byContradiction fun hc => ?_
  have : Sub b a := fun j hj hb => by
    cases ha : a j with
    | true => rfl
    | false => exact absurd ⟨j, hj, hb, ha⟩ hc
  have := (sz_mono this).1; omega
theorem vsTo_adds {s : Nat → Bool} {u : Nat} (hu : s u = false) : ∀ k, (vsTo (adds s u) k).length = (vsTo s k).length + (if u < k then 1 else 0)
  | 0 => by simp [vsTo]
  | k + 1 => by
    rw [vsTo_succ, vsTo_succ]
    have ih := vsTo_adds hu k
    by_cases e : k = u
    · subst e
      rw [show adds s k k = true by simp [adds], hu]
      simp at ih ⊢; omega
    · rw [show adds s u k = s k by simp [adds, e]]
      have h3 : (if u < k + 1 then 1 else 0) = (if u < k then 1 else 0) := by
        by_cases h : u < k
        · rw [if_pos h, if_pos (by omega)]
        · rw [if_neg h, if_neg (by omega)]
      rw [h3]
      cases s k with
      | true => simp; omega
      | false => simp; omega
theorem sz_adds {s : Nat → Bool} {u : Nat} (hu : u < 12) (h : s u = false) : sz (adds s u) = sz s + 1 := by
  unfold sz; rw [vsTo_adds h, if_pos hu]
theorem sz_wo {s : Nat → Bool} {u : Nat} (hu : u < 12) (h : s u = true) : sz (woS s u) + 1 = sz s := by
  rw [← sz_adds hu (by simp [woS])]
  exact sz_cg fun j hj => by
    unfold adds woS
    by_cases e : j = u
    · subst e; simp [h]
    · simp [e]
theorem fillL_low (n : Nat) : ∀ m s v s', s' ∈ fillL n m s v → ∀ j, j < v → s' j = s j
  | 0, s, v, s', h, j, hj => by simp only [fillL, List.mem_singleton] at h; rw [h]
  | m + 1, s, v, s', h, j, hj => by
    simp only [fillL, List.mem_flatMap, List.mem_range'_1] at h
    obtain ⟨u, hu, h⟩ := h
    rw [fillL_low n m _ _ _ h j (by omega)]
    unfold adds; rw [if_neg (by omega)]
theorem adds_hi {s : Nat → Bool} {v u : Nat} (hs : ∀ j, v ≤ j → s j = false) (hu : v ≤ u) : ∀ j, u + 1 ≤ j → adds s u j = false := fun j hj => by
  unfold adds; rw [if_neg (by omega)]; exact hs j (by omega)
theorem fillL_sz {n : Nat} (hn : n ≤ 12) : ∀ m s v s', (∀ j, v ≤ j → s j = false) → s' ∈ fillL n m s v → sz s' = sz s + m
  | 0, s, v, s', hs, h => by simp only [fillL, List.mem_singleton] at h; rw [h]; rfl
  | m + 1, s, v, s', hs, h => by
    simp only [fillL, List.mem_flatMap, List.mem_range'_1] at h
    obtain ⟨u, hu, h⟩ := h
    rw [fillL_sz hn m _ _ _ (adds_hi hs hu.1) h, sz_adds (by omega) (hs u hu.1)]; omega
theorem fillL_lex {n : Nat} (hn : n ≤ 12) : ∀ m s v, (∀ j, v ≤ j → s j = false) → (fillL n m s v).Pairwise Lex
  | 0, s, v, hs => by simp [fillL]
  | m + 1, s, v, hs => by
    unfold fillL
    rw [List.pairwise_flatMap]
    refine ⟨fun u hu => fillL_lex hn m _ _ (adds_hi hs (List.mem_range'_1.1 hu).1), ?_⟩
    refine List.Pairwise.imp_of_mem ?_ List.pairwise_lt_range'
    intro u1 u2 hu1 hu2 hlt a ha b hb
    rw [List.mem_range'_1] at hu1 hu2
    have a1 := fillL_low n m _ _ _ ha
    have b1 := fillL_low n m _ _ _ hb
    refine ⟨u1, by omega, by rw [a1 u1 (by omega)]; simp [adds], ?_, fun j hj => ?_⟩
    · rw [b1 u1 (by omega)]; unfold adds; rw [if_neg (by omega)]; exact hs u1 hu1.1
    · rw [a1 j (by omega), b1 j (by omega)]; unfold adds; rw [if_neg (by omega), if_neg (by omega)]
theorem least_of {P : Nat → Prop} : ∀ k, P k → ∃ u, P u ∧ ∀ j, j < u → ¬ P j := fun k => by
  induction k using Nat.strongRecOn with
  | _ k ih =>
    intro hk
    by_cases h : ∃ j, j < k ∧ P j
    · obtain ⟨j, hj, hp⟩ := h; exact ih j hj hp
    · exact ⟨k, hk, fun j hj hp => h ⟨j, hj, hp⟩⟩
theorem fillL_full {n : Nat} (hn : n ≤ 12) : ∀ m s v t, (∀ j, v ≤ j → s j = false) → (∀ j, j < v → j < 12 → t j = s j) → InN n t → sz t = sz s + m → ∃ s' ∈ fillL n m s v, Eqv s' t
  | 0, s, v, t, hs, ht, hn', hz => ⟨s, by simp [fillL], sub_eqv (fun j hj h => by
      rcases Nat.lt_or_ge j v with hv | hv
      · rw [ht j hv hj]; exact h
      · rw [hs j hv] at h; cases h) (by omega)⟩
  | m + 1, s, v, t, hs, ht, hn', hz => by
    obtain ⟨w, hw, hwt, hws⟩ := sub_more (a := s) (b := t) (by omega)
    have hwv : v ≤ w := by
      rcases Nat.lt_or_ge w v with h | h
      · rw [ht w h hw, hws] at hwt; cases hwt
      · exact h
    obtain ⟨u, ⟨hu1, hu2, hu3⟩, hul⟩ := least_of (P := fun u => v ≤ u ∧ u < 12 ∧ t u = true) w ⟨hwv, hw, hwt⟩
    have hun : u < n := by
      rcases Nat.lt_or_ge u n with h | h
      · exact h
      · rw [hn' u h hu2] at hu3; cases hu3
    obtain ⟨s', h1, h2⟩ := fillL_full hn m (adds s u) (u + 1) t (adds_hi hs hu1) (fun j hj hj12 => by
      unfold adds
      by_cases e : j = u
      · rw [if_pos e, e]; exact hu3
      · rw [if_neg e]
        rcases Nat.lt_or_ge j v with h | h
        · exact ht j h hj12
        · rw [hs j h]
          cases htj : t j with
          | false => rfl
          | true => exact absurd ⟨h, hj12, htj⟩ (hul j (by omega))) hn' (by rw [sz_adds hu2 (hs u hu1)]; omega)
    refine ⟨s', ?_, h2⟩
    simp only [fillL, List.mem_flatMap, List.mem_range'_1]
    exact ⟨u, by omega, h1⟩
theorem none_hi : ∀ j, 0 ≤ j → (fun (_ : Nat) => false) j = false := fun _ _ => rfl
theorem sz_none : sz (fun _ => false) = 0 := rfl
theorem lev_full {n : Nat} (hn : n ≤ 12) {m : Nat} {t : Nat → Bool} (ht : InN n t) (hz : sz t = m) : ∃ s' ∈ fillL n m (fun _ => false) 0, Eqv s' t :=
  fillL_full hn m _ 0 t none_hi (fun j hj => by omega) ht (by rw [sz_none, hz]; omega)
theorem lev_in {n : Nat} (hn : n ≤ 12) {m : Nat} {s : Nat → Bool} (h : s ∈ fillL n m (fun _ => false) 0) : sz s = m ∧ InN n s :=
  ⟨by rw [fillL_sz hn m _ 0 s none_hi h, sz_none]; omega, fun j h1 h2 => fillL_in n _ _ _ _ h j h1⟩
theorem wo_in {n : Nat} {s : Nat → Bool} (h : InN n s) (v : Nat) : InN n (woS s v) := fun j h1 h2 => by
  unfold woS; split
  · rfl
  · exact h j h1 h2
theorem sub_wo {F s : Nat → Bool} (h : Sub F s) {v : Nat} (hv : F v = false) : Sub F (woS s v) := fun j hj hf => by
  unfold woS
  rw [if_neg (by rintro rfl; rw [hv] at hf; cases hf)]
  exact h j hj hf
structure Fi (n : Nat) (adj : Nat → Nat → Bool) (i : Nat) (st : Hst) : Prop where
  j1 : ∀ t, st.1 t = true → ∃ F ∈ st.2, Sub F t
  j3 : ∀ F ∈ st.2, st.1 F = true
  cg : ∀ s t, Eqv s t → st.1 s = st.1 t
  le : ∀ F ∈ st.2, sz F ≤ i
  ac : st.2.Pairwise (fun a b => ¬ Sub a b)
  up : ∀ t, InN n t → sz t ≤ i → (∃ F ∈ st.2, Sub F t) → st.1 t = true
  co : ∀ t, InN n t → sz t ≤ i → isF n adj t = true → ∃ F ∈ st.2, Sub F t
structure Gi (n : Nat) (adj : Nat → Nat → Bool) (st0 : Hst) (p : List (Nat → Bool)) (st : Hst) : Prop where
  j1 : ∀ t, st.1 t = true → ∃ F ∈ st.2, Sub F t
  j3 : ∀ F ∈ st.2, st.1 F = true
  cg : ∀ s t, Eqv s t → st.1 s = st.1 t
  mono : ∀ t, st0.1 t = true → st.1 t = true
  pre : ∀ F ∈ st.2, F ∈ st0.2 ∨ F ∈ p
  pre2 : ∀ F ∈ st0.2, F ∈ st.2
  ac : st.2.Pairwise (fun a b => ¬ Sub a b)
  up : ∀ s ∈ p, (∃ v, v < 12 ∧ s v = true ∧ st0.1 (woS s v) = true) → st.1 s = true
  co : ∀ s ∈ p, isF n adj s = true → ∃ F ∈ st.2, Sub F s
theorem addH_cg {h : (Nat → Bool) → Bool} (hc : ∀ s t, Eqv s t → h s = h t) (x : Nat → Bool) : ∀ s t, Eqv s t → addH h x s = addH h x t := fun s t e => by
  unfold addH; rw [hc s t e, eqb_cg e (fun _ _ => rfl)]
theorem Gi.step {n i : Nat} {adj : Nat → Nat → Bool} {st0 st : Hst} {p : List (Nat → Bool)} {s : Nat → Bool} (h0 : Fi n adj i st0) (h : Gi n adj st0 p st) (hs : sz s = i + 1) (hin : InN n s) (hl : ∀ a ∈ p, Lex a s) : Gi n adj st0 (p ++ [s]) (stepF n adj st s) := by
  have hany : ((vsTo s 12).any fun v => st.1 (woS s v)) = true ↔ ∃ v, v < 12 ∧ s v = true ∧ st.1 (woS s v) = true := by
    rw [List.any_eq_true]
    constructor
    · rintro ⟨v, hv, he⟩
      obtain ⟨a, b⟩ := vsTo_lt hv
      exact ⟨v, a, b, he⟩
    · rintro ⟨v, a, b, he⟩
      exact ⟨v, by unfold vsTo; rw [List.mem_filter]; exact ⟨by simpa using a, b⟩, he⟩
  have hself : addH st.1 s s = true := by unfold addH; rw [eqb_iff.2 (fun _ _ => rfl)]; rfl
  have hold : ∀ t, st.1 t = true → addH st.1 s t = true := fun t e => by unfold addH; rw [e]; simp
  unfold stepF
  by_cases c : ((vsTo s 12).any fun v => st.1 (woS s v)) = true
  · rw [if_pos c]
    obtain ⟨v, v1, v2, v3⟩ := hany.1 c
    obtain ⟨F, hF, hFs⟩ := h.j1 _ v3
    have hsub : Sub F s := fun j hj hf => by
      have := hFs j hj hf
      unfold woS at this
      split at this
      · cases this
      · exact this
    refine ⟨fun t ht => ?_, fun F hF => hold _ (h.j3 F hF), addH_cg h.cg s, fun t ht => hold _ (h.mono t ht), fun F hF => (h.pre F hF).imp id (fun x => List.mem_append_left _ x), h.pre2, h.ac, fun t ht hv => ?_, fun t ht hf => ?_⟩
    · show ∃ F ∈ st.2, Sub F t
      have ht' : addH st.1 s t = true := ht
      unfold addH at ht'
      rcases Bool.or_eq_true _ _ |>.mp ht' with e | e
      · exact ⟨F, hF, fun j hj hf => by rw [eqb_iff.1 e j hj]; exact hsub j hj hf⟩
      · exact h.j1 t e
    · rcases List.mem_append.1 ht with ht | ht
      · exact hold _ (h.up t ht hv)
      · rw [List.mem_singleton.1 ht]; exact hself
    · rcases List.mem_append.1 ht with ht | ht
      · exact h.co t ht hf
      · rw [List.mem_singleton.1 ht]; exact ⟨F, hF, hsub⟩
  · rw [if_neg c]
    have hno : ∀ v, v < 12 → s v = true → ¬ st.1 (woS s v) = true := fun v a b e => c (hany.2 ⟨v, a, b, e⟩)
    have hno0 : ¬ ∃ v, v < 12 ∧ s v = true ∧ st0.1 (woS s v) = true := fun ⟨v, a, b, e⟩ => hno v a b (h.mono _ e)
    by_cases f : isF n adj s = true
    · rw [if_pos f]
      have hnew : ∀ F ∈ st.2, ¬ Sub F s := fun F hF hsub => by
        rcases h.pre F hF with h1 | h1
        · have hle := h0.le F h1
          obtain ⟨v, a, b, d⟩ := sub_more (a := F) (b := s) (by omega)
          have hz := sz_wo a b
          exact hno0 ⟨v, a, b, h0.up _ (wo_in hin v) (by omega) ⟨F, h1, sub_wo hsub d⟩⟩
        · obtain ⟨u, a, b, d, _⟩ := hl F h1
          have := hsub u a b
          rw [d] at this; cases this
      refine ⟨fun t ht => ?_, fun F hF => ?_, addH_cg h.cg s, fun t ht => hold _ (h.mono t ht), fun F hF => ?_, fun F hF => List.mem_append_left _ (h.pre2 F hF), ?_, fun t ht hv => ?_, fun t ht hf => ?_⟩
      · have ht' : addH st.1 s t = true := ht
        unfold addH at ht'
        rcases Bool.or_eq_true _ _ |>.mp ht' with e | e
        · exact ⟨s, by simp, fun j hj hf => by rw [eqb_iff.1 e j hj]; exact hf⟩
        · obtain ⟨F, hF, hs⟩ := h.j1 t e
          exact ⟨F, List.mem_append_left _ hF, hs⟩
      · rcases List.mem_append.1 hF with hF | hF
        · exact hold _ (h.j3 F hF)
        · rw [List.mem_singleton.1 hF]; exact hself
      · rcases List.mem_append.1 hF with hF | hF
        · exact (h.pre F hF).imp id (fun x => List.mem_append_left _ x)
        · exact .inr (List.mem_append_right _ hF)
      · rw [List.pairwise_append]
        exact ⟨h.ac, by simp, fun a ha b hb => by rw [List.mem_singleton.1 hb]; exact hnew a ha⟩
      · rcases List.mem_append.1 ht with ht | ht
        · exact hold _ (h.up t ht hv)
        · rw [List.mem_singleton.1 ht]; exact hself
      · rcases List.mem_append.1 ht with ht | ht
        · obtain ⟨F, hF, hs⟩ := h.co t ht hf
          exact ⟨F, List.mem_append_left _ hF, hs⟩
        · rw [List.mem_singleton.1 ht]; exact ⟨s, by simp, fun _ _ h => h⟩
    · rw [if_neg f]
      refine ⟨h.j1, h.j3, h.cg, h.mono, fun F hF => (h.pre F hF).imp id (fun x => List.mem_append_left _ x), h.pre2, h.ac, fun t ht hv => ?_, fun t ht hf => ?_⟩
      · rcases List.mem_append.1 ht with ht | ht
        · exact h.up t ht hv
        · rw [List.mem_singleton.1 ht] at hv; exact absurd hv hno0
      · rcases List.mem_append.1 ht with ht | ht
        · exact h.co t ht hf
        · rw [List.mem_singleton.1 ht] at hf; exact absurd hf f
theorem Gi.fold {n i : Nat} {adj : Nat → Nat → Bool} {st0 : Hst} (h0 : Fi n adj i st0) : ∀ (l p : List (Nat → Bool)) (st : Hst), Gi n adj st0 p st → (p ++ l).Pairwise Lex → (∀ s ∈ l, sz s = i + 1 ∧ InN n s) → Gi n adj st0 (p ++ l) (l.foldl (stepF n adj) st)
  | [], p, st, h, hl, hs => by simpa using h
  | s :: l, p, st, h, hl, hs => by
    rw [List.foldl_cons, show p ++ s :: l = (p ++ [s]) ++ l by simp]
    refine Gi.fold h0 l (p ++ [s]) _ (h.step h0 (hs s (by simp)).1 (hs s (by simp)).2 (fun a ha => ?_)) (by simpa using hl) (fun t ht => hs t (by simp [ht]))
    rw [List.pairwise_append] at hl
    exact hl.2.2 a ha s (by simp)
theorem Fi.next {n i : Nat} (hn : n ≤ 12) {adj : Nat → Nat → Bool} {st0 : Hst} (h0 : Fi n adj i st0) : Fi n adj (i + 1) ((fillL n (i + 1) (fun _ => false) 0).foldl (stepF n adj) st0) := by
  have hg := Gi.fold h0 (fillL n (i + 1) (fun _ => false) 0) [] st0 ⟨h0.j1, h0.j3, h0.cg, fun _ h => h, fun F h => .inl h, fun F h => h, h0.ac, fun s hs => by simp at hs, fun s hs => by simp at hs⟩ (by simpa using fillL_lex hn (i + 1) _ 0 none_hi) (fun s hs => lev_in hn hs)
  rw [List.nil_append] at hg
  refine ⟨hg.j1, hg.j3, hg.cg, fun F hF => ?_, hg.ac, fun t ht hz ⟨F, hF, hs⟩ => ?_, fun t ht hz hf => ?_⟩
  · rcases hg.pre F hF with h | h
    · have := h0.le F h; omega
    · have := (lev_in hn h).1; omega
  · have hm := (sz_mono hs).1
    rcases hg.pre F hF with h | h
    · have hle := h0.le F h
      rcases Nat.lt_or_ge i (sz t) with hi | hi
      · obtain ⟨s', h1, h2⟩ := lev_full hn ht (m := i + 1) (by omega)
        obtain ⟨z1, z2⟩ := lev_in hn h1
        rw [← hg.cg s' t h2]
        have hs' : Sub F s' := fun j hj hf => by rw [h2 j hj]; exact hs j hj hf
        obtain ⟨v, a, b, d⟩ := sub_more (a := F) (b := s') (by omega)
        have hz := sz_wo a b
        exact hg.up s' h1 ⟨v, a, b, h0.up _ (wo_in z2 v) (by omega) ⟨F, h, sub_wo hs' d⟩⟩
      · exact hg.mono t (h0.up t ht hi ⟨F, h, hs⟩)
    · have hz2 := (lev_in hn h).1
      rw [← hg.cg F t (sub_eqv hs (by omega))]
      exact hg.j3 F hF
  · rcases Nat.lt_or_ge i (sz t) with hi | hi
    · obtain ⟨s', h1, h2⟩ := lev_full hn ht (m := i + 1) (by omega)
      rw [← isF_cg h2] at hf
      obtain ⟨F, hF, hs⟩ := hg.co s' h1 hf
      exact ⟨F, hF, fun j hj hx => by rw [← h2 j hj]; exact hs j hj hx⟩
    · obtain ⟨F, hF, hs⟩ := h0.co t ht hi hf
      exact ⟨F, hg.pre2 F hF, hs⟩
theorem Fi.all {n : Nat} (hn : n ≤ 12) (adj : Nat → Nat → Bool) : ∀ k, Fi n adj k (stF n adj (setsTo n k))
  | 0 => by
    have h0 : stF n adj (setsTo n 0) = (fun _ => false, []) := rfl
    rw [h0]
    refine ⟨fun t ht => (by cases ht), fun F hF => by simp at hF, fun _ _ _ => rfl, fun F hF => by simp at hF, List.Pairwise.nil, fun t ht hz hF => by simp at hF, fun t ht hz hf => ?_⟩
    obtain ⟨⟨j, hj, h⟩, _⟩ := isF_iff.1 hf
    have := (sz_mono (a := (fun _ => false)) (b := t) (fun j hj h => by cases h)).2 ⟨j, hj, rfl, h⟩
    omega
  | k + 1 => by
    have h := (Fi.all hn adj k).next hn
    rw [setsTo_succ]
    unfold stF at h ⊢
    rw [List.foldl_append]
    exact h
theorem sz_in {n : Nat} (hn : n ≤ 12) {t : Nat → Bool} (h : InN n t) : sz t ≤ n := by
  have := (sz_mono (a := t) (b := allS n) (fun j hj ht => by
    unfold allS
    rcases Nat.lt_or_ge j n with hlt | hge
    · simp [hlt]
    · rw [h j hge hj] at ht; cases ht)).1
  rw [show sz (allS n) = n from vsTo_all hn] at this
  exact this
/-- No listed fort holds an earlier one; every fort holds a listed one. -/
theorem forts_apart {n : Nat} (hn : n ≤ 12) (adj : Nat → Nat → Bool) : (fortsOf n adj).Pairwise (fun a b => ¬ Sub a b) := (Fi.all hn adj n).ac
theorem forts_cover {n : Nat} (hn : n ≤ 12) {adj : Nat → Nat → Bool} {t : Nat → Bool} (ht : InN n t) (hf : isF n adj t = true) : ∃ F ∈ fortsOf n adj, Sub F t := (Fi.all hn adj n).co t ht (sz_in hn ht) hf
end Go.Proofs.Yteekigpdiklppaa
