import Derived.Test.YteekigpdiklppaaWOwn
set_option linter.unusedSimpArgs false
set_option linter.unusedVariables false
namespace Go.Proofs.Yteekigpdiklppaa
open Go Go.Proofs Go.RowKit Go.Seq
attribute [local go_sem] Oper.semAt_some
/-! Forts: what the search finds, their unions, and the greatest one beside a set. -/
theorem fillL_in (n : Nat) : ∀ m s v s', s' ∈ fillL n m s v → ∀ j, n ≤ j → s' j = s j
  | 0, s, v, s', h, j, hj => by
    simp only [fillL, List.mem_singleton] at h; rw [h]
  | m + 1, s, v, s', h, j, hj => by
    simp only [fillL, List.mem_flatMap, List.mem_range'_1] at h
    obtain ⟨u, hu, h⟩ := h
    rw [fillL_in n m _ _ _ h j hj]
    unfold adds
    rw [if_neg (by omega)]
theorem setsTo_in {n k : Nat} {s : Nat → Bool} (h : s ∈ setsTo n k) : InN n s := fun j h1 h2 => by
  unfold setsTo at h
  simp only [List.mem_flatMap] at h
  obtain ⟨i, _, h⟩ := h
  exact fillL_in n _ _ _ _ h j h1
theorem fillL_all (n : Nat) : ∀ m s v, v + m = n → ∃ s' ∈ fillL n m s v, ∀ j, s' j = (s j || (decide (v ≤ j) && decide (j < n)))
  | 0, s, v, h => ⟨s, by simp [fillL], fun j => by
    have : (decide (v ≤ j) && decide (j < n)) = false := by simp; omega
    rw [this]; simp⟩
  | m + 1, s, v, h => by
    obtain ⟨s', h1, h2⟩ := fillL_all n m (adds s v) (v + 1) (by omega)
    refine ⟨s', ?_, fun j => ?_⟩
    · simp only [fillL, List.mem_flatMap, List.mem_range'_1]
      exact ⟨v, by omega, h1⟩
    · rw [h2 j]
      unfold adds
      by_cases e : j = v
      · subst e; simp; omega
      · rw [if_neg e]
        congr 2
        simp only [decide_eq_decide]; omega
theorem stepF_mem {n : Nat} {adj : Nat → Nat → Bool} {st : Hst} {s : Nat → Bool} {P : (Nat → Bool) → Prop} (h : ∀ F ∈ st.2, P F) (hs : isF n adj s = true → P s) : ∀ F ∈ (stepF n adj st s).2, P F := by
  unfold stepF
  split
  · exact h
  · split
    · rename_i hf
      intro F hF
      rcases List.mem_append.1 hF with hF | hF
      · exact h F hF
      · rw [List.mem_singleton.1 hF]; exact hs hf
    · exact h
theorem foldF_mem {n : Nat} {adj : Nat → Nat → Bool} {P : (Nat → Bool) → Prop} : ∀ (pre : List (Nat → Bool)) (st : Hst), (∀ F ∈ st.2, P F) → (∀ s ∈ pre, isF n adj s = true → P s) → ∀ F ∈ (pre.foldl (stepF n adj) st).2, P F
  | [], st, h, hs => h
  | s :: pre, st, h, hs => foldF_mem pre _ (stepF_mem h (hs s (List.mem_cons_self ..))) (fun t ht => hs t (List.mem_cons_of_mem _ ht))
theorem forts_mem {n : Nat} {adj : Nat → Nat → Bool} {F : Nat → Bool} (h : F ∈ fortsOf n adj) : isF n adj F = true ∧ InN n F :=
  foldF_mem (P := fun F => isF n adj F = true ∧ InN n F) (setsTo n n) _ (fun F hF => by simp at hF) (fun s hs hf => ⟨hf, setsTo_in hs⟩) F h
theorem stepF_len' (n : Nat) (adj : Nat → Nat → Bool) (st : Hst) (s : Nat → Bool) : st.2.length ≤ (stepF n adj st s).2.length := by
  unfold stepF
  split
  · exact Nat.le_refl _
  · split
    · simp
    · exact Nat.le_refl _
theorem foldF_ge {n : Nat} {adj : Nat → Nat → Bool} : ∀ (pre : List (Nat → Bool)) (st : Hst), st.2.length ≤ (pre.foldl (stepF n adj) st).2.length
  | [], st => Nat.le_refl _
  | s :: pre, st => Nat.le_trans (stepF_len' n adj st s) (foldF_ge pre _)
theorem foldF_none {n : Nat} {adj : Nat → Nat → Bool} : ∀ (pre : List (Nat → Bool)) (st : Hst), st.1 = (fun _ => false) → (pre.foldl (stepF n adj) st).2.length = 0 → ∀ s ∈ pre, isF n adj s = false
  | [], st, h, hl, s, hs => by simp at hs
  | t :: pre, st, h, hl, s, hs => by
    have hge := foldF_ge (n := n) (adj := adj) pre (stepF n adj st t)
    rw [List.foldl_cons] at hl
    have h0 : (stepF n adj st t).2.length = 0 := by omega
    have hno : ¬ ((vsTo t 12).any fun v => st.1 (woS t v)) = true := by rw [h]; simp
    have hst : isF n adj t = false ∧ stepF n adj st t = st := by
      unfold stepF at h0 ⊢
      rw [if_neg hno] at h0 ⊢
      cases hf : isF n adj t with
      | true => rw [hf, if_pos rfl] at h0; simp at h0
      | false => exact ⟨rfl, by simp⟩
    rcases List.mem_cons.1 hs with rfl | hs
    · exact hst.1
    · exact foldF_none pre _ (by rw [hst.2]; exact h) hl s hs
theorem fround_none (adj : Nat → Nat → Bool) {s : Nat → Bool} (h : ∀ j, j < 12 → s j = false) : ∀ j, j < 12 → fround adj s j = false := fun j hj => by
  cases e : fround adj s j with
  | false => rfl
  | true =>
    rcases (force_iff adj s j).1 e with h1 | ⟨v, hv, hs, _⟩
    · rw [h j hj] at h1; cases h1
    · rw [h v hv] at hs; cases hs
theorem isF_iff {n : Nat} {adj : Nat → Nat → Bool} {s : Nat → Bool} : isF n adj s = true ↔ (∃ j, j < 12 ∧ s j = true) ∧ ∀ j, j < 12 → fround adj (dryS n s) j = dryS n s j := by
  unfold isF
  rw [Bool.and_eq_true, eqb_iff, Bool.not_eq_true']
  refine and_congr_left fun _ => ?_
  constructor
  · intro h
    refine Classical.byContradiction fun hc => ?_
    have : eqb s (fun _ => false) = true := eqb_iff.2 fun j hj => by
      cases e : s j with
      | false => rfl
      | true => exact absurd ⟨j, hj, e⟩ hc
    rw [this] at h; cases h
  · rintro ⟨j, hj, hs⟩
    cases e : eqb s (fun _ => false) with
    | false => rfl
    | true => have := eqb_iff.1 e j hj; rw [hs] at this; cases this
theorem forts_ne {n : Nat} (h1 : 1 ≤ n) (h12 : n ≤ 12) (adj : Nat → Nat → Bool) : 0 < (fortsOf n adj).length := by
  refine Nat.pos_of_ne_zero fun h0 => ?_
  obtain ⟨s, hs, ha⟩ := fillL_all n n (fun _ => false) 0 (by omega)
  have hm : s ∈ setsTo n n := by
    unfold setsTo
    simp only [List.mem_flatMap, List.mem_range]
    exact ⟨n - 1, by omega, by rw [show n - 1 + 1 = n by omega]; exact hs⟩
  have hf := foldF_none (setsTo n n) (fun _ => false, []) rfl h0 s hm
  have hd : ∀ j, dryS n s j = false := fun j => by
    unfold dryS; rw [ha j]; simp
  have : isF n adj s = true := isF_iff.2 ⟨⟨0, by omega, by rw [ha 0]; simp; omega⟩, fun j hj => by
    rw [hd j]; exact fround_none adj (fun j _ => hd j) j hj⟩
  rw [this] at hf; cases hf
theorem dry_cg {n : Nat} {s t : Nat → Bool} (h : ∀ j, j < 12 → s j = t j) : ∀ j, j < 12 → dryS n s j = dryS n t j := fun j hj => by unfold dryS; rw [h j hj]
theorem isF_cg {n : Nat} {adj : Nat → Nat → Bool} {s t : Nat → Bool} (h : ∀ j, j < 12 → s j = t j) : isF n adj s = isF n adj t := by
  unfold isF
  rw [eqb_cg h (fun _ _ => rfl), eqb_cg ((infl_force adj).cg _ _ (dry_cg h)) (dry_cg h)]
/-- The union of two forts is one. -/
theorem union_fort {n : Nat} {adj : Nat → Nat → Bool} {A B : Nat → Bool} (hA : isF n adj A = true) (hB : isF n adj B = true) : isF n adj (fun j => A j || B j) = true := by
  obtain ⟨⟨j0, hj0, h0⟩, hA⟩ := isF_iff.1 hA
  obtain ⟨_, hB⟩ := isF_iff.1 hB
  refine isF_iff.2 ⟨⟨j0, hj0, by simp [h0]⟩, fun j hj => ?_⟩
  have key : ∀ (D : Nat → Bool), (∀ j, j < 12 → dryS n (fun j => A j || B j) j = true → dryS n D j = true) → (∀ j, j < 12 → fround adj (dryS n D) j = dryS n D j) → fround adj (dryS n fun j => A j || B j) j = true → dryS n D j = true := fun D h1 h2 h3 =>
    absorbs_force adj _ _ h1 (fun j hj h => by rw [h2 j hj] at h; exact h) j hj h3
  rw [Bool.eq_iff_iff]
  constructor
  · intro h
    have ha := key A (fun j _ h => by unfold dryS at h ⊢; simp at h ⊢; simp [h]) hA h
    have hb := key B (fun j _ h => by unfold dryS at h ⊢; simp at h ⊢; simp [h]) hB h
    unfold dryS at ha hb ⊢
    simp at ha hb ⊢; simp [ha, hb]
  · intro h
    exact (infl_force adj).up _ _ h
/-- What is beside a fort stays beside it. -/
theorem beside_fort {n : Nat} {adj : Nat → Nat → Bool} {U S : Nat → Bool} (hU : isF n adj U = true) (hS : InN n S) (hd : ∀ j, j < 12 → S j = true → U j = false) : ∀ j, j < 12 → U j = true → clo (fround adj) S j = false := fun j hj hu => by
  obtain ⟨_, hc⟩ := isF_iff.1 hU
  cases e : clo (fround adj) S j with
  | false => rfl
  | true =>
    have := clo_least (absorbs_force adj) (c := dryS n U) (fun j hj hs => by
      have h1 : j < n := by
        rcases Nat.lt_or_ge j n with h | h
        · exact h
        · rw [hS j h hj] at hs; cases hs
      unfold dryS; simp [h1, hd j hj hs]) (fun j hj h => by rw [hc j hj] at h; exact h) j hj e
    unfold dryS at this
    simp [hu] at this
theorem num_or2 (s t : Nat → Bool) : num s ||| num t = num (fun j => s j || t j) := Nat.eq_of_testBit_eq fun p => by
  rw [Nat.testBit_or, num_bit, num_bit, num_bit]
  by_cases h : p < 12 <;> simp [h]
theorem num_and2 (s t : Nat → Bool) : num s &&& num t = num (fun j => s j && t j) := Nat.eq_of_testBit_eq fun p => by
  rw [Nat.testBit_and, num_bit, num_bit, num_bit]
  by_cases h : p < 12 <;> simp [h]
theorem num_none {s : Nat → Bool} : num s = 0 ↔ ∀ j, j < 12 → s j = false := by
  rw [← num_zero]
  constructor
  · intro h j hj
    have := congrArg (fun m => m.testBit j) h
    simp only [num_bit] at this
    simpa [hj] using this
  · intro h
    exact num_ext h
theorem or_num (s t : Nat → Bool) : bits .or .i64 (num s : Int) (num t : Int) = ((num fun j => s j || t j : Nat) : Int) := by
  rw [or_i64 _ _ (by have := num_lt s; omega) (by have := num_lt t; omega), num_or2]
theorem and_num (s t : Nat → Bool) : bits .and .i64 (num s : Int) (num t : Int) = ((num fun j => s j && t j : Nat) : Int) := by
  rw [and_i64 _ _ (by have := num_lt s; omega) (by have := num_lt t; omega), num_and2]
/-! The functions as a law calls them. -/
theorem oIsFort {N : Nat} {E : Pts} {ve v : Value} {s : Nat → Bool} {w : World} (h : GOk N E) (he : PairsOf w ve E) (hs : InN N s) (hv : IntsO w v (zsOf s)) :
    Calls Try.prog 45 #[.int .i64 N, ve, v] w fun e w' => e = .returned (.tuple #[.bool (isF N (adjOf E) s), .int .i64 0]) ∧ Below w.heap.size w w' := by
  have := isFort_yes he h.gr h.len hv hs.ok (zs_len s)
  rw [isF_cg (fun j hj => setOf_zsOf s hj)] at this
  exact this
theorem intsO_nil (w : World) {s : Nat → Bool} (h : ∀ j, j < 12 → s j = false) : IntsO w (.slice none 0 0) (zsOf s) := by
  have h0 : zsOf s = [] := by
    rw [zsOf_cg (t := fun _ => false) h]; rfl
  rw [h0]
  exact ⟨none, 0, rfl, fun k hk => by simp at hk⟩
theorem oFortI {N : Nat} {E : Pts} {ve v : Value} {s : Nat → Bool} {w : World} (h : GOk N E) (he : PairsOf w ve E) (hs : InN N s) (hv : IntsO w v (zsOf s)) :
    Calls Try.prog 21 #[.int .i64 N, ve, v] w fun e w' => ∃ lv : Value, e = .returned (.tuple #[lv, .int .i64 (if eqb (clo (fround (adjOf E)) s) (allS N) = true then 6 else 0)]) ∧ IntsO w' lv (zsOf fun j => allS N j && !clo (fround (adjOf E)) s j) ∧ Below w.heap.size w w' := by
  have hr := infl_force (adjOf E)
  have hc : ∀ j, j < 12 → setOf (zsOf s) j = s j := fun j hj => setOf_zsOf s hj
  refine (fort_yes he h.gr h.len hv hs.ok (zs_len s) (stops_kf hr _)).mono ?_
  rintro e w' ⟨h1, h3⟩
  have hst := stg_cg hr hc (kfOf (fround (adjOf E)) s)
  rw [kf_cg hr hc] at h1
  rw [eqb_cg hst (fun _ _ => rfl)] at h1
  rcases h1 with ⟨e1, rfl⟩ | ⟨e1, lv, rfl, e2⟩
  · refine ⟨_, by rw [if_pos (show eqb (clo (fround (adjOf E)) s) (allS N) = true from e1)], intsO_nil _ (fun j hj => ?_), h3⟩
    have := eqb_iff.1 e1 j hj
    show (allS N j && !clo (fround (adjOf E)) s j) = false
    rw [show clo (fround (adjOf E)) s j = allS N j from this]; simp
  · exact ⟨_, by rw [if_neg (by rw [show eqb (clo (fround (adjOf E)) s) (allS N) = false from e1]; simp)], lists_of e2 (fun j hj => by rw [hst j hj]; rfl), h3⟩
theorem intsO_slice' {W : World} {v : Value} {zs : List Int} (h : IntsO W v zs) : ∃ A cap, v = .slice A zs.length cap := by
  obtain ⟨A, cap, hv, _⟩ := h
  exact ⟨A, cap, hv⟩
/-- A list of lists of places, as a law reads it. -/
def ListsO (W : World) (v : Value) (L : List (Nat → Bool)) : Prop := ∃ A cap, v = .slice A L.length cap ∧ ∀ i (hi : i < L.length), ∃ g X m c, A = some ⟨g, 0, none⟩ ∧ W.cell? ⟨g, i, none⟩ = some (.slice X m c) ∧ IntsO W (.slice X m c) (zsOf L[i])
theorem ListsV.lists {B : Nat} {W : World} {v : Value} {L : List (Nat → Bool)} {svs : List Value} (h : ListsV B W v L svs) : ListsO W v L := by
  obtain ⟨h1, h2⟩ := h.row
  rcases h2 with ⟨rfl, h0⟩ | ⟨g, cap, cur, rfl, hg, hh, hn, hcap, hsz, htake⟩
  · exact ⟨none, 0, by rw [h0], fun i hi => by omega⟩
  · refine ⟨_, cap, rfl, fun i hi => ?_⟩
    have hi2 : i < svs.length := by rw [h.len]; exact hi
    have hsv : svs[i]? = some svs[i] := List.getElem?_eq_getElem hi2
    have hI := ints_list (h.el i hi _ hsv)
    obtain ⟨X, c, hx⟩ := intsO_slice' hI
    refine ⟨g, X, _, c, rfl, ?_, hx ▸ hI⟩
    have e : (cur.toList.take (L.length * 1))[i]? = svs[i]? := by rw [htake]
    rw [List.getElem?_take_of_lt (by omega), Array.getElem?_toList, hsv, hx] at e
    simp [World.cell?, hh, e]
theorem listsO_below {W W' : World} {v : Value} {L : List (Nat → Bool)} (h : ListsO W v L) (b : Below W.heap.size W W') : ListsO W' v L := by
  obtain ⟨A, cap, hv, hc⟩ := h
  refine ⟨A, cap, hv, fun i hi => ?_⟩
  obtain ⟨g, X, m, c, h1, h2, h3⟩ := hc i hi
  exact ⟨g, X, m, c, h1, cell_below h2 b, intsO_below h3 b⟩
end Go.Proofs.Yteekigpdiklppaa
