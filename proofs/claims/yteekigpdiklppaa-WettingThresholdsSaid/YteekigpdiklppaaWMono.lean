import Derived.Test.YteekigpdiklppaaWArgs
set_option linter.unusedSimpArgs false
set_option linter.unusedVariables false
namespace Go.Proofs.Yteekigpdiklppaa
open Go Go.Proofs Go.RowKit Go.Seq
/-- The closure by a round. -/
def clo (rd : (Nat → Bool) → Nat → Bool) (s : Nat → Bool) : Nat → Bool := stg rd s (kfOf rd s)
theorem clo_closed {rd : (Nat → Bool) → Nat → Bool} (hr : Infl rd) (s : Nat → Bool) : ∀ j, j < 12 → rd (clo rd s) j = clo rd s j := eqb_iff.1 (stops_kf hr s).last
theorem stg_up {rd : (Nat → Bool) → Nat → Bool} (hr : Infl rd) (s : Nat → Bool) : ∀ i j, s j = true → stg rd s i j = true
  | 0, j, h => h
  | i + 1, j, h => hr.up _ _ (stg_up hr s i j h)
theorem clo_up {rd : (Nat → Bool) → Nat → Bool} (hr : Infl rd) (s : Nat → Bool) : ∀ j, s j = true → clo rd s j = true := stg_up hr s _
/-- Whatever holds the set and is closed holds the closure. -/
def Absorbs (rd : (Nat → Bool) → Nat → Bool) : Prop := ∀ s c, (∀ j, j < 12 → s j = true → c j = true) → (∀ j, j < 12 → rd c j = true → c j = true) → ∀ j, j < 12 → rd s j = true → c j = true
theorem clo_least {rd : (Nat → Bool) → Nat → Bool} (ha : Absorbs rd) {s c : Nat → Bool} (h : ∀ j, j < 12 → s j = true → c j = true) (hc : ∀ j, j < 12 → rd c j = true → c j = true) : ∀ j, j < 12 → clo rd s j = true → c j = true := by
  have : ∀ i j, j < 12 → stg rd s i j = true → c j = true := by
    intro i
    induction i with
    | zero => exact h
    | succ i ih => exact ha _ _ ih hc
  exact this _
theorem onlyOf_some {D : Nat → Bool} {u : Nat} (h : onlyOf D = (u : Int)) : u < 12 ∧ D u = true ∧ ∀ j, j < 12 → D j = true → j = u := by
  unfold onlyOf at h
  cases hx : vsTo D 12 with
  | nil => rw [hx] at h; simp at h
  | cons a l =>
    cases l with
    | cons b l => rw [hx] at h; simp at h
    | nil =>
      rw [hx] at h
      have e : a = u := by simp at h; omega
      subst e
      have hm : a ∈ vsTo D 12 := by rw [hx]; simp
      obtain ⟨h1, h2⟩ := vsTo_lt hm
      refine ⟨h1, h2, fun j hj hd => ?_⟩
      have : j ∈ vsTo D 12 := by unfold vsTo; rw [List.mem_filter]; exact ⟨by simpa using hj, hd⟩
      rw [hx] at this
      simpa using this
theorem onlyOf_one {D : Nat → Bool} {u : Nat} (h1 : u < 12) (h2 : D u = true) (h3 : ∀ j, j < 12 → D j = true → j = u) : onlyOf D = (u : Int) := by
  have hm : u ∈ vsTo D 12 := by unfold vsTo; rw [List.mem_filter]; exact ⟨by simpa using h1, h2⟩
  have hall : ∀ j ∈ vsTo D 12, j = u := fun j hj => h3 j (vsTo_lt hj).1 (vsTo_lt hj).2
  have hnd := vsTo_sorted D 12 0 1 (by omega)
  unfold onlyOf
  cases hx : vsTo D 12 with
  | nil => rw [hx] at hm; simp at hm
  | cons a l =>
    have ha : a = u := hall a (by rw [hx]; simp)
    cases l with
    | nil => rw [ha]
    | cons b l =>
      have hb : b = u := hall b (by rw [hx]; simp)
      rw [hx, ha, hb] at hnd
      have := hnd (by simp)
      simp at this
theorem force_iff (adj : Nat → Nat → Bool) (s : Nat → Bool) (j : Nat) : fround adj s j = true ↔ s j = true ∨ ∃ v, v < 12 ∧ s v = true ∧ onlyOf (fun u => adj v u && !s u) = (j : Int) := by
  unfold fround fcd
  rw [Bool.or_eq_true, List.any_eq_true]
  constructor
  · rintro (h | ⟨v, hv, he⟩)
    · exact .inl h
    · obtain ⟨h1, h2⟩ := vsTo_lt hv
      exact .inr ⟨v, h1, h2, by simpa using he⟩
  · rintro (h | ⟨v, h1, h2, he⟩)
    · exact .inl h
    · exact .inr ⟨v, by unfold vsTo; rw [List.mem_filter]; exact ⟨by simpa using h1, h2⟩, by simpa using he⟩
theorem absorbs_force (adj : Nat → Nat → Bool) : Absorbs (fround adj) := by
  intro s c hs hc j hj h
  rcases (force_iff adj s j).1 h with h | ⟨v, hv, hsv, he⟩
  · exact hs j hj h
  · obtain ⟨_, h2, h3⟩ := onlyOf_some he
    simp only [Bool.and_eq_true, Bool.not_eq_true'] at h2
    cases hcj : c j with
    | true => rfl
    | false =>
      have hone : onlyOf (fun u => adj v u && !c u) = (j : Int) := by
        refine onlyOf_one hj (by simp [h2.1, hcj]) (fun k hk hd => ?_)
        simp only [Bool.and_eq_true, Bool.not_eq_true'] at hd
        refine h3 k hk ?_
        cases hsk : s k with
        | false => simp [hd.1]
        | true => rw [hs k hk hsk] at hd; exact absurd hd.2 (by decide)
      have := hc j hj ((force_iff adj c j).2 (.inr ⟨v, hv, hs v hv hsv, hone⟩))
      rw [hcj] at this; exact this
theorem hit_mono (adj : Nat → Nat → Bool) {s c : Nat → Bool} (h : ∀ j, j < 12 → s j = true → c j = true) (v : Nat) : hit adj s v ≤ hit adj c v := by
  unfold hit
  have e : ∀ t : Nat → Bool, vsTo t 12 = vsTo (fun u => decide (u < 12) && t u) 12 := fun t => vsTo_cg 12 (fun j hj => by simp [hj])
  rw [e (fun u => adj v u && !s u), e (fun u => adj v u && !c u)]
  have := (vsTo_mono (s := fun u => decide (u < 12) && (adj v u && !c u)) (t := fun u => decide (u < 12) && (adj v u && !s u)) (fun j hj => by
    simp only [Bool.and_eq_true, decide_eq_true_eq, Bool.not_eq_true'] at hj ⊢
    refine ⟨hj.1, hj.2.1, ?_⟩
    cases hs : s j with
    | false => rfl
    | true => rw [h j hj.1 hs] at hj; exact absurd hj.2.2 (by decide)) 12).1
  omega
theorem absorbs_soak (n : Nat) (adj : Nat → Nat → Bool) (r : Int) : Absorbs (sokd n adj r) := by
  intro s c hs hc j hj h
  refine hc j hj ?_
  unfold sokd oneSo at h ⊢
  split at h
  · rename_i hn
    rw [if_pos hn]
    rw [Bool.or_eq_true] at h ⊢
    rcases h with h | h
    · exact .inl (hs j hj h)
    · exact .inr (by
        have h1 := of_decide_eq_true h
        have h2 := hit_mono adj hs j
        exact decide_eq_true (by omega))
  · rename_i hn
    rw [if_neg hn]; exact hs j hj h
theorem clo_mono {rd : (Nat → Bool) → Nat → Bool} (hr : Infl rd) (ha : Absorbs rd) {s t : Nat → Bool} (h : ∀ j, j < 12 → s j = true → t j = true) : ∀ j, j < 12 → clo rd s j = true → clo rd t j = true :=
  clo_least ha (fun j hj hs => clo_up hr t j (h j hj hs)) (fun j hj hc => by rw [clo_closed hr t j hj] at hc; exact hc)
/-- A closure is its own closure, in no round. -/
theorem kf_clo {rd : (Nat → Bool) → Nat → Bool} (hr : Infl rd) {c s : Nat → Bool} (h : ∀ j, j < 12 → c j = clo rd s j) : Stops rd c 0 :=
  ⟨by omega, eqb_iff.2 (fun j hj => by
    show rd c j = c j
    rw [hr.cg c (clo rd s) h j hj, clo_closed hr s j hj, h j hj]), fun i hi => by omega⟩
end Go.Proofs.Yteekigpdiklppaa
