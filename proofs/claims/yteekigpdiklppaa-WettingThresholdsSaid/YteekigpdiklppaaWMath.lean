import Derived.Test.YteekigpdiklppaaWFortsFn
import Derived.Test.YteekigpdiklppaaWMap
set_option linter.unusedSimpArgs false
set_option linter.unusedVariables false
namespace Go.Proofs.Yteekigpdiklppaa
open Go Go.Proofs Go.RowKit Go.Seq
/-- A round never dries a place, and hangs on the places alone. -/
structure Infl (rd : (Nat → Bool) → Nat → Bool) : Prop where
  up : ∀ s j, s j = true → rd s j = true
  cg : ∀ s t, (∀ j, j < 12 → s j = t j) → ∀ j, j < 12 → rd s j = rd t j
theorem vsTo_cg {s t : Nat → Bool} (k : Nat) (h : ∀ j, j < k → s j = t j) : vsTo s k = vsTo t k := by
  unfold vsTo
  apply List.filter_congr
  intro j hj
  exact h j (by simpa using hj)
theorem onlyOf_cg {s t : Nat → Bool} (h : ∀ j, j < 12 → s j = t j) : onlyOf s = onlyOf t := by
  unfold onlyOf
  rw [vsTo_cg 12 h]
theorem infl_force (adj : Nat → Nat → Bool) : Infl (fround adj) := by
  refine ⟨fun s j h => by simp [fround, fcd, h], fun s t h j hj => ?_⟩
  unfold fround fcd
  rw [h j hj, vsTo_cg 12 h]
  congr 1
  congr 1
  funext v
  rw [onlyOf_cg (s := fun u => adj v u && !s u) (t := fun u => adj v u && !t u) (fun u hu => by simp only [h u hu])]
theorem infl_soak (n : Nat) (adj : Nat → Nat → Bool) (r : Int) : Infl (sokd n adj r) := by
  refine ⟨fun s j h => by unfold sokd oneSo; split <;> simp [h], fun s t h j hj => ?_⟩
  unfold sokd oneSo hit
  rw [h j hj, vsTo_cg (s := fun u => adj j u && !s u) (t := fun u => adj j u && !t u) 12 (fun u hu => by simp only [h u hu])]
theorem vsTo_mono {s t : Nat → Bool} (h : ∀ j, s j = true → t j = true) : ∀ k, (vsTo s k).length ≤ (vsTo t k).length ∧ ((∃ j, j < k ∧ s j = false ∧ t j = true) → (vsTo s k).length < (vsTo t k).length)
  | 0 => ⟨by simp [vsTo], fun ⟨j, hj, _⟩ => by omega⟩
  | k + 1 => by
    obtain ⟨h1, h2⟩ := vsTo_mono h k
    rw [vsTo_succ, vsTo_succ]
    cases hs : s k with
    | true =>
      rw [h k hs]
      simp only [if_true, List.length_append, List.length_cons, List.length_nil]
      refine ⟨by omega, ?_⟩
      rintro ⟨j, hj, e1, e2⟩
      have : j ≠ k := by rintro rfl; rw [hs] at e1; cases e1
      have := h2 ⟨j, by omega, e1, e2⟩
      omega
    | false =>
      cases ht : t k with
      | true =>
        simp only [Bool.false_eq_true, if_false, if_true, List.length_append, List.length_cons, List.length_nil]
        exact ⟨by omega, fun _ => by omega⟩
      | false =>
        simp only [Bool.false_eq_true, if_false]
        refine ⟨h1, ?_⟩
        rintro ⟨j, hj, e1, e2⟩
        have : j ≠ k := by rintro rfl; rw [ht] at e2; cases e2
        exact h2 ⟨j, by omega, e1, e2⟩
/-- How many rounds turn something. -/
def kfOf (rd : (Nat → Bool) → Nat → Bool) (s : Nat → Bool) : Nat := ((List.range 13).find? fun k => eqb (stg rd s (k + 1)) (stg rd s k)).getD 12
theorem stg_count {rd : (Nat → Bool) → Nat → Bool} (hr : Infl rd) (s : Nat → Bool) : ∀ k, (∀ i, i < k → eqb (stg rd s (i + 1)) (stg rd s i) = false) → k ≤ (vsTo (stg rd s k) 12).length
  | 0, _ => by omega
  | k + 1, h => by
    have h1 := stg_count hr s k (fun i hi => h i (by omega))
    have h2 := h k (by omega)
    have h3 : ∃ j, j < 12 ∧ stg rd s k j = false ∧ stg rd s (k + 1) j = true := by
      unfold eqb at h2
      rw [List.all_eq_false] at h2
      obtain ⟨j, hj, he⟩ := h2
      have hj : j < 12 := by simpa using hj
      refine ⟨j, hj, ?_⟩
      have hu := hr.up (stg rd s k) j
      have e : stg rd s (k + 1) j = rd (stg rd s k) j := rfl
      rw [e] at he ⊢
      cases h5 : stg rd s k j with
      | true => rw [h5] at he hu; rw [hu rfl] at he; simp at he
      | false => rw [h5] at he; simp at he; exact ⟨rfl, he⟩
    have h4 := (vsTo_mono (s := stg rd s k) (t := stg rd s (k + 1)) (fun j hj => hr.up _ j hj) 12).2 h3
    omega
theorem stops_kf {rd : (Nat → Bool) → Nat → Bool} (hr : Infl rd) (s : Nat → Bool) : Stops rd s (kfOf rd s) := by
  obtain ⟨p, hp⟩ : ∃ p : Nat → Bool, (fun k => eqb (stg rd s (k + 1)) (stg rd s k)) = p := ⟨_, rfl⟩
  have hpk : ∀ k, eqb (stg rd s (k + 1)) (stg rd s k) = p k := fun k => by rw [← hp]
  have hex : ∃ k, k < 13 ∧ p k = true := by
    apply Classical.byContradiction
    intro hn
    have hall : ∀ i, i < 13 → eqb (stg rd s (i + 1)) (stg rd s i) = false := fun i hi => by
      rw [hpk]
      cases e : p i with
      | false => rfl
      | true => exact absurd ⟨i, hi, e⟩ hn
    have h1 := stg_count hr s 13 hall
    have h2 := vsTo_len (stg rd s 13) 12
    omega
  unfold kfOf
  rw [hp]
  cases hf : (List.range 13).find? p with
  | none =>
    obtain ⟨k, hk, e⟩ := hex
    have := List.find?_eq_none.1 hf k (by simp; omega)
    exact absurd e this
  | some K =>
    have h1 := List.find?_some hf
    have hm := List.mem_of_find?_eq_some hf
    have hK : K < 13 := by simpa using hm
    refine ⟨by show K ≤ 100; omega, by show eqb (stg rd s (K + 1)) (stg rd s K) = true; rw [hpk]; exact h1, fun i hi => ?_⟩
    rw [hpk]
    have hi : i < K := hi
    have h2 := List.find?_eq_some_iff_append.1 hf
    obtain ⟨_, la, lb, e1, e2⟩ := h2
    have hlen : la.length = K := by
      have := congrArg (fun l => l[la.length]?) e1
      simp at this
      have hlt : la.length < 13 := by
        have := congrArg List.length e1
        simp at this; omega
      rw [List.getElem?_range (by omega)] at this
      simpa using this
    have hi2 : i ∈ la := by
      have := congrArg (fun l => l[i]?) e1
      simp only [List.getElem?_range (show i < 13 by omega)] at this
      rw [List.getElem?_append_left (by omega)] at this
      exact List.mem_of_getElem? this.symm
    have := e2 i hi2
    simpa using this
theorem stg_cg {rd : (Nat → Bool) → Nat → Bool} (hr : Infl rd) {s t : Nat → Bool} (h : ∀ j, j < 12 → s j = t j) : ∀ i j, j < 12 → stg rd s i j = stg rd t i j
  | 0, j, hj => h j hj
  | i + 1, j, hj => hr.cg _ _ (fun k hk => stg_cg hr h i k hk) j hj
/-- Behind the last round nothing turns. -/
theorem stg_after {rd : (Nat → Bool) → Nat → Bool} (hr : Infl rd) {s : Nat → Bool} {K : Nat} (hK : Stops rd s K) : ∀ i, K ≤ i → ∀ j, j < 12 → stg rd s i j = stg rd s K j := by
  intro i hi
  induction i with
  | zero => intro j _; rw [show K = 0 by omega]
  | succ i ih =>
    by_cases e : K = i + 1
    · intro j _; rw [e]
    · intro j hj
      have h1 := hr.cg _ _ (ih (by omega)) j hj
      have h2 := eqb_iff.1 hK.last j hj
      exact h1.trans h2
/-! Sets as lists of twelve Bools, for the kernel. -/
def toL (s : Nat → Bool) : List Bool := [s 0, s 1, s 2, s 3, s 4, s 5, s 6, s 7, s 8, s 9, s 10, s 11]
def ofL (l : List Bool) (j : Nat) : Bool := l.getD j false
theorem ofL_toL (s : Nat → Bool) : ∀ j, j < 12 → ofL (toL s) j = s j := by
  intro j hj
  match j, hj with
  | 0, _ => rfl | 1, _ => rfl | 2, _ => rfl | 3, _ => rfl | 4, _ => rfl | 5, _ => rfl | 6, _ => rfl | 7, _ => rfl | 8, _ => rfl | 9, _ => rfl | 10, _ => rfl | 11, _ => rfl
def fB {α : Type} (b : Bool) (k : Bool → α) : α := match b with
  | true => k true
  | false => k false
def fL {α : Type} : List Bool → (List Bool → α) → α
  | [], k => k []
  | b :: l, k => fB b fun b' => fL l fun l' => k (b' :: l')
theorem fL_eq {α : Type} : ∀ (l : List Bool) (k : List Bool → α), fL l k = k l
  | [], k => rfl
  | b :: l, k => by
    cases b
    · exact fL_eq l _
    · exact fL_eq l _
def itL (rd : (Nat → Bool) → Nat → Bool) : Nat → List Bool → List Bool
  | 0, l => l
  | i + 1, l => fL (toL (rd (ofL l))) fun l' => itL rd i l'
theorem stg_shift (rd : (Nat → Bool) → Nat → Bool) (s : Nat → Bool) : ∀ i, stg rd (rd s) i = stg rd s (i + 1)
  | 0 => rfl
  | i + 1 => by show rd (stg rd (rd s) i) = _; rw [stg_shift rd s i]; rfl
theorem itL_stg {rd : (Nat → Bool) → Nat → Bool} (hr : Infl rd) : ∀ i l j, j < 12 → ofL (itL rd i l) j = stg rd (ofL l) i j
  | 0, l, j, hj => rfl
  | i + 1, l, j, hj => by
    unfold itL
    rw [fL_eq, itL_stg hr i _ j hj, ← stg_shift]
    exact stg_cg hr (ofL_toL _) i j hj
theorem itL_of {rd : (Nat → Bool) → Nat → Bool} (hr : Infl rd) (s : Nat → Bool) (i : Nat) : ∀ j, j < 12 → ofL (itL rd i (toL s)) j = stg rd s i j := fun j hj =>
  (itL_stg hr i _ j hj).trans (stg_cg hr (ofL_toL s) i j hj)
theorem eqb_cg {s s' t t' : Nat → Bool} (h : ∀ j, j < 12 → s j = s' j) (h' : ∀ j, j < 12 → t j = t' j) : eqb s t = eqb s' t' := by
  rw [Bool.eq_iff_iff, eqb_iff, eqb_iff]
  constructor
  · intro e j hj; rw [← h j hj, ← h' j hj]; exact e j hj
  · intro e j hj; rw [h j hj, h' j hj]; exact e j hj
/-- Whether all becomes wet, as the kernel computes it. -/
def isWL (rd : (Nat → Bool) → Nat → Bool) (n : Nat) (s : Nat → Bool) : Bool := fL (toL s) fun l => eqb (ofL (itL rd 12 l)) (allS n)
theorem kf_le {rd : (Nat → Bool) → Nat → Bool} (s : Nat → Bool) : kfOf rd s ≤ 12 := by
  unfold kfOf
  cases hf : (List.range 13).find? fun k => eqb (stg rd s (k + 1)) (stg rd s k) with
  | none => simp
  | some K =>
    have hm := List.mem_of_find?_eq_some hf
    simp at hm ⊢; omega
theorem isW_eq {rd : (Nat → Bool) → Nat → Bool} (hr : Infl rd) (n : Nat) : (fun s => eqb (stg rd s (kfOf rd s)) (allS n)) = isWL rd n := by
  funext s
  unfold isWL
  rw [fL_eq]
  refine eqb_cg (fun j hj => ?_) (fun _ _ => rfl)
  rw [itL_of hr s 12 j hj]
  exact (stg_after hr (stops_kf hr s) 12 (kf_le s) j hj).symm
theorem stops_of {rd : (Nat → Bool) → Nat → Bool} (hr : Infl rd) {s : Nat → Bool} {K : Nat} (hK : K ≤ 100) (h : (eqb (ofL (itL rd (K + 1) (toL s))) (ofL (itL rd K (toL s))) && (List.range K).all fun i => !eqb (ofL (itL rd (i + 1) (toL s))) (ofL (itL rd i (toL s)))) = true) : Stops rd s K := by
  have e : ∀ a b, eqb (ofL (itL rd a (toL s))) (ofL (itL rd b (toL s))) = eqb (stg rd s a) (stg rd s b) := fun a b => eqb_cg (itL_of hr s a) (itL_of hr s b)
  rw [Bool.and_eq_true, List.all_eq_true, e] at h
  refine ⟨hK, h.1, fun i hi => ?_⟩
  have := h.2 i (by simpa using hi)
  rw [e] at this
  simpa using this
theorem vsTo_of {rd : (Nat → Bool) → Nat → Bool} (hr : Infl rd) (s : Nat → Bool) (K : Nat) : vsTo (stg rd s K) 12 = vsTo (ofL (itL rd K (toL s))) 12 := vsTo_cg 12 (fun j hj => (itL_of hr s K j hj).symm)
/-! The answers that awake asks for. -/
def path4 : Pts := [(0, 1), (1, 2), (2, 3)]
def square4 : Pts := [(0, 1), (1, 2), (2, 3), (0, 3)]
def tri3 : Pts := [(0, 1), (1, 2), (0, 2)]
theorem aw_least_path : vsTo (leastOf 4 (isWL (fround (adjOf path4)) 4)) 12 = [0] := by kernel_rfl
theorem aw_close_path : Stops (fround (adjOf path4)) (setOf [0]) 3 := stops_of (infl_force _) (by omega) (by kernel_rfl)
theorem aw_fewest : vsTo (leastOf 4 (isWL (sokd 4 (adjOf square4) 2) 4)) 12 = [0, 2] := by kernel_rfl
theorem aw_least_square : vsTo (leastOf 4 (isWL (fround (adjOf square4)) 4)) 12 = [0, 1] := by kernel_rfl
theorem aw_forts : (fortsOf 3 (adjOf tri3)).length = 3 := by kernel_rfl
end Go.Proofs.Yteekigpdiklppaa
