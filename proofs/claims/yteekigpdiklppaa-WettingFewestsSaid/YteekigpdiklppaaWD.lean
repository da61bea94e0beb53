import Derived.Test.YteekigpdiklppaaWC
import Derived.Test.YteekigpdiklppaaRows
import Derived.OpenShut
import Derived.Lib.SmallJoins
set_option linter.unusedSimpArgs false
set_option linter.unusedVariables false
namespace Go.Proofs.Yteekigpdiklppaa
open Go Go.Proofs Go.RowKit Go.Seq
/-- A round never dries a place, and hangs on the places alone. -/
structure Infl (rd : (Nat → Bool) → Nat → Bool) : Prop where
  up : ∀ s j, s j = true → rd s j = true
  cg : ∀ s t, (∀ j, j < 12 → s j = t j) → ∀ j, j < 12 → rd s j = rd t j
theorem vsTo_cg {s t : Nat → Bool} (k : Nat) (h : ∀ j, j < k → s j = t j) : vsTo s k = vsTo t k := by
  unfold vsTo
  apply List.filter_congr
  intro j hj
  exact h j (by simpa using hj)
theorem onlyOf_cg {s t : Nat → Bool} (h : ∀ j, j < 12 → s j = t j) : onlyOf s = onlyOf t := by
  unfold onlyOf
  rw [vsTo_cg 12 h]
theorem infl_force (adj : Nat → Nat → Bool) : Infl (fround adj) := by
  refine ⟨fun s j h => by simp [fround, fcd, h], fun s t h j hj => ?_⟩
  unfold fround fcd
  rw [h j hj, vsTo_cg 12 h]
  congr 1
  congr 1
  funext v
  rw [onlyOf_cg (s := fun u => adj v u && !s u) (t := fun u => adj v u && !t u) (fun u hu => by simp only [h u hu])]
theorem infl_soak (n : Nat) (adj : Nat → Nat → Bool) (r : Int) : Infl (sokd n adj r) := by
  refine ⟨fun s j h => by unfold sokd oneSo; split <;> simp [h], fun s t h j hj => ?_⟩
  unfold sokd oneSo hit
  rw [h j hj, vsTo_cg (s := fun u => adj j u && !s u) (t := fun u => adj j u && !t u) 12 (fun u hu => by simp only [h u hu])]
theorem vsTo_mono {s t : Nat → Bool} (h : ∀ j, s j = true → t j = true) : ∀ k, (vsTo s k).length ≤ (vsTo t k).length ∧ ((∃ j, j < k ∧ s j = false ∧ t j = true) → (vsTo s k).length < (vsTo t k).length)
  | 0 => ⟨by simp [vsTo], fun ⟨j, hj, _⟩ => by omega⟩
  | k + 1 => by
    obtain ⟨h1, h2⟩ := vsTo_mono h k
    rw [vsTo_succ, vsTo_succ]
    cases hs : s k with
    | true =>
      rw [h k hs]
      simp only [if_true, List.length_append, List.length_cons, List.length_nil]
      refine ⟨by omega, ?_⟩
      rintro ⟨j, hj, e1, e2⟩
      have : j ≠ k := by rintro rfl; rw [hs] at e1; cases e1
      have := h2 ⟨j, by omega, e1, e2⟩
      omega
    | false =>
      cases ht : t k with
      | true =>
        simp only [Bool.false_eq_true, if_false, if_true, List.length_append, List.length_cons, List.length_nil]
        exact ⟨by omega, fun _ => by omega⟩
      | false =>
        simp only [Bool.false_eq_true, if_false]
        refine ⟨h1, ?_⟩
        rintro ⟨j, hj, e1, e2⟩
        have : j ≠ k := by rintro rfl; rw [ht] at e2; cases e2
        exact h2 ⟨j, by omega, e1, e2⟩
/-- How many rounds turn something. -/
def kfOf (rd : (Nat → Bool) → Nat → Bool) (s : Nat → Bool) : Nat := ((List.range 13).find? fun k => eqb (stg rd s (k + 1)) (stg rd s k)).getD 12
theorem stg_count {rd : (Nat → Bool) → Nat → Bool} (hr : Infl rd) (s : Nat → Bool) : ∀ k, (∀ i, i < k → eqb (stg rd s (i + 1)) (stg rd s i) = false) → k ≤ (vsTo (stg rd s k) 12).length
  | 0, _ => by omega
  | k + 1, h => by
    have h1 := stg_count hr s k (fun i hi => h i (by omega))
    have h2 := h k (by omega)
    have h3 : ∃ j, j < 12 ∧ stg rd s k j = false ∧ stg rd s (k + 1) j = true := by
      unfold eqb at h2
      rw [List.all_eq_false] at h2
      obtain ⟨j, hj, he⟩ := h2
      have hj : j < 12 := by simpa using hj
      refine ⟨j, hj, ?_⟩
      have hu := hr.up (stg rd s k) j
      have e : stg rd s (k + 1) j = rd (stg rd s k) j := rfl
      rw [e] at he ⊢
      cases h5 : stg rd s k j with
      | true => rw [h5] at he hu; rw [hu rfl] at he; simp at he
      | false => rw [h5] at he; simp at he; exact ⟨rfl, he⟩
    have h4 := (vsTo_mono (s := stg rd s k) (t := stg rd s (k + 1)) (fun j hj => hr.up _ j hj) 12).2 h3
    omega
theorem stops_kf {rd : (Nat → Bool) → Nat → Bool} (hr : Infl rd) (s : Nat → Bool) : Stops rd s (kfOf rd s) := by
  obtain ⟨p, hp⟩ : ∃ p : Nat → Bool, (fun k => eqb (stg rd s (k + 1)) (stg rd s k)) = p := ⟨_, rfl⟩
  have hpk : ∀ k, eqb (stg rd s (k + 1)) (stg rd s k) = p k := fun k => by rw [← hp]
  have hex : ∃ k, k < 13 ∧ p k = true := by
    apply Classical.byContradiction
    intro hn
    have hall : ∀ i, i < 13 → eqb (stg rd s (i + 1)) (stg rd s i) = false := fun i hi => by
      rw [hpk]
      cases e : p i with
      | false => rfl
      | true => exact absurd ⟨i, hi, e⟩ hn
    have h1 := stg_count hr s 13 hall
    have h2 := vsTo_len (stg rd s 13) 12
    omega
  unfold kfOf
  rw [hp]
  cases hf : (List.range 13).find? p with
  | none =>
    obtain ⟨k, hk, e⟩ := hex
    have := List.find?_eq_none.1 hf k (by simp; omega)
    exact absurd e this
  | some K =>
    have h1 := List.find?_some hf
    have hm := List.mem_of_find?_eq_some hf
    have hK : K < 13 := by simpa using hm
    refine ⟨by show K ≤ 100; omega, by show eqb (stg rd s (K + 1)) (stg rd s K) = true; rw [hpk]; exact h1, fun i hi => ?_⟩
    rw [hpk]
    have hi : i < K := hi
    have h2 := List.find?_eq_some_iff_append.1 hf
    obtain ⟨_, la, lb, e1, e2⟩ := h2
    have hlen : la.length = K := by
      have := congrArg (fun l => l[la.length]?) e1
      simp at this
      have hlt : la.length < 13 := by
        have := congrArg List.length e1
        simp at this; omega
      rw [List.getElem?_range (by omega)] at this
      simpa using this
    have hi2 : i ∈ la := by
      have := congrArg (fun l => l[i]?) e1
      simp only [List.getElem?_range (show i < 13 by omega)] at this
      rw [List.getElem?_append_left (by omega)] at this
      exact List.mem_of_getElem? this.symm
    have := e2 i hi2
    simpa using this
theorem stg_cg {rd : (Nat → Bool) → Nat → Bool} (hr : Infl rd) {s t : Nat → Bool} (h : ∀ j, j < 12 → s j = t j) : ∀ i j, j < 12 → stg rd s i j = stg rd t i j
  | 0, j, hj => h j hj
  | i + 1, j, hj => hr.cg _ _ (fun k hk => stg_cg hr h i k hk) j hj
/-- Behind the last round nothing turns. -/
theorem stg_after {rd : (Nat → Bool) → Nat → Bool} (hr : Infl rd) {s : Nat → Bool} {K : Nat} (hK : Stops rd s K) : ∀ i, K ≤ i → ∀ j, j < 12 → stg rd s i j = stg rd s K j := by
  intro i hi
  induction i with
  | zero => intro j _; rw [show K = 0 by omega]
  | succ i ih =>
    by_cases e : K = i + 1
    · intro j _; rw [e]
    · intro j hj
      have h1 := hr.cg _ _ (ih (by omega)) j hj
      have h2 := eqb_iff.1 hK.last j hj
      exact h1.trans h2
/-! Sets as lists of twelve Bools, for the kernel. -/
def toL (s : Nat → Bool) : List Bool := [s 0, s 1, s 2, s 3, s 4, s 5, s 6, s 7, s 8, s 9, s 10, s 11]
def ofL (l : List Bool) (j : Nat) : Bool := l.getD j false
theorem ofL_toL (s : Nat → Bool) : ∀ j, j < 12 → ofL (toL s) j = s j := by
  intro j hj
  match j, hj with
  | 0, _ => rfl | 1, _ => rfl | 2, _ => rfl | 3, _ => rfl | 4, _ => rfl | 5, _ => rfl | 6, _ => rfl | 7, _ => rfl | 8, _ => rfl | 9, _ => rfl | 10, _ => rfl | 11, _ => rfl
def fB {α : Type} (b : Bool) (k : Bool → α) : α := match b with
  | true => k true
  | false => k false
def fL {α : Type} : List Bool → (List Bool → α) → α
  | [], k => k []
  | b :: l, k => fB b fun b' => fL l fun l' => k (b' :: l')
theorem fL_eq {α : Type} : ∀ (l : List Bool) (k : List Bool → α), fL l k = k l
  | [], k => rfl
  | b :: l, k => by
    cases b
    · exact fL_eq l _
    · exact fL_eq l _
def itL (rd : (Nat → Bool) → Nat → Bool) : Nat → List Bool → List Bool
  | 0, l => l
  | i + 1, l => fL (toL (rd (ofL l))) fun l' => itL rd i l'
theorem stg_shift (rd : (Nat → Bool) → Nat → Bool) (s : Nat → Bool) : ∀ i, stg rd (rd s) i = stg rd s (i + 1)
  | 0 => rfl
  | i + 1 => by show rd (stg rd (rd s) i) = _; rw [stg_shift rd s i]; rfl
theorem itL_stg {rd : (Nat → Bool) → Nat → Bool} (hr : Infl rd) : ∀ i l j, j < 12 → ofL (itL rd i l) j = stg rd (ofL l) i j
  | 0, l, j, hj => rfl
  | i + 1, l, j, hj => by
    unfold itL
    rw [fL_eq, itL_stg hr i _ j hj, ← stg_shift]
    exact stg_cg hr (ofL_toL _) i j hj
theorem itL_of {rd : (Nat → Bool) → Nat → Bool} (hr : Infl rd) (s : Nat → Bool) (i : Nat) : ∀ j, j < 12 → ofL (itL rd i (toL s)) j = stg rd s i j := fun j hj =>
  (itL_stg hr i _ j hj).trans (stg_cg hr (ofL_toL s) i j hj)
theorem eqb_cg {s s' t t' : Nat → Bool} (h : ∀ j, j < 12 → s j = s' j) (h' : ∀ j, j < 12 → t j = t' j) : eqb s t = eqb s' t' := by
  rw [Bool.eq_iff_iff, eqb_iff, eqb_iff]
  constructor
  · intro e j hj; rw [← h j hj, ← h' j hj]; exact e j hj
  · intro e j hj; rw [h j hj, h' j hj]; exact e j hj
/-- Whether all becomes wet, as the kernel computes it. -/
def isWL (rd : (Nat → Bool) → Nat → Bool) (n : Nat) (s : Nat → Bool) : Bool := fL (toL s) fun l => eqb (ofL (itL rd 12 l)) (allS n)
theorem kf_le {rd : (Nat → Bool) → Nat → Bool} (s : Nat → Bool) : kfOf rd s ≤ 12 := by
  unfold kfOf
  cases hf : (List.range 13).find? fun k => eqb (stg rd s (k + 1)) (stg rd s k) with
  | none => simp
  | some K =>
    have hm := List.mem_of_find?_eq_some hf
    simp at hm ⊢; omega
theorem isW_eq {rd : (Nat → Bool) → Nat → Bool} (hr : Infl rd) (n : Nat) : (fun s => eqb (stg rd s (kfOf rd s)) (allS n)) = isWL rd n := by
  funext s
  unfold isWL
  rw [fL_eq]
  refine eqb_cg (fun j hj => ?_) (fun _ _ => rfl)
  rw [itL_of hr s 12 j hj]
  exact (stg_after hr (stops_kf hr s) 12 (kf_le s) j hj).symm
theorem stops_of {rd : (Nat → Bool) → Nat → Bool} (hr : Infl rd) {s : Nat → Bool} {K : Nat} (hK : K ≤ 100) (h : (eqb (ofL (itL rd (K + 1) (toL s))) (ofL (itL rd K (toL s))) && (List.range K).all fun i => !eqb (ofL (itL rd (i + 1) (toL s))) (ofL (itL rd i (toL s)))) = true) : Stops rd s K := by
  have e : ∀ a b, eqb (ofL (itL rd a (toL s))) (ofL (itL rd b (toL s))) = eqb (stg rd s a) (stg rd s b) := fun a b => eqb_cg (itL_of hr s a) (itL_of hr s b)
  rw [Bool.and_eq_true, List.all_eq_true, e] at h
  refine ⟨hK, h.1, fun i hi => ?_⟩
  have := h.2 i (by simpa using hi)
  rw [e] at this
  simpa using this
theorem vsTo_of {rd : (Nat → Bool) → Nat → Bool} (hr : Infl rd) (s : Nat → Bool) (K : Nat) : vsTo (stg rd s K) 12 = vsTo (ofL (itL rd K (toL s))) 12 := vsTo_cg 12 (fun j hj => (itL_of hr s K j hj).symm)
/-! The answers that awake asks for. -/
def path4 : Pts := [(0, 1), (1, 2), (2, 3)]
def square4 : Pts := [(0, 1), (1, 2), (2, 3), (0, 3)]
def tri3 : Pts := [(0, 1), (1, 2), (0, 2)]
theorem aw_least_path : vsTo (leastOf 4 (isWL (fround (adjOf path4)) 4)) 12 = [0] := by kernel_rfl
theorem aw_close_path : Stops (fround (adjOf path4)) (setOf [0]) 3 := stops_of (infl_force _) (by omega) (by kernel_rfl)
theorem aw_fewest : vsTo (leastOf 4 (isWL (sokd 4 (adjOf square4) 2) 4)) 12 = [0, 2] := by kernel_rfl
theorem aw_least_square : vsTo (leastOf 4 (isWL (fround (adjOf square4)) 4)) 12 = [0, 1] := by kernel_rfl
theorem aw_forts : (fortsOf 3 (adjOf tri3)).length = 3 := by kernel_rfl
end Go.Proofs.Yteekigpdiklppaa
set_option linter.unusedSimpArgs false
set_option linter.unusedVariables false
namespace Go.Proofs.Yteekigpdiklppaa
open Go Go.Proofs Go.RowKit
theorem drewN_add (w : World) (n m : Nat) : (w.drewN n).drewN m = w.drewN (n + m) := by simp [World.drewN, Nat.add_assoc]
theorem getz {zs : List Int} {k : Nat} (h : k < zs.length) : zs.getD k 0 ∈ zs := by
  rw [List.getD_eq_getElem?_getD, List.getElem?_eq_getElem h]; exact List.getElem_mem _
theorem take_ne {a b : List Int} {k : Nat} (ha : k < a.length) (hb : k < b.length) (h : a.getD k 0 ≠ b.getD k 0) : a ≠ b := by
  rintro rfl; exact h rfl
theorem ints_own {w : World} {B : Nat} {v : Value} {l : List Int} (h : w.ownsRow B 3 1 v l.length (l.map vz)) : IntsO w v l := by
  obtain ⟨h1, h2⟩ := h
  rcases h2 with ⟨rfl, h0⟩ | ⟨g, cap, cur, rfl, hg, hh, hn, hcap, hsz, htake⟩
  · exact ⟨none, 0, by rw [h0], fun k hk => by omega⟩
  · refine ⟨_, cap, rfl, fun k hk => ⟨g, 0, rfl, ?_⟩⟩
    have : cur[k]? = some (.int .i64 (l.getD k 0)) := by
      have e : (cur.toList.take (l.length * 1))[k]? = (l.map vz)[k]? := by rw [htake]
      rw [List.getElem?_take_of_lt (by omega), List.getElem?_map, List.getElem?_eq_getElem hk] at e
      rw [← Array.getElem?_toList, e]
      simp [vz, List.getD, hk]
    rw [Nat.zero_add]
    simp [World.cell?, hh, this]
/-- The places of a set, as ints. -/
def zsOf (s : Nat → Bool) : List Int := (vsTo s 12).map fun (u : Nat) => (u : Int)
theorem ints_list {w : World} {B : Nat} {v : Value} {s : Nat → Bool} (h : w.ownsRow B 3 1 v (vsTo s 12).length ((vsTo s 12).map ik)) : IntsO w v (zsOf s) := by
  refine ints_own (B := B) ?_
  have e : (zsOf s).map vz = (vsTo s 12).map ik := by unfold zsOf; rw [List.map_map]; rfl
  rw [e]; simpa [zsOf] using h
set_option maxRecDepth 100000 in
theorem ints_any {a b : Value} {za zb : List Int} {w : World} (ha : IntsO w a za) (hb : IntsO w b zb) (hl : za.length ≤ 100000) :
    Calls Try.prog 27 #[a, b] w fun e w' => e = .returned (.bool (decide (za = zb))) ∧ ∃ n, w' = w.drewN n := by
  obtain ⟨A, cap, rfl, hca⟩ := ha
  obtain ⟨A', cap', rfl, hcb⟩ := hb
  obtain ⟨D, hD⟩ : ∃ D, Keep (decide (za = zb) = D) := ⟨_, ⟨rfl⟩⟩
  rw [hD.out]
  go_enter Try.func27, Try.ntmps27
  by_cases hlen : ¬ za.length = zb.length
  · have hd : decide (za = zb) = false := decide_eq_false (fun e => hlen (by rw [e]))
    have hne : ((za.length : Int) == (zb.length : Int)) = false := by
      rw [beq_eq_false_iff_ne]; intro h; exact hlen (by omega)
    clear hca hcb
    go_wp2
    go_ret
    exact ⟨by rw [← hD.out, hd]; rfl, 0, rfl⟩
  have hlen : za.length = zb.length := by omega
  rw [← hlen] at hcb ⊢
  go_wp2
  go_loopw [5] (fun i wr => (∃ k : Nat, k ≤ za.length ∧ i = .int .i64 k ∧ za.take k = zb.take k) ∧ ∃ n, wr = w.drewN n) (fun i _ => za.length - (intOf i).toNat)
  case atStart => exact ⟨⟨0, by omega, rfl, by simp⟩, 0, rfl⟩
  case round =>
    obtain ⟨⟨k, hk, rfl, htk⟩, n, rfl⟩ := hrel
    by_cases hlt : k < za.length
    · obtain ⟨g, o, rfl, h1⟩ := hca k hlt
      obtain ⟨g', o', rfl, h2⟩ := hcb k hlt
      have hlt' : k < zb.length := by omega
      clear hca hcb
      by_cases he : za.getD k 0 = zb.getD k 0
      · have htk' : za.take (k + 1) = zb.take (k + 1) := by rw [takez hlt, takez hlt', htk, he]
        rw [← he] at h2
        clear he htk
        generalize za.getD k 0 = z at h1 h2
        have hzz : (z != z) = false := by simp
        go_wp2
        go_quiet (fail)
        go_wp2
        exact ⟨⟨⟨k + 1, by omega, by go_num, htk'⟩, n + nq, by first | rfl | exact drewN_add _ _ _⟩, by simp [intOf]; omega⟩
      · have hd : decide (za = zb) = false := decide_eq_false (take_ne hlt hlt' he)
        have he' : (za.getD k 0 == zb.getD k 0) = false := by simpa using he
        clear he htk
        generalize za.getD k 0 = z at h1 he'
        generalize zb.getD k 0 = z' at h2 he'
        have hzz : (z != z') = true := by simpa [bne] using he'
        go_wp2
        go_quiet (fail)
        go_wp2
        go_ret
        exact ⟨by rw [← hD.out, hd]; rfl, n + nq, by first | rfl | exact drewN_add _ _ _⟩
    · have : k = za.length := by omega
      subst this
      have hd : decide (za = zb) = true := decide_eq_true (by rw [List.take_length, hlen, List.take_length] at htk; exact htk)
      clear htk
      go_wp2
      go_ret
      exact ⟨by rw [← hD.out, hd]; rfl, n, rfl⟩
end Go.Proofs.Yteekigpdiklppaa
set_option linter.unusedSimpArgs false
set_option linter.unusedVariables false
namespace Go.Proofs.Yteekigpdiklppaa
open Go Go.Proofs Go.RowKit Go.Seq
attribute [local go_sem] Oper.semAt_some
theorem gr_path : GrOk (4 : Nat) path4 := ⟨by decide, by decide, fun k hk => by
  have hk : k < 3 := hk
  match k, hk with
  | 0, _ => exact ⟨by decide, by decide, by decide, by decide, by decide, by decide⟩
  | 1, _ => exact ⟨by decide, by decide, by decide, by decide, by decide, by decide⟩
  | 2, _ => exact ⟨by decide, by decide, by decide, by decide, by decide, by decide⟩⟩
theorem gr_square : GrOk (4 : Nat) square4 := ⟨by decide, by decide, fun k hk => by
  have hk : k < 4 := hk
  match k, hk with
  | 0, _ => exact ⟨by decide, by decide, by decide, by decide, by decide, by decide⟩
  | 1, _ => exact ⟨by decide, by decide, by decide, by decide, by decide, by decide⟩
  | 2, _ => exact ⟨by decide, by decide, by decide, by decide, by decide, by decide⟩
  | 3, _ => exact ⟨by decide, by decide, by decide, by decide, by decide, by decide⟩⟩
theorem gr_tri : GrOk (3 : Nat) tri3 := ⟨by decide, by decide, fun k hk => by
  have hk : k < 3 := hk
  match k, hk with
  | 0, _ => exact ⟨by decide, by decide, by decide, by decide, by decide, by decide⟩
  | 1, _ => exact ⟨by decide, by decide, by decide, by decide, by decide, by decide⟩
  | 2, _ => exact ⟨by decide, by decide, by decide, by decide, by decide, by decide⟩⟩
theorem pairs_path {W : World} {g c : Nat} (h : W.heap[g]? = some (.cells #[.int .i64 0, .int .i64 1, .int .i64 1, .int .i64 2, .int .i64 2, .int .i64 3] 63 (0, 0))) : PairsOf W (.slice (some ⟨g, 0, none⟩) 3 c) path4 := ⟨_, _, rfl, fun k hk => ⟨g, rfl, by
  have hk : k < 3 := hk
  match k, hk with
  | 0, _ => exact ⟨by simp [World.cell?, h, path4], by simp [World.cell?, h, path4]⟩
  | 1, _ => exact ⟨by simp [World.cell?, h, path4], by simp [World.cell?, h, path4]⟩
  | 2, _ => exact ⟨by simp [World.cell?, h, path4], by simp [World.cell?, h, path4]⟩⟩⟩
theorem pairs_square {W : World} {g c : Nat} (h : W.heap[g]? = some (.cells #[.int .i64 0, .int .i64 1, .int .i64 1, .int .i64 2, .int .i64 2, .int .i64 3, .int .i64 0, .int .i64 3] 63 (0, 0))) : PairsOf W (.slice (some ⟨g, 0, none⟩) 4 c) square4 := ⟨_, _, rfl, fun k hk => ⟨g, rfl, by
  have hk : k < 4 := hk
  match k, hk with
  | 0, _ => exact ⟨by simp [World.cell?, h, square4], by simp [World.cell?, h, square4]⟩
  | 1, _ => exact ⟨by simp [World.cell?, h, square4], by simp [World.cell?, h, square4]⟩
  | 2, _ => exact ⟨by simp [World.cell?, h, square4], by simp [World.cell?, h, square4]⟩
  | 3, _ => exact ⟨by simp [World.cell?, h, square4], by simp [World.cell?, h, square4]⟩⟩⟩
theorem pairs_tri {W : World} {g c : Nat} (h : W.heap[g]? = some (.cells #[.int .i64 0, .int .i64 1, .int .i64 1, .int .i64 2, .int .i64 0, .int .i64 2] 63 (0, 0))) : PairsOf W (.slice (some ⟨g, 0, none⟩) 3 c) tri3 := ⟨_, _, rfl, fun k hk => ⟨g, rfl, by
  have hk : k < 3 := hk
  match k, hk with
  | 0, _ => exact ⟨by simp [World.cell?, h, tri3], by simp [World.cell?, h, tri3]⟩
  | 1, _ => exact ⟨by simp [World.cell?, h, tri3], by simp [World.cell?, h, tri3]⟩
  | 2, _ => exact ⟨by simp [World.cell?, h, tri3], by simp [World.cell?, h, tri3]⟩⟩⟩
theorem ints_one {W : World} {g c : Nat} (a : Int) (h : W.heap[g]? = some (.cells #[.int .i64 a] 3 (0, 0))) : IntsO W (.slice (some ⟨g, 0, none⟩) 1 c) [a] := ⟨_, _, rfl, fun k hk => ⟨g, 0, rfl, by
  have hk : k < 1 := hk
  match k, hk with
  | 0, _ => simp [World.cell?, h]⟩⟩
theorem ints_two {W : World} {g c : Nat} (a b : Int) (h : W.heap[g]? = some (.cells #[.int .i64 a, .int .i64 b] 3 (0, 0))) : IntsO W (.slice (some ⟨g, 0, none⟩) 2 c) [a, b] := ⟨_, _, rfl, fun k hk => ⟨g, 0, rfl, by
  have hk : k < 2 := hk
  match k, hk with
  | 0, _ => simp [World.cell?, h]
  | 1, _ => simp [World.cell?, h]⟩⟩
theorem list_zero : ListOk (4 : Nat) [0] := ⟨fun k hk => by
  have hk : k < 1 := hk
  match k, hk with
  | 0, _ => exact ⟨by decide, by decide, by decide⟩⟩
theorem below_dn' {B : Nat} {w0 W : World} (h : Below B w0 W) (n : Nat) : Below B w0 (W.drewN n) := h.trans ⟨rfl, rfl, rfl, Nat.le_refl _, fun _ _ => rfl⟩
set_option maxHeartbeats 4000000 in
set_option maxRecDepth 100000 in
theorem awake_w (w : World) : Calls Try.prog 23 #[] w fun e w' => e = .returned (.bool true) ∧ Below w.heap.size w w' := by
  obtain ⟨wa, hwa⟩ : ∃ wa, w.alloc (.cells #[.int .i64 0, .int .i64 1, .int .i64 1, .int .i64 2, .int .i64 2, .int .i64 3] 63) = wa := ⟨_, rfl⟩
  obtain ⟨wb, hwb⟩ : ∃ wb, wa.alloc (.cells #[.int .i64 0, .int .i64 1, .int .i64 1, .int .i64 2, .int .i64 2, .int .i64 3, .int .i64 0, .int .i64 3] 63) = wb := ⟨_, rfl⟩
  have sa : wa.heap.size = w.heap.size + 1 := by rw [← hwa]; simp
  have sb : wb.heap.size = w.heap.size + 2 := by rw [← hwb]; simp [sa]
  have ba : Below w.heap.size w wa := by rw [← hwa]; exact (Below.refl _ _).alloc (Nat.le_refl _) _
  have bb : Below wa.heap.size wa wb := by rw [← hwb]; exact (Below.refl _ _).alloc (Nat.le_refl _) _
  have fa : wa.heap[w.heap.size]? = some (.cells #[.int .i64 0, .int .i64 1, .int .i64 1, .int .i64 2, .int .i64 2, .int .i64 3] 63 (0, 0)) := by rw [← hwa]; exact World.alloc_heap_new w _
  have fb : wb.heap[w.heap.size + 1]? = some (.cells #[.int .i64 0, .int .i64 1, .int .i64 1, .int .i64 2, .int .i64 2, .int .i64 3, .int .i64 0, .int .i64 3] 63 (0, 0)) := by rw [← sa, ← hwb]; exact World.alloc_heap_new wa _
  have fa2 := (bb.block _ (by omega)).trans fa
  have hP : Keep (∀ W c, Below wb.heap.size wb W → PairsOf W (.slice (some ⟨w.heap.size, 0, none⟩) 3 c) path4) := ⟨fun W c hb => pairs_path ((hb.block _ (by omega)).trans fa2)⟩
  have hS : Keep (∀ W c, Below wb.heap.size wb W → PairsOf W (.slice (some ⟨w.heap.size + 1, 0, none⟩) 4 c) square4) := ⟨fun W c hb => pairs_square ((hb.block _ (by omega)).trans fb)⟩
  have bw := Keep.mk (ba.trans (bb.mono ba.size))
  clear fa fb fa2 ba bb
  have q34p : Keep (∀ W c, Below wb.heap.size wb W → Calls Try.prog 34 #[.int .i64 4, .slice (some ⟨w.heap.size, 0, none⟩) 3 c] W fun e w' => ∃ lv, e = .returned (.tuple #[lv, .int .i64 0]) ∧ (∃ B, w'.ownsRow B 3 1 lv 1 [.int .i64 0]) ∧ Below W.heap.size W w') := ⟨fun W c hb => (Least_yes (kfOf _) (hP.out W c hb) gr_path (by decide) (stops_kf (infl_force _))).mono fun e w' ⟨lv, h1, h2, h3⟩ => ⟨lv, h1, by
    unfold ListV at h2
    rw [isW_eq (infl_force _), aw_least_path] at h2
    exact ⟨_, h2⟩, h3⟩⟩
  have q34s : Keep (∀ W c, Below wb.heap.size wb W → Calls Try.prog 34 #[.int .i64 4, .slice (some ⟨w.heap.size + 1, 0, none⟩) 4 c] W fun e w' => ∃ lv, e = .returned (.tuple #[lv, .int .i64 0]) ∧ (∃ B, w'.ownsRow B 3 1 lv 2 [.int .i64 0, .int .i64 1]) ∧ Below W.heap.size W w') := ⟨fun W c hb => (Least_yes (kfOf _) (hS.out W c hb) gr_square (by decide) (stops_kf (infl_force _))).mono fun e w' ⟨lv, h1, h2, h3⟩ => ⟨lv, h1, by
    unfold ListV at h2
    rw [isW_eq (infl_force _), aw_least_square] at h2
    exact ⟨_, h2⟩, h3⟩⟩
  have q39 : Keep (∀ W c, Below wb.heap.size wb W → Calls Try.prog 39 #[.int .i64 4, .slice (some ⟨w.heap.size + 1, 0, none⟩) 4 c, .int .i64 2] W fun e w' => ∃ lv, e = .returned (.tuple #[lv, .int .i64 0]) ∧ (∃ B, w'.ownsRow B 3 1 lv 2 [.int .i64 0, .int .i64 2]) ∧ Below W.heap.size W w') := ⟨fun W c hb => (Fewest_yes (r := 2) (kfOf _) (hS.out W c hb) gr_square (by decide) (by decide) (by decide) (stops_kf (infl_soak _ _ _))).mono fun e w' ⟨lv, h1, h2, h3⟩ => ⟨lv, h1, by
    unfold ListV at h2
    rw [isW_eq (infl_soak _ _ _), aw_fewest] at h2
    exact ⟨_, h2⟩, h3⟩⟩
  have q19 : Keep (∀ W c v2, Below wb.heap.size wb W → IntsO W v2 [0] → Calls Try.prog 19 #[.int .i64 4, .slice (some ⟨w.heap.size, 0, none⟩) 3 c, v2] W fun e w' => ∃ lv, e = .returned (.tuple #[lv, .int .i64 3, .int .i64 0]) ∧ Below W.heap.size W w') := ⟨fun W c v2 hb h2 => (close_yes (hP.out W c hb) gr_path (by decide) h2 list_zero (by decide) aw_close_path).mono fun e w' ⟨lv, h1, _, h3⟩ => ⟨lv, h1, h3⟩⟩
  have q35 : Keep (∀ W v, PairsOf W v tri3 → Calls Try.prog 35 #[.int .i64 3, v] W fun e w' => ∃ A c, e = .returned (.tuple #[.slice A 3 c, .int .i64 0]) ∧ Below W.heap.size W w') := ⟨fun W v hv => (Forts_yes hv gr_tri (by decide)).mono fun e w' ⟨lv, svs, h1, h2, h3⟩ => by
    obtain ⟨A, c, rfl, _⟩ := slice_of_row h2.row
    rw [aw_forts] at h1
    exact ⟨A, c, h1, h3⟩⟩
  clear hP hS
  have q27 := fun (a b : Value) (za zb : List Int) (W : World) (ha : IntsO W a za) (hb : IntsO W b zb) (hl : za.length ≤ 100000) => ints_any ha hb hl
  have q27k := Keep.mk q27
  clear q27
  have hbz : Below wb.heap.size wb wb := Below.refl _ _
  have qa := q34p.out wb
  go_enter Try.func23, Try.ntmps23
  go_wp2_with (first
    | (go_at_call 34; (with_reducible refine (qa _ (Below.refl _ _)).mono ?_); rintro e w1 ⟨l1, rfl, ⟨B1, h1⟩, hb1⟩; clear qa
       have i1 := ints_own (l := [0]) h1
       obtain ⟨w2, hw2⟩ : ∃ w2, w1.alloc (.cells #[.int .i64 0] 3) = w2 := ⟨_, rfl⟩
       have b2 : Below w1.heap.size w1 w2 := by rw [← hw2]; exact (Below.refl _ _).alloc (Nat.le_refl _) _
       have c2 : w2.heap[w1.heap.size]? = some (.cells #[.int .i64 0] 3 (0, 0)) := by rw [← hw2]; exact World.alloc_heap_new w1 _
       have B2 := hb1.trans (b2.mono hb1.size)
       have qb := fun c => q19.out w2 c (.slice (some ⟨w1.heap.size, 0, none⟩) 1 1) B2 (ints_one 0 c2)
       have k1 := Keep.mk (And.intro (intsO_below i1 b2) B2)
       clear h1 i1 b2 c2 B2 hb1)
    | (go_at_call 19; (with_reducible refine (qb _).mono ?_); rintro e w3 ⟨l5, rfl, hb3⟩; clear qb
       have k3 := Keep.mk (And.intro (intsO_below k1.out.1 hb3) (k1.out.2.trans (hb3.mono k1.out.2.size)))
       have qc := fun c => q39.out w3 c k3.out.2
       clear hb3 k1)
    | (go_at_call 39; (with_reducible refine (qc _).mono ?_); rintro e w4 ⟨l8, rfl, ⟨B4, h4⟩, hb4⟩; clear qc
       have i4 := ints_own (l := [0, 2]) h4
       have k4 := Keep.mk (And.intro (intsO_below k3.out.1 hb4) (And.intro i4 (k3.out.2.trans (hb4.mono k3.out.2.size))))
       have qd := fun c => q34s.out w4 c k4.out.2.2
       clear h4 i4 hb4 k3)
    | (go_at_call 34; (with_reducible refine (qd _).mono ?_); rintro e w5 ⟨l10, rfl, ⟨B5, h5⟩, hb5⟩; clear qd
       have i5 := ints_own (l := [0, 1]) h5
       obtain ⟨w6, hw6⟩ : ∃ w6, w5.alloc (.cells #[.int .i64 0, .int .i64 1, .int .i64 1, .int .i64 2, .int .i64 0, .int .i64 2] 63) = w6 := ⟨_, rfl⟩
       have b6 : Below w5.heap.size w5 w6 := by rw [← hw6]; exact (Below.refl _ _).alloc (Nat.le_refl _) _
       have c6 : w6.heap[w5.heap.size]? = some (.cells #[.int .i64 0, .int .i64 1, .int .i64 1, .int .i64 2, .int .i64 0, .int .i64 2] 63 (0, 0)) := by rw [← hw6]; exact World.alloc_heap_new w5 _
       have b56 := hb5.trans (b6.mono hb5.size)
       have k6 := Keep.mk (And.intro (intsO_below k4.out.1 b56) (And.intro (intsO_below k4.out.2.1 b56) (And.intro (intsO_below i5 b6) (k4.out.2.2.trans (b56.mono k4.out.2.2.size)))))
       have qe := fun c => q35.out w6 (.slice (some ⟨w5.heap.size, 0, none⟩) 3 c) (pairs_tri c6)
       clear h5 i5 b6 c6 b56 hb5 k4)
    | (go_at_call 35; (with_reducible refine (qe _).mono ?_); rintro e w7 ⟨A7, c7, rfl, hb7⟩; clear qe
       obtain ⟨w8, hw8⟩ : ∃ w8, w7.alloc (.cells #[.int .i64 0] 3) = w8 := ⟨_, rfl⟩
       have b8 : Below w7.heap.size w7 w8 := by rw [← hw8]; exact (Below.refl _ _).alloc (Nat.le_refl _) _
       have c8 : w8.heap[w7.heap.size]? = some (.cells #[.int .i64 0] 3 (0, 0)) := by rw [← hw8]; exact World.alloc_heap_new w7 _
       have b78 := hb7.trans (b8.mono hb7.size)
       have k8 := Keep.mk (And.intro (intsO_below k6.out.1 b78) (And.intro (intsO_below k6.out.2.1 b78) (And.intro (intsO_below k6.out.2.2.1 b78) (k6.out.2.2.2.trans (b78.mono k6.out.2.2.2.size)))))
       have qf := q27k.out _ (.slice (some ⟨w7.heap.size, 0, none⟩) 1 1) _ _ w8 k8.out.1 (ints_one 0 c8) (by decide)
       rw [show decide (([0] : List Int) = [0]) = true by decide] at qf
       clear b8 c8 b78 hb7 k6)
    | (go_at_call 27; (with_reducible refine qf.mono ?_); rintro e w9 ⟨rfl, n9, hn9⟩; clear qf
       obtain ⟨wx, hwx⟩ : ∃ wx, w9.alloc (.cells #[.int .i64 0, .int .i64 2] 3) = wx := ⟨_, rfl⟩
       have b9 : Below w8.heap.size w8 w9 := by rw [hn9]; exact below_dn w8 n9
       have bx : Below w9.heap.size w9 wx := by rw [← hwx]; exact (Below.refl _ _).alloc (Nat.le_refl _) _
       have cx : wx.heap[w9.heap.size]? = some (.cells #[.int .i64 0, .int .i64 2] 3 (0, 0)) := by rw [← hwx]; exact World.alloc_heap_new w9 _
       have b9x := b9.trans (bx.mono b9.size)
       have kx := Keep.mk (And.intro (intsO_below k8.out.2.1 b9x) (And.intro (intsO_below k8.out.2.2.1 b9x) (k8.out.2.2.2.trans (b9x.mono k8.out.2.2.2.size))))
       have qg := q27k.out _ (.slice (some ⟨w9.heap.size, 0, none⟩) 2 2) _ _ wx kx.out.1 (ints_two 0 2 cx) (by decide)
       rw [show decide (([0, 2] : List Int) = [0, 2]) = true by decide] at qg
       clear b9 bx cx b9x hn9 k8)
    | (go_at_call 27; (with_reducible refine qg.mono ?_); rintro e wy ⟨rfl, ny, hny⟩; clear qg
       obtain ⟨wz, hwz⟩ : ∃ wz, wy.alloc (.cells #[.int .i64 0, .int .i64 1] 3) = wz := ⟨_, rfl⟩
       have b9 : Below wx.heap.size wx wy := by rw [hny]; exact below_dn wx ny
       have bx : Below wy.heap.size wy wz := by rw [← hwz]; exact (Below.refl _ _).alloc (Nat.le_refl _) _
       have cx : wz.heap[wy.heap.size]? = some (.cells #[.int .i64 0, .int .i64 1] 3 (0, 0)) := by rw [← hwz]; exact World.alloc_heap_new wy _
       have b9x := b9.trans (bx.mono b9.size)
       have kz := Keep.mk (And.intro (intsO_below kx.out.2.1 b9x) (kx.out.2.2.trans (b9x.mono kx.out.2.2.size)))
       have qh := q27k.out _ (.slice (some ⟨wy.heap.size, 0, none⟩) 2 2) _ _ wz kz.out.1 (ints_two 0 1 cx) (by decide)
       rw [show decide (([0, 1] : List Int) = [0, 1]) = true by decide] at qh
       clear b9 bx cx b9x hny kx)
    | (go_at_call 27; (with_reducible refine qh.mono ?_); rintro e wv ⟨rfl, nv, hnv⟩; clear qh
       have kv := Keep.mk (below_dn' kz.out.2 nv)
       rw [← hnv] at kv
       clear hnv))
  go_ret
  exact ⟨rfl, bw.out.trans (kv.out.mono bw.out.size)⟩
end Go.Proofs.Yteekigpdiklppaa
set_option linter.unusedSimpArgs false
set_option linter.unusedVariables false
namespace Go.Proofs.Yteekigpdiklppaa
open Go Go.Proofs Go.RowKit Go.Seq
theorem or_i64 (a b : Nat) (ha : a < 4294967296) (hb : b < 4294967296) : bits .or .i64 (a : Int) (b : Int) = ((a ||| b : Nat) : Int) := by
  have hx : a ||| b < 2 ^ 32 := Nat.or_lt_two_pow (by omega) (by omega)
  have h1 : (BitVec.ofInt 64 (a : Int)).toNat = a := by
    rw [BitVec.ofInt_natCast, BitVec.toNat_ofNat]; exact Nat.mod_eq_of_lt (by omega)
  have h2 : (BitVec.ofInt 64 (b : Int)).toNat = b := by
    rw [BitVec.ofInt_natCast, BitVec.toNat_ofNat]; exact Nat.mod_eq_of_lt (by omega)
  show IntKind.i64.wrap ((BitVec.ofInt 64 (a : Int) ||| BitVec.ofInt 64 (b : Int)).toNat : Int) = _
  rw [BitVec.toNat_or, h1, h2, IntKind.wrap_i64]
  omega
theorem and_i64 (a b : Nat) (ha : a < 4294967296) (hb : b < 4294967296) : bits .and .i64 (a : Int) (b : Int) = ((a &&& b : Nat) : Int) := by
  have hx : a &&& b < 2 ^ 32 := Nat.and_lt_two_pow _ (by omega)
  have h1 : (BitVec.ofInt 64 (a : Int)).toNat = a := by
    rw [BitVec.ofInt_natCast, BitVec.toNat_ofNat]; exact Nat.mod_eq_of_lt (by omega)
  have h2 : (BitVec.ofInt 64 (b : Int)).toNat = b := by
    rw [BitVec.ofInt_natCast, BitVec.toNat_ofNat]; exact Nat.mod_eq_of_lt (by omega)
  show IntKind.i64.wrap ((BitVec.ofInt 64 (a : Int) &&& BitVec.ofInt 64 (b : Int)).toNat : Int) = _
  rw [BitVec.toNat_and, h1, h2, IntKind.wrap_i64]
  omega
/-- A set as a number. -/
def numTo (s : Nat → Bool) : Nat → Nat
  | 0 => 0
  | k + 1 => numTo s k ||| (if s k = true then 2 ^ k else 0)
theorem numTo_bit (s : Nat → Bool) (p : Nat) : ∀ k, (numTo s k).testBit p = (decide (p < k) && s p)
  | 0 => by simp [numTo]
  | k + 1 => by
    unfold numTo
    rw [Nat.testBit_or, numTo_bit s p k]
    by_cases hk : s k = true
    · rw [if_pos hk, Nat.testBit_two_pow]
      by_cases e : p = k
      · subst e; simp [hk]
      · have e' : ¬ k = p := fun h => e h.symm
        simp only [e', decide_false, Bool.or_false]
        congr 1
        rw [Bool.eq_iff_iff, decide_eq_true_iff, decide_eq_true_iff]; omega
    · rw [if_neg hk, Nat.zero_testBit, Bool.or_false]
      by_cases e : p = k
      · subst e; simp at hk; simp [hk]
      · congr 1
        rw [Bool.eq_iff_iff, decide_eq_true_iff, decide_eq_true_iff]; omega
def num (s : Nat → Bool) : Nat := numTo s 12
theorem num_bit (s : Nat → Bool) (p : Nat) : (num s).testBit p = (decide (p < 12) && s p) := numTo_bit s p 12
theorem num_lt (s : Nat → Bool) : num s < 4096 := Nat.lt_pow_two_of_testBit (n := 12) _ fun p hp => by rw [num_bit]; simp; omega
theorem num_ext {s t : Nat → Bool} (h : ∀ j, j < 12 → s j = t j) : num s = num t := Nat.eq_of_testBit_eq fun p => by
  rw [num_bit, num_bit]
  by_cases hp : p < 12
  · rw [h p hp]
  · simp [hp]
theorem num_inj {s t : Nat → Bool} (h : num s = num t) : ∀ j, j < 12 → s j = t j := fun j hj => by
  have := num_bit s j
  rw [h, num_bit] at this
  simpa [hj] using this.symm
theorem num_or (s : Nat → Bool) (u : Nat) (hu : u < 12) : num s ||| 2 ^ u = num (adds s u) := Nat.eq_of_testBit_eq fun p => by
  rw [Nat.testBit_or, num_bit, num_bit, Nat.testBit_two_pow]
  unfold adds
  by_cases e : p = u
  · subst e; simp [hu]
  · have e' : ¬ u = p := fun h => e h.symm
    simp [e, e']
theorem num_zero : num (fun _ => false) = 0 := Nat.eq_of_testBit_eq fun p => by rw [num_bit]; simp
theorem num_diff (s t : Nat → Bool) : bits .andNot .i64 (num s : Int) (num t : Int) = ((num (fun j => s j && !t j) : Nat) : Int) := by
  have hs := num_lt s
  have ht := num_lt t
  have hx := num_lt (fun j => s j && !t j)
  have h1 : (BitVec.ofInt 64 (num s : Int)).toNat = num s := by
    rw [BitVec.ofInt_natCast, BitVec.toNat_ofNat]; exact Nat.mod_eq_of_lt (by omega)
  have e : (BitVec.ofInt 64 (num s : Int) &&& ~~~ BitVec.ofInt 64 (num t : Int)).toNat = num (fun j => s j && !t j) := Nat.eq_of_testBit_eq fun p => by
    rw [BitVec.toNat_and, Nat.testBit_and, h1, num_bit, num_bit]
    by_cases hp : p < 12
    · have h2 : (~~~ BitVec.ofInt 64 (num t : Int)).toNat.testBit p = !t p := by
        rw [← BitVec.getLsbD, BitVec.getLsbD_not, BitVec.ofInt_natCast, BitVec.getLsbD_ofNat, num_bit]
        have hp64 : p < 64 := by omega
        simp [hp, hp64]
      rw [h2]
      simp [hp]
    · simp [hp]
  show IntKind.i64.wrap ((BitVec.ofInt 64 (num s : Int) &&& ~~~ BitVec.ofInt 64 (num t : Int)).toNat : Int) = _
  rw [e, IntKind.wrap_i64]
  omega
theorem num_sub {s t : Nat → Bool} : num (fun j => s j && !t j) = 0 ↔ ∀ j, j < 12 → s j = true → t j = true := by
  rw [← num_zero]
  constructor
  · intro h j hj hs
    have := num_inj h j hj
    rw [hs] at this
    simpa using this
  · intro h
    refine num_ext fun j hj => ?_
    cases hs : s j with
    | false => rfl
    | true => simp [h j hj hs]
def setN (m : Nat) (j : Nat) : Bool := m.testBit j
theorem num_setN {m : Nat} (hm : m < 4096) : num (setN m) = m := Nat.eq_of_testBit_eq fun p => by
  rw [num_bit]
  unfold setN
  by_cases hp : p < 12
  · simp [hp]
  · have : m.testBit p = false := Nat.testBit_lt_two_pow (Nat.lt_of_lt_of_le hm (by
      have : (4096 : Nat) = 2 ^ 12 := rfl
      rw [this]; exact Nat.pow_le_pow_right (by omega) (by omega)))
    simp [hp, this]
theorem setOf_zsOf (s : Nat → Bool) {j : Nat} (hj : j < 12) : setOf (zsOf s) j = s j := by
  unfold setOf zsOf
  rw [List.any_map, Bool.eq_iff_iff, List.any_eq_true]
  constructor
  · rintro ⟨u, hu, he⟩
    have : u = j := by simp at he; omega
    subst this
    exact (vsTo_lt hu).2
  · intro hs
    refine ⟨j, ?_, by simp⟩
    unfold vsTo
    rw [List.mem_filter]
    exact ⟨by simpa using hj, hs⟩
def modN (x : Int) (m : Nat) : Nat := (IntKind.u64.wrap x).toNat % m
theorem modN_lt (x : Int) {m : Nat} (h : 1 ≤ m) : modN x m < m := Nat.mod_lt _ (by omega)
theorem mod_any (x : Int) {m : Nat} (h1 : 1 ≤ m) (h2 : m ≤ 1000000000) (w : World) :
    Calls Try.prog 53 #[.int .i64 x, .int .i64 m] w fun e w' => e = .returned (.int .i64 (modN x m : Nat)) ∧ w' = w := by
  obtain ⟨q, hq⟩ : ∃ q : Nat, IntKind.u64.wrap x = (q : Int) ∧ q < 18446744073709551616 := by
    have : IntKind.u64.wrap x = x % 18446744073709551616 := rfl
    exact ⟨(x % 18446744073709551616).toNat, by rw [this]; omega, by omega⟩
  obtain ⟨hq1, hq2⟩ := hq
  have hmod : modN x m = q % m := by unfold modN; rw [hq1]; rfl
  rw [hmod]
  have e2 : IntKind.u64.wrap (m : Int) = (m : Int) := IntWalk.u64_in _ (by omega)
  have hm0 : ((m : Int) == 0) = false := by rw [beq_eq_false_iff_ne]; omega
  have hm : q % m < m := Nat.mod_lt _ (by omega)
  obtain ⟨r, hr⟩ : ∃ r, Keep (q % m = r) := ⟨_, ⟨rfl⟩⟩
  have hw : IntKind.u64.wrap ((q : Int).tmod (m : Int)) = (r : Int) := by
    rw [← hr.out, IntWalk.up_tmod rfl rfl, IntWalk.u64_in _ (by omega)]
  rw [hr.out] at hm ⊢
  have e4 : IntKind.i64.wrap (r : Int) = (r : Int) := IntWalk.i64_in _ (by omega)
  have e5 : wrap64 ((q : Int) % (m : Int)) = (r : Int) := by
    have : ((q : Int) % (m : Int)) = (r : Int) := by rw [← hr.out]; rfl
    rw [this]; unfold wrap64; omega
  have hmz : ¬ m = 0 := by omega
  clear hm h1 h2 hq2 hmod
  go_enter Try.func53, Try.ntmps53
  go_wp2
  go_ret
  exact ⟨by simp [e5], rfl⟩
end Go.Proofs.Yteekigpdiklppaa
set_option linter.unusedSimpArgs false
set_option linter.unusedVariables false
namespace Go.Proofs.Yteekigpdiklppaa
open Go Go.Proofs Go.RowKit Go.Seq
attribute [local go_sem] Oper.semAt_some
theorem setOf_take (zs : List Int) {k u : Nat} (hk : k < zs.length) (hu : zs.getD k 0 = (u : Int)) : setOf (zs.take (k + 1)) = adds (setOf (zs.take k)) u := by
  funext j
  rw [takez hk, hu, setOf_push]
  unfold adds
  by_cases e : j = u
  · simp [e]
  · simp [e]
theorem wrap_pow {u : Nat} (hu : u < 13) : IntKind.i64.wrap (2 ^ u) = ((2 ^ u : Nat) : Int) := by
  have : u = 0 ∨ u = 1 ∨ u = 2 ∨ u = 3 ∨ u = 4 ∨ u = 5 ∨ u = 6 ∨ u = 7 ∨ u = 8 ∨ u = 9 ∨ u = 10 ∨ u = 11 ∨ u = 12 := by omega
  rcases this with h | h | h | h | h | h | h | h | h | h | h | h | h <;> subst h <;> rfl
theorem pow_lt {u : Nat} (hu : u < 13) : 2 ^ u ≤ 4096 := by
  have : (4096 : Nat) = 2 ^ 12 := rfl
  rw [this]; exact Nat.pow_le_pow_right (by omega) (by omega)
set_option maxHeartbeats 1000000 in
set_option maxRecDepth 100000 in
theorem set_any {v : Value} {zs : List Int} {w : World} (hv : IntsO w v zs) (hz : ∀ k, k < zs.length → 0 ≤ zs.getD k 0 ∧ zs.getD k 0 < 12) (hl : zs.length ≤ 100000) :
    Calls Try.prog 26 #[v] w fun e w' => e = .returned (.int .i64 (num (setOf zs))) ∧ w' = w := by
  obtain ⟨A, cap, rfl, hc⟩ := hv
  have hck := Keep.mk hc
  have hzk := Keep.mk hz
  obtain ⟨m, hm⟩ : ∃ m, Keep (zs.length = m) := ⟨_, ⟨rfl⟩⟩
  rw [hm.out] at hl hck hzk ⊢
  clear hc hz
  go_enter Try.func26, Try.ntmps26
  go_wp2
  go_loop [4, 3] (fun i o => ∃ k : Nat, k ≤ m ∧ i = .int .i64 k ∧ o = .int .i64 (num (setOf (zs.take k)) : Nat)) (fun i _ => m - (intOf i).toNat)
  case atStart => exact ⟨0, by omega, rfl, by simp [show setOf [] = fun _ => false by funext j; simp [setOf], num_zero]⟩
  case round =>
    obtain ⟨k, hk, rfl, rfl⟩ := hrel
    have hw1 : IntKind.i64.wrap ((k : Int) + 1) = (k : Int) + 1 := IntWalk.i64_in _ (by omega)
    by_cases hlt : k < m
    · have hlt' : (k : Int) < (m : Int) := by omega
      obtain ⟨g, o, rfl, c0⟩ := hck.out k hlt
      obtain ⟨z0, z1⟩ := hzk.out k hlt
      obtain ⟨u, hu⟩ : ∃ u : Nat, zs.getD k 0 = (u : Int) := ⟨(zs.getD k 0).toNat, by omega⟩
      have hpush := setOf_take zs (by rw [hm.out]; exact hlt) hu
      rw [hu] at c0 z0 z1
      have hu12 : u < 12 := by omega
      obtain ⟨P, hP⟩ : ∃ P : Nat, 2 ^ u = P := ⟨_, rfl⟩
      have hPw : IntKind.i64.wrap (2 ^ u) = (P : Int) := by rw [← hP]; exact wrap_pow (by omega)
      have hPl : P ≤ 4096 := by rw [← hP]; exact pow_lt (by omega)
      have hnl := num_lt (setOf (zs.take k))
      have hor : bits .or .i64 (num (setOf (zs.take k)) : Int) (P : Int) = ((num (setOf (zs.take (k + 1))) : Nat) : Int) := by
        rw [or_i64 _ _ (by omega) (by omega), hpush, ← hP, num_or _ _ hu12]
      have hork := Keep.mk hpush
      clear hpush hP
      generalize num (setOf (zs.take k)) = a at hor hnl
      obtain ⟨b, hb⟩ : ∃ b, num (setOf (zs.take (k + 1))) = b := ⟨_, rfl⟩
      rw [hb] at hor
      go_wp2
      exact ⟨⟨k + 1, by omega, by go_num, by rw [hb]⟩, by simp [intOf]; omega⟩
    · obtain rfl : k = m := by omega
      have hlt' : ¬ (k : Int) < (k : Int) := by omega
      go_wp2
      go_ret
      exact ⟨by simp [← hm.out], rfl⟩
theorem vsTo_stop {s : Nat → Bool} {k : Nat} (h : ∀ j, k ≤ j → s j = false) : ∀ n, k ≤ n → vsTo s n = vsTo s k
  | 0, hk => by rw [show k = 0 by omega]
  | n + 1, hk => by
    by_cases e : k = n + 1
    · rw [e]
    · rw [vsTo_succ, h n (by omega)]
      exact vsTo_stop h n (by omega)
theorem shr_i64 (m u : Nat) (hm : m < 4096) : (m : Int) / 2 ^ u = ((m / 2 ^ u : Nat) : Int) := by
  have e : ((2 : Int) ^ u) = ((2 ^ u : Nat) : Int) := by push_cast; rfl
  rw [e]; rfl
theorem bit_mod (m u : Nat) : (m / 2 ^ u % 2 = 1) ↔ m.testBit u = true := by
  rw [Nat.testBit_eq_decide_div_mod_eq, decide_eq_true_iff]
set_option maxHeartbeats 1000000 in
set_option maxRecDepth 100000 in
theorem List_any (m : Nat) (hm : m < 4096) (w : World) :
    Calls Try.prog 28 #[.int .i64 m] w fun e w' => ∃ v, e = .returned v ∧ w'.ownsRow w.heap.size 3 1 v (vsTo (setN m) 12).length ((vsTo (setN m) 12).map ik) ∧ Below w.heap.size w w' := by
  obtain ⟨i0, hi0, hz0, hz1, hz2⟩ : ∃ i, Try.prog.info? 3 = some i ∧ i.zero = some (.int .i64 0) ∧ i.size = 1 ∧ i.bytes = 8 := by
    have h := info3
    cases hI : Try.prog.info? 3 with
    | none => rw [hI] at h; cases h
    | some i =>
      rw [hI] at h
      simp only [Option.map_some, Option.some.injEq, Prod.mk.injEq] at h
      exact ⟨i, rfl, h.1, h.2.1, h.2.2⟩
  go_enter Try.func28, Try.ntmps28
  go_wp2
  go_loopw [4, 3] (fun i o wr => ∃ k : Nat, k ≤ 12 ∧ i = .int .i64 k ∧ Keep (wr.ownsRow w.heap.size 3 1 o (vsTo (setN m) k).length ((vsTo (setN m) k).map ik) ∧ Below w.heap.size w wr) ∧ ∃ A c, o = .slice A (vsTo (setN m) k).length c) (fun i _ _ => 13 - (intOf i).toNat)
  case atStart => exact ⟨0, by omega, rfl, ⟨World.ownsRow_nil _ _ _ _, Below.refl _ _⟩, _, _, rfl⟩
  case round =>
    obtain ⟨k, hk, rfl, hI, A, c, rfl⟩ := hrel
    have hw1 : IntKind.i64.wrap ((k : Int) + 1) = (k : Int) + 1 := IntWalk.i64_in _ (by omega)
    have hsh := shr_i64 m k hm
    obtain ⟨q, hq⟩ : ∃ q, m / 2 ^ k = q := ⟨_, rfl⟩
    rw [hq] at hsh
    have hk0 : ¬ (k : Int) < 0 := by omega
    by_cases hpos : 0 < q
    · have hk12 : k < 12 := by
        rcases Nat.lt_or_ge k 12 with h | h
        · exact h
        · have : 2 ^ 12 ≤ 2 ^ k := Nat.pow_le_pow_right (by omega) h
          have : m / 2 ^ k = 0 := Nat.div_eq_of_lt (by omega)
          omega
      have hpos' : (0 : Int) < (q : Int) := by omega
      have hb := bit_mod m k
      rw [hq] at hb
      have hsn : setN m k = m.testBit k := rfl
      have hl := vsTo_len (setN m) k
      have hI1 := hI.out.1
      obtain ⟨l, hll⟩ : ∃ l, (vsTo (setN m) k).length = l := ⟨_, rfl⟩
      obtain ⟨r, hr⟩ : ∃ r, q % 2 = r := ⟨_, rfl⟩
      have hrem : (q : Int).tmod 2 = (r : Int) := by rw [show (2 : Int) = ((2 : Nat) : Int) from rfl, IntWalk.up_tmod rfl rfl, hr]
      rw [hr] at hb
      by_cases hbit : r = 1
      · subst hbit
        have hs : setN m k = true := by rw [hsn]; exact hb.1 rfl
        have hsucc : vsTo (setN m) (k + 1) = vsTo (setN m) k ++ [k] := by rw [vsTo_succ, if_pos hs]
        rw [hll] at hl hI1 ⊢
        have hI1k := Keep.mk hI1
        clear hI1 hb hpos hsn
        go_wp2_with (at_builtin; refine wpList_append_own_at _ rfl _ _ 23 rfl w.heap.size 3 i0 (.int .i64 0) 1 8 ty24 hi0 hz0 hz1 hz2 rfl (by decide) _ l ((vsTo (setN m) k).map ik) rfl (hI1k.out.alloc _) ⟨wr.heap.size, 0, none⟩ 1 1 [.int .i64 k] rfl rfl (cell_one_new _ _ _) (by simp [Value.oneCell']) (by unfold maxLen; omega) (by omega) (by have := hI.out.2.size; simp; omega) ?_; intro v' w1 hown hgrow _ _
                     obtain ⟨g', cap', rfl⟩ := ownsRow_succ hown
                     have h10k := Keep.mk (And.intro hown hgrow)
                     clear hown hgrow)
        have hb10 : Below w.heap.size w w1 := hI.out.2.trans (Below.grown ((Below.refl _ wr).alloc (by have := hI.out.2.size; omega) _) h10k.out.2 (by have := hI.out.2.size; simp; omega) (fun j hj => by
          have hj' : (Value.slice A l c).ownBlock = some j := hj
          exact (hI1k.out.lt j hj').1))
        have hln : (vsTo (setN m) (k + 1)).length = l + 1 := by rw [hsucc, List.length_append, hll]; rfl
        have hmp : (vsTo (setN m) (k + 1)).map ik = (vsTo (setN m) k).map ik ++ [.int .i64 k] := by rw [hsucc, List.map_append]; rfl
        exact ⟨⟨k + 1, by omega, by go_num, ⟨by rw [hln, hmp]; exact h10k.out.1, hb10⟩, _, _, by rw [hln]⟩, by simp [intOf]; omega⟩
      · have hr0 : r = 0 := by omega
        subst hr0
        have hs : setN m k = false := by
          rw [hsn]
          cases e : m.testBit k with
          | false => rfl
          | true => exact absurd (hb.2 e) (by omega)
        have hsucc : vsTo (setN m) (k + 1) = vsTo (setN m) k := by rw [vsTo_succ, hs]; rfl
        have hIk := hI
        clear hI1 hb hpos hsn
        go_wp2
        exact ⟨⟨k + 1, by omega, by go_num, by rw [hsucc]; exact hIk, _, _, by rw [hsucc]⟩, by simp [intOf]; omega⟩
    · have hq0 : q = 0 := by omega
      subst hq0
      have hlt : m < 2 ^ k := by
        rcases Nat.lt_or_ge m (2 ^ k) with h | h
        · exact h
        · have := Nat.div_pos h (Nat.two_pow_pos k)
          omega
      have he : vsTo (setN m) 12 = vsTo (setN m) k := vsTo_stop (fun j hj => Nat.testBit_lt_two_pow (Nat.lt_of_lt_of_le hlt (Nat.pow_le_pow_right (by omega) hj))) 12 hk
      go_wp2
      refine bodyPost_ret (v := .slice A (vsTo (setN m) k).length c) (by simp [results, Try.results28, go_sem]) rfl ?_
      try rw [he]
      exact ⟨_, rfl, hI.out.1, hI.out.2⟩
/-- The set that some gives. -/
def someS (n : Nat) (x : Int) : Nat → Bool := setN (modN x (2 ^ n))
theorem someS_lt {n : Nat} (hn : n ≤ 12) (x : Int) : modN x (2 ^ n) < 4096 := by
  have h1 := modN_lt x (m := 2 ^ n) (Nat.two_pow_pos n)
  have h2 := pow_lt (u := n) (by omega)
  omega
theorem someS_in {n : Nat} (x : Int) {j : Nat} (hj : n ≤ j) : someS n x j = false :=
  Nat.testBit_lt_two_pow (Nat.lt_of_lt_of_le (modN_lt x (Nat.two_pow_pos n)) (Nat.pow_le_pow_right (by omega) hj))
set_option maxRecDepth 100000 in
theorem some_any {n : Nat} (hn : n ≤ 12) (x : Int) (w : World) :
    Calls Try.prog 51 #[.int .i64 n, .int .i64 x] w fun e w' => ∃ v, e = .returned v ∧ w'.ownsRow w.heap.size 3 1 v (vsTo (someS n x) 12).length ((vsTo (someS n x) 12).map ik) ∧ Below w.heap.size w w' := by
  obtain ⟨P, hP⟩ : ∃ P : Nat, 2 ^ n = P := ⟨_, rfl⟩
  have hPw : IntKind.i64.wrap (2 ^ n) = (P : Int) := by rw [← hP]; exact wrap_pow (by omega)
  have hPl : P ≤ 4096 := by rw [← hP]; exact pow_lt (by omega)
  have hP0 : 1 ≤ P := by rw [← hP]; exact Nat.two_pow_pos n
  have q53 := mod_any x (m := P) hP0 (by omega)
  have hml := someS_lt hn x
  unfold someS
  rw [hP] at hml ⊢
  have q28 := List_any (modN x P) hml
  obtain ⟨M, hM⟩ : ∃ M, modN x P = M := ⟨_, rfl⟩
  rw [hM] at q53 q28 ⊢
  clear hP hM hml
  have hn0 : ¬ (n : Int) < 0 := by omega
  go_enter Try.func51, Try.ntmps51
  go_wp2_with (first
    | (go_at_call 53; (with_reducible refine (q53 _).mono ?_); rintro e w5 ⟨rfl, he5⟩; rw [he5]; clear he5 w5)
    | (go_at_call 28; (with_reducible refine (q28 _).mono ?_); rintro e w6 ⟨v, rfl, hr6, hb6⟩; have h6 := Keep.mk (And.intro hr6 hb6); clear hr6 hb6))
  refine bodyPost_ret (v := v) (by simp [results, Try.results51, go_sem]) rfl ?_
  exact ⟨v, rfl, h6.out.1, h6.out.2⟩
end Go.Proofs.Yteekigpdiklppaa
set_option linter.unusedSimpArgs false
set_option linter.unusedVariables false
namespace Go.Proofs.Yteekigpdiklppaa
open Go Go.Proofs Go.RowKit Go.Seq
attribute [local go_sem] Oper.semAt_some
theorem lastZ_pos {zs : List Int} {k : Nat} (hk : k + 1 ≤ zs.length) : lastZ (zs.take (k + 1)) = zs.getD k 0 := by
  rw [takez (by omega)]; simp [lastZ]
set_option maxHeartbeats 1000000 in
set_option maxRecDepth 100000 in
theorem listed_yes {n : Nat} {v : Value} {zs : List Int} {w : World} (hv : IntsO w v zs) (hzk : ListOk n zs) (hl : zs.length ≤ 100000) :
    Calls Try.prog 64 #[.int .i64 n, v] w fun e w' => e = .returned (.bool true) ∧ ∃ q, w' = w.drewN q := by
  have hmx : Try.prog.follows .mixedOrders = true := by kernel_rfl
  obtain ⟨A, cap, rfl, hc⟩ := hv
  have hck := Keep.mk hc
  have h5k := Keep.mk hzk.el
  obtain ⟨m, hm⟩ : ∃ m, Keep (zs.length = m) := ⟨_, ⟨rfl⟩⟩
  rw [hm.out] at hl hck h5k ⊢
  clear hc hzk
  go_enter Try.func64, Try.ntmps64
  go_wp2
  go_loopw [5] (fun i wr => (∃ k : Nat, k ≤ m ∧ i = .int .i64 k) ∧ ∃ nn, wr = w.drewN nn) (fun i _ => m - (intOf i).toNat)
  case atStart => exact ⟨⟨0, by omega, rfl⟩, 0, rfl⟩
  case round =>
    obtain ⟨⟨k, hk, rfl⟩, nn, rfl⟩ := hrel
    have hw1 : IntKind.i64.wrap ((k : Int) + 1) = (k : Int) + 1 := IntWalk.i64_in _ (by omega)
    by_cases hlt : k < m
    · have hlt' : (k : Int) < (m : Int) := by omega
      obtain ⟨g, o, rfl, c0⟩ := hck.out k hlt
      obtain ⟨e1, e2, e3⟩ := h5k.out k hlt
      obtain ⟨z, hz⟩ : ∃ z, zs.getD k 0 = z := ⟨_, rfl⟩
      rw [hz] at c0 e1 e2 e3
      have hz0 : ¬ z < 0 := by omega
      have hzn : ¬ z ≥ (n : Int) := by omega
      have nk : ¬ (k : Int) < 0 := by omega
      by_cases hk0 : k = 0
      · subst hk0
        rw [Nat.add_zero] at c0
        clear e3 hz hck h5k
        go_wp2
        refine (wpIn_wide (n := 0)).1 ?_
        refine Many.region_many (Cq (w.drewN nn)) hmx (by kernel_rfl) (fun s s' W' h hc => hc) (fun s hs => ⟨1, rfl⟩) ?_
        refine Many.lex_want (by rfl) (rd (v := .slice (some ⟨g, o, none⟩) m cap) (fun q => by (go_simp; (try rfl); (try (intro hneg; omega))))) ?_
        simp only [Act.put, List.setIfInBounds_toArray, List.set_cons_succ, List.set_cons_zero, Nat.reduceAdd]
        refine Many.lex_want (by rfl) (rd (v := .int .i64 (0 : Nat)) (fun q => by (go_simp; (try rfl); (try (intro hneg; omega))))) ?_
        simp only [Act.put, List.setIfInBounds_toArray, List.set_cons_succ, List.set_cons_zero, Nat.reduceAdd]
        refine Many.lex_want (by rfl) (rd (v := .pointer (some ⟨g, o, none⟩)) (fun q => by (go_simp; (try rfl); (try (intro hneg; omega))))) ?_
        simp only [Act.put, List.setIfInBounds_toArray, List.set_cons_succ, List.set_cons_zero, Nat.reduceAdd]
        refine Many.lex_want (by rfl) (rd (v := .int .i64 z) (fun q => by (go_simp; (try rfl); (try (intro hneg; omega))))) ?_
        simp only [Act.put, List.setIfInBounds_toArray, List.set_cons_succ, List.set_cons_zero, Nat.reduceAdd]
        refine Many.lex_want (by rfl) (rd (v := .bool false) (fun q => by (go_simp; (try rfl); (try (intro hneg; omega))))) ?_
        simp only [Act.put, List.setIfInBounds_toArray, List.set_cons_succ, List.set_cons_zero, Nat.reduceAdd]
        refine Many.lex_want (by rfl) (rd (v := .bool false) (fun q => by (go_simp; (try rfl); (try (intro hneg; omega))))) ?_
        simp only [Act.put, List.setIfInBounds_toArray, List.set_cons_succ, List.set_cons_zero, Nat.reduceAdd]
        refine Many.lex_want (by rfl) (rd (v := .slice (some ⟨g, o, none⟩) m cap) (fun q => by (go_simp; (try rfl); (try (intro hneg; omega))))) ?_
        simp only [Act.put, List.setIfInBounds_toArray, List.set_cons_succ, List.set_cons_zero, Nat.reduceAdd]
        refine Many.lex_want (by rfl) (rd (v := .int .i64 (0 : Nat)) (fun q => by (go_simp; (try rfl); (try (intro hneg; omega))))) ?_
        simp only [Act.put, List.setIfInBounds_toArray, List.set_cons_succ, List.set_cons_zero, Nat.reduceAdd]
        refine Many.lex_want (by rfl) (rd (v := .pointer (some ⟨g, o, none⟩)) (fun q => by (go_simp; (try rfl); (try (intro hneg; omega))))) ?_
        simp only [Act.put, List.setIfInBounds_toArray, List.set_cons_succ, List.set_cons_zero, Nat.reduceAdd]
        refine Many.lex_want (by rfl) (rd (v := .int .i64 z) (fun q => by (go_simp; (try rfl); (try (intro hneg; omega))))) ?_
        simp only [Act.put, List.setIfInBounds_toArray, List.set_cons_succ, List.set_cons_zero, Nat.reduceAdd]
        refine Many.lex_want (by rfl) (rd (v := .int .i64 n) (fun q => by (go_simp; (try rfl); (try (intro hneg; omega))))) ?_
        simp only [Act.put, List.setIfInBounds_toArray, List.set_cons_succ, List.set_cons_zero, Nat.reduceAdd]
        refine Many.lex_want (by rfl) (rd (v := .bool false) (fun q => by (go_simp; (try rfl); (try (intro hneg; omega))))) ?_
        simp only [Act.put, List.setIfInBounds_toArray, List.set_cons_succ, List.set_cons_zero, Nat.reduceAdd]
        refine Many.lex_want (by rfl) (rd (v := .bool false) (fun q => by (go_simp; (try rfl); (try (intro hneg; omega))))) ?_
        simp only [Act.put, List.setIfInBounds_toArray, List.set_cons_succ, List.set_cons_zero, Nat.reduceAdd]
        refine Many.lex_want (by rfl) (rd (v := .bool false) (fun q => by (go_simp; (try rfl); (try (intro hneg; omega))))) ?_
        simp only [Act.put, List.setIfInBounds_toArray, List.set_cons_succ, List.set_cons_zero, Nat.reduceAdd]
        refine Many.lex_want (by rfl) (rd (v := .int .i64 (0 : Nat)) (fun q => by (go_simp; (try rfl); (try (intro hneg; omega))))) ?_
        simp only [Act.put, List.setIfInBounds_toArray, List.set_cons_succ, List.set_cons_zero, Nat.reduceAdd]
        refine Many.lex_want (by rfl) (rd (v := .bool false) (fun q => by (go_simp; (try rfl); (try (intro hneg; omega))))) ?_
        simp only [Act.put, List.setIfInBounds_toArray, List.set_cons_succ, List.set_cons_zero, Nat.reduceAdd]
        refine Many.lex_want (by rfl) (rd (v := .bool false) (fun q => by (go_simp; (try rfl); (try (intro hneg; omega))))) ?_
        simp only [Act.put, List.setIfInBounds_toArray, List.set_cons_succ, List.set_cons_zero, Nat.reduceAdd]
        refine lex_skip (by rfl) Cq.keep ?_
        simp only [Act.put, List.setIfInBounds_toArray, List.set_cons_succ, List.set_cons_zero, Nat.reduceAdd]
        refine lex_skip (by rfl) Cq.keep ?_
        simp only [Act.put, List.setIfInBounds_toArray, List.set_cons_succ, List.set_cons_zero, Nat.reduceAdd]
        refine lex_skip (by rfl) Cq.keep ?_
        simp only [Act.put, List.setIfInBounds_toArray, List.set_cons_succ, List.set_cons_zero, Nat.reduceAdd]
        refine lex_skip (by rfl) Cq.keep ?_
        simp only [Act.put, List.setIfInBounds_toArray, List.set_cons_succ, List.set_cons_zero, Nat.reduceAdd]
        refine lex_skip (by rfl) Cq.keep ?_
        simp only [Act.put, List.setIfInBounds_toArray, List.set_cons_succ, List.set_cons_zero, Nat.reduceAdd]
        refine lex_skip (by rfl) Cq.keep ?_
        simp only [Act.put, List.setIfInBounds_toArray, List.set_cons_succ, List.set_cons_zero, Nat.reduceAdd]
        refine lex_skip (by rfl) Cq.keep ?_
        simp only [Act.put, List.setIfInBounds_toArray, List.set_cons_succ, List.set_cons_zero, Nat.reduceAdd]
        refine lex_skip (by rfl) Cq.keep ?_
        simp only [Act.put, List.setIfInBounds_toArray, List.set_cons_succ, List.set_cons_zero, Nat.reduceAdd]
        refine lex_skip (by rfl) Cq.keep ?_
        simp only [Act.put, List.setIfInBounds_toArray, List.set_cons_succ, List.set_cons_zero, Nat.reduceAdd]
        refine lex_skip (by rfl) Cq.keep ?_
        simp only [Act.put, List.setIfInBounds_toArray, List.set_cons_succ, List.set_cons_zero, Nat.reduceAdd]
        refine Many.lex_want (by rfl) (rd (v := .bool false) (fun q => by (go_simp; (try rfl); (try (intro hneg; omega))))) ?_
        simp only [Act.put, List.setIfInBounds_toArray, List.set_cons_succ, List.set_cons_zero, Nat.reduceAdd]
        refine Many.lex_want (by rfl) (rd (v := .bool false) (fun q => by (go_simp; (try rfl); (try (intro hneg; omega))))) ?_
        simp only [Act.put, List.setIfInBounds_toArray, List.set_cons_succ, List.set_cons_zero, Nat.reduceAdd]
        refine Many.lex_nil fun s9 W2 hs9 hS9 => ?_
        obtain ⟨q, rfl⟩ := hS9
        go_wp2
        exact ⟨⟨⟨1, by omega, by go_num⟩, nn + q, by first | rfl | exact drewN_add _ _ _⟩, by simp [intOf]; omega⟩
      · obtain ⟨j, rfl⟩ : ∃ j, k = j + 1 := ⟨k - 1, by omega⟩
        obtain ⟨g', o', hA', c1⟩ := hck.out j (by omega)
        obtain ⟨rfl, rfl⟩ : g' = g ∧ o' = o := by
          injection hA' with h; injection h with h1 h2; exact ⟨h1.symm, h2.symm⟩
        rw [lastZ_pos (by rw [hm.out]; omega)] at e3
        generalize zs.getD j 0 = y at c1 e3
        have hyz : ¬ y ≥ z := by omega
        have hj1 : ((j + 1 : Nat) : Int) = (j : Int) + 1 := by omega
        have hkp : ((j + 1 : Nat) : Int) > 0 := by omega
        have hjs : IntKind.i64.wrap ((j : Int) + 1 - 1) = (j : Int) := by rw [show (j : Int) + 1 - 1 = j by omega]; exact IntWalk.i64_in _ (by omega)
        have hjs2 : IntKind.i64.wrap (j : Int) = (j : Int) := IntWalk.i64_in _ (by omega)
        have hj0 : ¬ (j : Int) < 0 := by omega
        have hjm : (j : Int) < (m : Int) := by omega
        clear e3 hz hck h5k hA'
        go_wp2
        refine (wpIn_wide (n := 0)).1 ?_
        refine Many.region_many (Cq (w.drewN nn)) hmx (by kernel_rfl) (fun s s' W' h hc => hc) (fun s hs => ⟨1, rfl⟩) ?_
        refine Many.lex_want (by rfl) (rd (v := .slice (some ⟨g', o', none⟩) m cap) (fun q => by (go_simp; (try rfl); (try (intro hneg; omega))))) ?_
        simp only [Act.put, List.setIfInBounds_toArray, List.set_cons_succ, List.set_cons_zero, Nat.reduceAdd]
        refine Many.lex_want (by rfl) (rd (v := .int .i64 ((j : Int) + 1)) (fun q => by (go_simp; (try rfl); (try (intro hneg; omega))))) ?_
        simp only [Act.put, List.setIfInBounds_toArray, List.set_cons_succ, List.set_cons_zero, Nat.reduceAdd]
        refine Many.lex_want (by rfl) (rd (v := .pointer (some ⟨g', o' + (j + 1), none⟩)) (fun q => by (go_simp; (try rfl); (try (intro hneg; omega))))) ?_
        simp only [Act.put, List.setIfInBounds_toArray, List.set_cons_succ, List.set_cons_zero, Nat.reduceAdd]
        refine Many.lex_want (by rfl) (rd (v := .int .i64 z) (fun q => by (go_simp; (try rfl); (try (intro hneg; omega))))) ?_
        simp only [Act.put, List.setIfInBounds_toArray, List.set_cons_succ, List.set_cons_zero, Nat.reduceAdd]
        refine Many.lex_want (by rfl) (rd (v := .bool false) (fun q => by (go_simp; (try rfl); (try (intro hneg; omega))))) ?_
        simp only [Act.put, List.setIfInBounds_toArray, List.set_cons_succ, List.set_cons_zero, Nat.reduceAdd]
        refine Many.lex_want (by rfl) (rd (v := .bool false) (fun q => by (go_simp; (try rfl); (try (intro hneg; omega))))) ?_
        simp only [Act.put, List.setIfInBounds_toArray, List.set_cons_succ, List.set_cons_zero, Nat.reduceAdd]
        refine Many.lex_want (by rfl) (rd (v := .slice (some ⟨g', o', none⟩) m cap) (fun q => by (go_simp; (try rfl); (try (intro hneg; omega))))) ?_
        simp only [Act.put, List.setIfInBounds_toArray, List.set_cons_succ, List.set_cons_zero, Nat.reduceAdd]
        refine Many.lex_want (by rfl) (rd (v := .int .i64 ((j : Int) + 1)) (fun q => by (go_simp; (try rfl); (try (intro hneg; omega))))) ?_
        simp only [Act.put, List.setIfInBounds_toArray, List.set_cons_succ, List.set_cons_zero, Nat.reduceAdd]
        refine Many.lex_want (by rfl) (rd (v := .pointer (some ⟨g', o' + (j + 1), none⟩)) (fun q => by (go_simp; (try rfl); (try (intro hneg; omega))))) ?_
        simp only [Act.put, List.setIfInBounds_toArray, List.set_cons_succ, List.set_cons_zero, Nat.reduceAdd]
        refine Many.lex_want (by rfl) (rd (v := .int .i64 z) (fun q => by (go_simp; (try rfl); (try (intro hneg; omega))))) ?_
        simp only [Act.put, List.setIfInBounds_toArray, List.set_cons_succ, List.set_cons_zero, Nat.reduceAdd]
        refine Many.lex_want (by rfl) (rd (v := .int .i64 n) (fun q => by (go_simp; (try rfl); (try (intro hneg; omega))))) ?_
        simp only [Act.put, List.setIfInBounds_toArray, List.set_cons_succ, List.set_cons_zero, Nat.reduceAdd]
        refine Many.lex_want (by rfl) (rd (v := .bool false) (fun q => by (go_simp; (try rfl); (try (intro hneg; omega))))) ?_
        simp only [Act.put, List.setIfInBounds_toArray, List.set_cons_succ, List.set_cons_zero, Nat.reduceAdd]
        refine Many.lex_want (by rfl) (rd (v := .bool false) (fun q => by (go_simp; (try rfl); (try (intro hneg; omega))))) ?_
        simp only [Act.put, List.setIfInBounds_toArray, List.set_cons_succ, List.set_cons_zero, Nat.reduceAdd]
        refine Many.lex_want (by rfl) (rd (v := .bool false) (fun q => by (go_simp; (try rfl); (try (intro hneg; omega))))) ?_
        simp only [Act.put, List.setIfInBounds_toArray, List.set_cons_succ, List.set_cons_zero, Nat.reduceAdd]
        refine Many.lex_want (by rfl) (rd (v := .int .i64 ((j : Int) + 1)) (fun q => by (go_simp; (try rfl); (try (intro hneg; omega))))) ?_
        simp only [Act.put, List.setIfInBounds_toArray, List.set_cons_succ, List.set_cons_zero, Nat.reduceAdd]
        refine Many.lex_want (by rfl) (rd (v := .bool true) (fun q => by (go_simp; (try rfl); (try (intro hneg; omega))))) ?_
        simp only [Act.put, List.setIfInBounds_toArray, List.set_cons_succ, List.set_cons_zero, Nat.reduceAdd]
        refine Many.lex_want (by rfl) (rd (v := .bool true) (fun q => by (go_simp; (try rfl); (try (intro hneg; omega))))) ?_
        simp only [Act.put, List.setIfInBounds_toArray, List.set_cons_succ, List.set_cons_zero, Nat.reduceAdd]
        refine Many.lex_want (by rfl) (rd (v := .slice (some ⟨g', o', none⟩) m cap) (fun q => by (go_simp; (try rfl); (try (intro hneg; omega))))) ?_
        simp only [Act.put, List.setIfInBounds_toArray, List.set_cons_succ, List.set_cons_zero, Nat.reduceAdd]
        refine Many.lex_want (by rfl) (rd (v := .int .i64 ((j : Int) + 1)) (fun q => by (go_simp; (try rfl); (try (intro hneg; omega))))) ?_
        simp only [Act.put, List.setIfInBounds_toArray, List.set_cons_succ, List.set_cons_zero, Nat.reduceAdd]
        refine Many.lex_want (by rfl) (rd (v := .int .i64 (j : Int)) (fun q => by (go_simp; (try rfl); (try (intro hneg; omega))))) ?_
        simp only [Act.put, List.setIfInBounds_toArray, List.set_cons_succ, List.set_cons_zero, Nat.reduceAdd]
        refine Many.lex_want (by rfl) (rd (v := .pointer (some ⟨g', o' + j, none⟩)) (fun q => by (go_simp; (try rfl); (try (intro hneg; omega))))) ?_
        simp only [Act.put, List.setIfInBounds_toArray, List.set_cons_succ, List.set_cons_zero, Nat.reduceAdd]
        refine Many.lex_want (by rfl) (rd (v := .int .i64 y) (fun q => by (go_simp; (try rfl); (try (intro hneg; omega))))) ?_
        simp only [Act.put, List.setIfInBounds_toArray, List.set_cons_succ, List.set_cons_zero, Nat.reduceAdd]
        refine Many.lex_want (by rfl) (rd (v := .slice (some ⟨g', o', none⟩) m cap) (fun q => by (go_simp; (try rfl); (try (intro hneg; omega))))) ?_
        simp only [Act.put, List.setIfInBounds_toArray, List.set_cons_succ, List.set_cons_zero, Nat.reduceAdd]
        refine Many.lex_want (by rfl) (rd (v := .int .i64 ((j : Int) + 1)) (fun q => by (go_simp; (try rfl); (try (intro hneg; omega))))) ?_
        simp only [Act.put, List.setIfInBounds_toArray, List.set_cons_succ, List.set_cons_zero, Nat.reduceAdd]
        refine Many.lex_want (by rfl) (rd (v := .pointer (some ⟨g', o' + (j + 1), none⟩)) (fun q => by (go_simp; (try rfl); (try (intro hneg; omega))))) ?_
        simp only [Act.put, List.setIfInBounds_toArray, List.set_cons_succ, List.set_cons_zero, Nat.reduceAdd]
        refine Many.lex_want (by rfl) (rd (v := .int .i64 z) (fun q => by (go_simp; (try rfl); (try (intro hneg; omega))))) ?_
        simp only [Act.put, List.setIfInBounds_toArray, List.set_cons_succ, List.set_cons_zero, Nat.reduceAdd]
        refine Many.lex_want (by rfl) (rd (v := .bool false) (fun q => by (go_simp; (try rfl); (try (intro hneg; omega))))) ?_
        simp only [Act.put, List.setIfInBounds_toArray, List.set_cons_succ, List.set_cons_zero, Nat.reduceAdd]
        refine Many.lex_want (by rfl) (rd (v := .bool false) (fun q => by (go_simp; (try rfl); (try (intro hneg; omega))))) ?_
        simp only [Act.put, List.setIfInBounds_toArray, List.set_cons_succ, List.set_cons_zero, Nat.reduceAdd]
        refine Many.lex_want (by rfl) (rd (v := .bool false) (fun q => by (go_simp; (try rfl); (try (intro hneg; omega))))) ?_
        simp only [Act.put, List.setIfInBounds_toArray, List.set_cons_succ, List.set_cons_zero, Nat.reduceAdd]
        refine Many.lex_nil fun s9 W2 hs9 hS9 => ?_
        obtain ⟨q, rfl⟩ := hS9
        go_wp2
        exact ⟨⟨⟨j + 1 + 1, by omega, by go_num⟩, nn + q, by first | rfl | exact drewN_add _ _ _⟩, by simp [intOf]; omega⟩
    · obtain rfl : k = m := by omega
      have hlt' : ¬ (k : Int) < (k : Int) := by omega
      go_wp2
      go_ret
      exact ⟨rfl, nn, rfl⟩
theorem within_yes {n : Nat} {v : Value} {zs : List Int} {w : World} (hv : IntsO w v zs) (hzk : ListOk n zs) (hl : zs.length ≤ 100000) :
    Calls Try.prog 52 #[.int .i64 n, v] w fun e w' => e = .returned (.bool true) ∧ ∃ q, w' = w.drewN q := by
  have q := listed_yes hv hzk hl
  go_enter Try.func52, Try.ntmps52
  go_wp2_with (first
    | (go_at_call 64; (with_reducible refine q.mono ?_); rintro e w5 ⟨rfl, nn, he5⟩; rw [he5]; clear he5 w5))
  go_ret
  exact ⟨rfl, nn, rfl⟩
theorem getD_app_left (a b : List Nat) {i : Nat} (h : i < a.length) : (a ++ b).getD i 0 = a.getD i 0 := by
  rw [List.getD_eq_getElem?_getD, List.getElem?_append_left h, List.getD_eq_getElem?_getD]
theorem getD_app_at (a : List Nat) (x : Nat) : (a ++ [x]).getD a.length 0 = x := by
  rw [List.getD_eq_getElem?_getD, List.getElem?_append_right (Nat.le_refl _)]; simp
theorem vsTo_sorted (s : Nat → Bool) : ∀ k i j, i < j → j < (vsTo s k).length → (vsTo s k).getD i 0 < (vsTo s k).getD j 0
  | 0, i, j, h, hj => by simp [vsTo] at hj
  | k + 1, i, j, h, hj => by
    rw [vsTo_succ] at hj ⊢
    split at hj
    · rename_i hs
      rw [if_pos hs]
      rw [List.length_append] at hj
      simp only [List.length_cons, List.length_nil] at hj
      by_cases e : j < (vsTo s k).length
      · rw [getD_app_left _ _ (by omega), getD_app_left _ _ e]
        exact vsTo_sorted s k i j h e
      · have e2 : j = (vsTo s k).length := by omega
        subst e2
        rw [getD_app_left _ _ h, getD_app_at]
        have hm : (vsTo s k).getD i 0 ∈ vsTo s k := by
          rw [List.getD_eq_getElem?_getD, List.getElem?_eq_getElem h]; exact List.getElem_mem _
        exact (vsTo_lt hm).1
    · rename_i hs
      rw [if_neg hs]
      exact vsTo_sorted s k i j h hj
theorem zsOf_len (s : Nat → Bool) : (zsOf s).length = (vsTo s 12).length := by simp [zsOf]
theorem zsOf_at (s : Nat → Bool) {i : Nat} (hi : i < (vsTo s 12).length) : (zsOf s).getD i 0 = ((vsTo s 12).getD i 0 : Nat) := by
  unfold zsOf
  rw [List.getD_eq_getElem?_getD, List.getElem?_map, List.getD_eq_getElem?_getD, List.getElem?_eq_getElem hi]; rfl
/-- The list of a set of the graph's places is one. -/
theorem listOk_of {n : Nat} {s : Nat → Bool} (h : ∀ j, n ≤ j → j < 12 → s j = false) : ListOk n (zsOf s) := ⟨fun k hk => by
  rw [zsOf_len] at hk
  have hm : (vsTo s 12).getD k 0 ∈ vsTo s 12 := by
    rw [List.getD_eq_getElem?_getD, List.getElem?_eq_getElem hk]; exact List.getElem_mem _
  obtain ⟨h1, h2⟩ := vsTo_lt hm
  rw [zsOf_at s hk]
  have hlt : (vsTo s 12).getD k 0 < n := by
    rcases Nat.lt_or_ge ((vsTo s 12).getD k 0) n with h' | h'
    · exact h'
    · rw [h _ h' h1] at h2; cases h2
  refine ⟨by omega, by omega, ?_⟩
  cases k with
  | zero => show (-1 : Int) < _; omega
  | succ j =>
    rw [lastZ_pos (by rw [zsOf_len]; omega), zsOf_at s (by omega)]
    have := vsTo_sorted s 12 j (j + 1) (by omega) hk
    omega⟩
theorem zsOf_in (s : Nat → Bool) {k : Nat} (hk : k < (zsOf s).length) : 0 ≤ (zsOf s).getD k 0 ∧ (zsOf s).getD k 0 < 12 := by
  rw [zsOf_len] at hk
  rw [zsOf_at s hk]
  have hm : (vsTo s 12).getD k 0 ∈ vsTo s 12 := by
    rw [List.getD_eq_getElem?_getD, List.getElem?_eq_getElem hk]; exact List.getElem_mem _
  have := (vsTo_lt hm).1
  omega
theorem num_setOf (s : Nat → Bool) : num (setOf (zsOf s)) = num s := num_ext fun j hj => setOf_zsOf s hj
/-- ref.Set of a set's list. -/
theorem set_of {v : Value} {s : Nat → Bool} {w : World} (hv : IntsO w v (zsOf s)) : Calls Try.prog 26 #[v] w fun e w' => e = .returned (.int .i64 (num s)) ∧ w' = w := by
  have h := set_any hv (fun k hk => zsOf_in s hk) (by rw [zsOf_len]; have := vsTo_len s 12; omega)
  rw [num_setOf] at h
  exact h
end Go.Proofs.Yteekigpdiklppaa
set_option linter.unusedSimpArgs false
set_option linter.unusedVariables false
namespace Go.Proofs.Yteekigpdiklppaa
open Go Go.Proofs Go.RowKit Go.Seq
attribute [local go_sem] Oper.semAt_some
set_option maxHeartbeats 4000000 in
set_option maxRecDepth 100000 in
theorem dry_any {b n K f : Nat} {bd cp : Array Value} {adj : Nat → Nat → Bool} {rd : (Nat → Bool) → Nat → Bool} {R : World → Prop} {s : Nat → Bool} {w : World} (hg : GraphAt w b n adj) (hn : n ≤ 12) (hq : Rnd f bd cp rd R) (hK : Stops rd s K)
    (hR : ∀ W, Below w.heap.size w W → R W) :
    Calls Try.prog 63 #[.pointer (some ⟨b, 0, none⟩), setV s, .func (.func f) bd cp] w fun e w' =>
      ((eqb (stg rd s K) (allS n) = true ∧ e = .returned (.tuple #[.slice none 0 0, .int .i64 6])) ∨ (eqb (stg rd s K) (allS n) = false ∧ ∃ lv, e = .returned (.tuple #[lv, .int .i64 0]) ∧ ListV w w' lv (fun j => allS n j && !stg rd s K j))) ∧ Below w.heap.size w w' := by
  have hmx : Try.prog.follows .mixedOrders = true := by kernel_rfl
  obtain ⟨F, hF⟩ : ∃ F, stg rd s K = F := ⟨_, rfl⟩
  obtain ⟨A, hA⟩ : ∃ A, allS n = A := ⟨_, rfl⟩
  obtain ⟨wa, hwa⟩ : ∃ wa, w.alloc (.cells (sc s) 79) = wa := ⟨_, rfl⟩
  have ba : Below w.heap.size w wa := by rw [← hwa]; exact (Below.refl _ _).alloc (Nat.le_refl _) _
  have fa : SetAt wa w.heap.size s := by rw [← hwa]; exact SetAt.new _ _
  obtain ⟨x0, x1, x2, x3, x4, x5, x6, x7, x8, x9, x10, x11⟩ := fa.c12
  have q58 := closure_any (w := wa) hq hK (fun W hb => hR W (ba.trans (hb.mono ba.size)))
  have q84 := Keep.mk (fun W (h : GraphAt W b n adj) => all_any h hn)
  rw [hF] at q58 ⊢
  rw [show (fun j => decide (j < n)) = A from hA] at q84
  rw [hA]
  obtain ⟨z, hz⟩ : ∃ z, eqb F A = z := ⟨_, rfl⟩
  have heq := fun w => eq49 F A w
  rw [show ((List.range 12).all fun k => F k == A k) = z from hz] at heq
  rw [hz]
  obtain ⟨D, hD⟩ : ∃ D : Nat → Bool, (fun j => A j && !F j) = D := ⟨_, rfl⟩
  have q85 : Keep (∀ W, Calls Try.prog 85 #[setV A, setV F] W fun e w' => e = .returned (setV D) ∧ Below W.heap.size W w') := ⟨fun W => hD ▸ minus_any A F W⟩
  have q60 := Keep.mk (fun W => list_any D W)
  rw [hD]
  have hgk := Keep.mk hg
  have bak := Keep.mk ba
  clear fa ba hg hF hA hz hD
  unfold setV sc at *
  go_enter Try.func63, Try.ntmps63
  go_wp2_with (first
    | (go_at_call 58; (with_reducible refine q58.mono ?_); rintro e w5 ⟨rfl, hb5⟩
       obtain ⟨w6, hw6⟩ : ∃ w6, w5.alloc (.cells (sc F) 79) = w6 := ⟨_, rfl⟩
       have hb6 : Below w5.heap.size w5 w6 := by rw [← hw6]; exact (Below.refl _ _).alloc (Nat.le_refl _) _
       have hf6 : SetAt w6 w5.heap.size F := by rw [← hw6]; exact SetAt.new _ _
       have hbb := Keep.mk (bak.out.trans ((hb5.trans (hb6.mono hb5.size)).mono bak.out.size))
       have hf6k := Keep.mk hf6
       clear hb5 hb6 hf6
       unfold sc at hw6))
  have hI : GraphAt w6 b n adj ∧ SetAt w6 w5.heap.size F ∧ Below w.heap.size w w6 := ⟨hgk.out.below hbb.out hgk.out.lt, hf6k.out, hbb.out⟩
  obtain ⟨BX, hBX⟩ : ∃ BX : World → Prop, BX = fun W => GraphAt W b n adj ∧ SetAt W w5.heap.size F ∧ Below w.heap.size w W := ⟨_, rfl⟩
  have hCa : ∀ W W', BX W → Below W.heap.size W W' → BX W' := fun W W' h hb => by
    rw [hBX] at h ⊢; exact ⟨h.1.below hb h.1.lt, h.2.1.after hb, h.2.2.trans (hb.mono h.2.2.size)⟩
  have hCg : ∀ W, BX W → GraphAt W b n adj ∧ SetAt W w5.heap.size F ∧ Below w.heap.size w W := fun W h => by rw [hBX] at h; exact h
  have hB0 : BX w6 := by rw [hBX]; exact hI
  clear hBX hI hf6k hbb hgk hw6
  refine (wpIn_wide (n := 0)).1 ?_
  refine Many.region_many (fun _ W => BX W) hmx (by kernel_rfl) (fun s s' W' h hc => hc) (fun s hs => hCa _ _ hB0 ((Below.refl _ _).drew)) ?_
  refine Many.lex_want (by rfl) (Many.tr_read (v := .agg #[.bool (F 0), .bool (F 1), .bool (F 2), .bool (F 3), .bool (F 4), .bool (F 5), .bool (F 6), .bool (F 7), .bool (F 8), .bool (F 9), .bool (F 10), .bool (F 11)]) BX (fun s W h => h) (fun s W h => h) (fun W h => by
    obtain ⟨e0, e1, e2, e3, e4, e5, e6, e7, e8, e9, e10, e11⟩ := (hCg W h).2.1.c12
    clear h; go_simp; (try rfl))) ?_
  simp only [Act.put, List.setIfInBounds_toArray, List.set_cons_succ, List.set_cons_zero, Nat.reduceAdd]
  refine Many.lex_want (by rfl) (Many.tr_read (v := .pointer (some ⟨b, 0, none⟩)) BX (fun s W h => h) (fun s W h => h) (fun W h => by clear h; go_simp; (try rfl))) ?_
  simp only [Act.put, List.setIfInBounds_toArray, List.set_cons_succ, List.set_cons_zero, Nat.reduceAdd]
  refine Many.lex_want (by rfl) (Many.tr_call (v := .agg #[.bool (A 0), .bool (A 1), .bool (A 2), .bool (A 3), .bool (A 4), .bool (A 5), .bool (A 6), .bool (A 7), .bool (A 8), .bool (A 9), .bool (A 10), .bool (A 11)]) (f := 84) (args := #[.pointer (some ⟨b, 0, none⟩)]) BX (fun s W h => h) (fun s W h => (q84.out W (hCg W h).1).mono (fun e W' hw' => ⟨hw'.1, hCa _ _ h hw'.2⟩)) (fun W h => by clear h; go_simp; try rfl)) ?_
  simp only [Act.put, List.setIfInBounds_toArray, List.set_cons_succ, List.set_cons_zero, Nat.reduceAdd]
  refine Many.lex_want (by rfl) (Many.tr_read (v := .bool z) BX (fun s W h => h) (fun s W h => h) (fun W h => by clear h; go_simp; (try rfl))) ?_
  simp only [Act.put, List.setIfInBounds_toArray, List.set_cons_succ, List.set_cons_zero, Nat.reduceAdd]
  refine Many.lex_nil fun s9 W4 hs9 hS4 => ?_
  clear hB0
  cases z with
  | true =>
    have hb4 := (hCg _ hS4).2.2
    clear hS4
    go_wp2
    refine bodyPost_ret (v := .tuple #[.slice none 0 0, .int .i64 6]) (by simp [results, Try.results63, go_sem]) rfl ?_
    first
      | exact ⟨.inl ⟨rfl, rfl⟩, hb4⟩
      | exact ⟨rfl, hb4⟩
  | false =>
    have hS4k := Keep.mk hS4
    clear hS4
    go_wp2
    obtain ⟨CX, hCX⟩ : ∃ CX : (Nat → Bool) → Value → World → Prop, CX = fun t lv W => BX W ∧ (t 4 = true → W.ownsRow w.heap.size 3 1 lv (vsTo D 12).length ((vsTo D 12).map ik)) := ⟨_, rfl⟩
    have hCk : ∀ i, i ≠ 4 → ∀ t lv W, CX t lv W → CX (Manyd.upd t i) lv W := fun i hi t lv W h => by
      rw [hCX] at h ⊢
      exact ⟨h.1, fun e => h.2 (by simpa [Manyd.upd, hi] using e)⟩
    have hCb : ∀ t lv W, CX t lv W → GraphAt W b n adj ∧ SetAt W w5.heap.size F ∧ Below w.heap.size w W := fun t lv W h => by rw [hCX] at h; exact hCg W h.1
    have hCc : ∀ t lv W W', CX t lv W → Below W.heap.size W W' → CX t lv W' := fun t lv W W' h hb => by
      rw [hCX] at h ⊢
      exact ⟨hCa W W' h.1 hb, fun e => row_after (h.2 e) hb⟩
    have hCl : ∀ t lv lv2 W W', CX t lv W → W'.ownsRow W.heap.size 3 1 lv2 (vsTo D 12).length ((vsTo D 12).map ik) → Below W.heap.size W W' → CX (Manyd.upd t 4) lv2 W' := fun t lv lv2 W W' h hr hb => by
      rw [hCX] at h ⊢
      exact ⟨hCa W W' h.1 hb, fun _ => row_base hr (hCg W h.1).2.2.size⟩
    have hC0 : ∀ t : Nat → Bool, (∀ j, j < 7 → t j = false) → CX t (.slice none 0 0) W4.drew := fun t ht => by
      rw [hCX]
      exact ⟨hCa _ _ hS4k.out ((Below.refl _ _).drew), fun e => by rw [ht 4 (by decide)] at e; cases e⟩
    have hCf : ∀ t lv W, CX t lv W → t 4 = true → Keep (BX W ∧ W.ownsRow w.heap.size 3 1 lv (vsTo D 12).length ((vsTo D 12).map ik)) := fun t lv W h e => by rw [hCX] at h; exact ⟨h.1, h.2 e⟩
    clear hCX hS4k
    refine (wpIn_wide (n := 0)).1 ?_
    refine Inv.region_inv (fun t a W => ∃ lv, a = { tmps := #[.pointer (some ⟨b, 0, none⟩), .agg #[.bool (s 0), .bool (s 1), .bool (s 2), .bool (s 3), .bool (s 4), .bool (s 5), .bool (s 6), .bool (s 7), .bool (s 8), .bool (s 9), .bool (s 10), .bool (s 11)], .func (.func f) bd cp, undef, .pointer (some ⟨w.heap.size, 0, none⟩), undef, if t 5 = true then lv else .slice none 0 0, if t 6 = true then .int .i64 0 else .int .i64 0, .pointer (some ⟨w5.heap.size, 0, none⟩), .int .i64 K, .tuple #[.agg #[.bool (F 0), .bool (F 1), .bool (F 2), .bool (F 3), .bool (F 4), .bool (F 5), .bool (F 6), .bool (F 7), .bool (F 8), .bool (F 9), .bool (F 10), .bool (F 11)], .int .i64 K], .agg #[.bool (s 0), .bool (s 1), .bool (s 2), .bool (s 3), .bool (s 4), .bool (s 5), .bool (s 6), .bool (s 7), .bool (s 8), .bool (s 9), .bool (s 10), .bool (s 11)], .func (.func f) bd cp, .tuple #[.agg #[.bool (F 0), .bool (F 1), .bool (F 2), .bool (F 3), .bool (F 4), .bool (F 5), .bool (F 6), .bool (F 7), .bool (F 8), .bool (F 9), .bool (F 10), .bool (F 11)], .int .i64 K], .agg #[.bool (F 0), .bool (F 1), .bool (F 2), .bool (F 3), .bool (F 4), .bool (F 5), .bool (F 6), .bool (F 7), .bool (F 8), .bool (F 9), .bool (F 10), .bool (F 11)], .int .i64 K, .agg #[.bool (F 0), .bool (F 1), .bool (F 2), .bool (F 3), .bool (F 4), .bool (F 5), .bool (F 6), .bool (F 7), .bool (F 8), .bool (F 9), .bool (F 10), .bool (F 11)], .pointer (some ⟨b, 0, none⟩), .agg #[.bool (A 0), .bool (A 1), .bool (A 2), .bool (A 3), .bool (A 4), .bool (A 5), .bool (A 6), .bool (A 7), .bool (A 8), .bool (A 9), .bool (A 10), .bool (A 11)], .bool false, if t 0 = true then .pointer (some ⟨b, 0, none⟩) else undef, if t 1 = true then .agg #[.bool (A 0), .bool (A 1), .bool (A 2), .bool (A 3), .bool (A 4), .bool (A 5), .bool (A 6), .bool (A 7), .bool (A 8), .bool (A 9), .bool (A 10), .bool (A 11)] else undef, if t 2 = true then .agg #[.bool (F 0), .bool (F 1), .bool (F 2), .bool (F 3), .bool (F 4), .bool (F 5), .bool (F 6), .bool (F 7), .bool (F 8), .bool (F 9), .bool (F 10), .bool (F 11)] else undef, if t 3 = true then .agg #[.bool (D 0), .bool (D 1), .bool (D 2), .bool (D 3), .bool (D 4), .bool (D 5), .bool (D 6), .bool (D 7), .bool (D 8), .bool (D 9), .bool (D 10), .bool (D 11)] else undef, if t 4 = true then lv else undef], defers := [] } ∧ CX t lv W) hmx (by kernel_rfl) ?_ ?_ ?_
    · intro t hs
      refine ⟨.slice none 0 0, ?_, hC0 t (fun j hj => hs j hj)⟩
      simp only [hs 0 (by decide), hs 1 (by decide), hs 2 (by decide), hs 3 (by decide), hs 4 (by decide), hs 5 (by decide), hs 6 (by decide), Bool.false_eq_true, if_false]
    · refine ⟨?_, ?_, ?_, ?_, ?_, ?_, ?_, trivial⟩
      · rintro t a W hun hdep hbeh ⟨lv, rfl, hT⟩
        (try simp only [Nat.reduceAdd] at hun)
        refine .inl ⟨by rfl, Inv.comesV_val (.pointer (some ⟨b, 0, none⟩)) W (by (clear hT; go_simp; (try rfl); try (intro hneg; omega))) ⟨lv, by (simp only [Act.put, List.setIfInBounds_toArray, List.set_cons_succ, List.set_cons_zero, Manyd.upd, Nat.reduceAdd, Nat.reduceBEq, Bool.or_false, Bool.or_true, if_true]), hCk 0 (by decide) t lv W hT⟩⟩
      · rintro t a W hun hdep hbeh ⟨lv, rfl, hT⟩
        (try simp only [Nat.reduceAdd] at hun)
        have h0 : t 0 = true := Inv.depB_mem 0 hdep (by rfl)
        refine .inl ⟨by rfl, Inv.comesV_call 84 #[.pointer (some ⟨b, 0, none⟩)] W (by (simp only [h0, if_true]; clear hT; go_simp; try rfl)) ((q84.out W (hCb t lv W hT).1).mono fun e w5 hw5 => ⟨.agg #[.bool (A 0), .bool (A 1), .bool (A 2), .bool (A 3), .bool (A 4), .bool (A 5), .bool (A 6), .bool (A 7), .bool (A 8), .bool (A 9), .bool (A 10), .bool (A 11)], hw5.1, lv, ?_, ?_⟩)⟩
        · simp only [Act.put, List.setIfInBounds_toArray, List.set_cons_succ, List.set_cons_zero, Manyd.upd, Nat.reduceAdd, Nat.reduceBEq, Bool.or_false, Bool.or_true, if_true]
        · exact hCk 1 (by decide) t lv w5 (hCc t lv W w5 hT hw5.2)
      · rintro t a W hun hdep hbeh ⟨lv, rfl, hT⟩
        (try simp only [Nat.reduceAdd] at hun)
        obtain ⟨e0, e1, e2, e3, e4, e5, e6, e7, e8, e9, e10, e11⟩ := (hCb t lv W hT).2.1.c12
        refine .inl ⟨by rfl, Inv.comesV_val (.agg #[.bool (F 0), .bool (F 1), .bool (F 2), .bool (F 3), .bool (F 4), .bool (F 5), .bool (F 6), .bool (F 7), .bool (F 8), .bool (F 9), .bool (F 10), .bool (F 11)]) W (by (clear hT; go_simp; (try rfl); try (intro hneg; omega))) ⟨lv, by (simp only [Act.put, List.setIfInBounds_toArray, List.set_cons_succ, List.set_cons_zero, Manyd.upd, Nat.reduceAdd, Nat.reduceBEq, Bool.or_false, Bool.or_true, if_true]), hCk 2 (by decide) t lv W hT⟩⟩
      · rintro t a W hun hdep hbeh ⟨lv, rfl, hT⟩
        (try simp only [Nat.reduceAdd] at hun)
        have h1 : t 1 = true := Inv.depB_mem 1 hdep (by rfl)
        have h2 : t 2 = true := Inv.depB_mem 2 hdep (by rfl)
        refine .inl ⟨by rfl, Inv.comesV_call 85 #[.agg #[.bool (A 0), .bool (A 1), .bool (A 2), .bool (A 3), .bool (A 4), .bool (A 5), .bool (A 6), .bool (A 7), .bool (A 8), .bool (A 9), .bool (A 10), .bool (A 11)], .agg #[.bool (F 0), .bool (F 1), .bool (F 2), .bool (F 3), .bool (F 4), .bool (F 5), .bool (F 6), .bool (F 7), .bool (F 8), .bool (F 9), .bool (F 10), .bool (F 11)]] W (by (simp only [h1, h2, if_true]; clear hT; go_simp; try rfl)) ((q85.out W).mono fun e w5 hw5 => ⟨.agg #[.bool (D 0), .bool (D 1), .bool (D 2), .bool (D 3), .bool (D 4), .bool (D 5), .bool (D 6), .bool (D 7), .bool (D 8), .bool (D 9), .bool (D 10), .bool (D 11)], hw5.1, lv, ?_, ?_⟩)⟩
        · simp only [Act.put, List.setIfInBounds_toArray, List.set_cons_succ, List.set_cons_zero, Manyd.upd, Nat.reduceAdd, Nat.reduceBEq, Bool.or_false, Bool.or_true, if_true]
        · exact hCk 3 (by decide) t lv w5 (hCc t lv W w5 hT hw5.2)
      · rintro t a W hun hdep hbeh ⟨lv, rfl, hT⟩
        (try simp only [Nat.reduceAdd] at hun)
        have h3 : t 3 = true := Inv.depB_mem 3 hdep (by rfl)
        have hn5 : t 5 = false := hbeh 5 (by kernel_rfl)
        refine .inl ⟨by rfl, Inv.comesV_call 60 #[.agg #[.bool (D 0), .bool (D 1), .bool (D 2), .bool (D 3), .bool (D 4), .bool (D 5), .bool (D 6), .bool (D 7), .bool (D 8), .bool (D 9), .bool (D 10), .bool (D 11)]] W (by (simp only [h3, if_true]; clear hT; go_simp; try rfl)) ((q60.out W).mono fun e w5 hw5 => by
          obtain ⟨lv2, r1, r2, r3⟩ := hw5
          exact ⟨lv2, r1, lv2, by (simp only [hun, hn5, Bool.false_eq_true, if_false]; simp only [Act.put, List.setIfInBounds_toArray, List.set_cons_succ, List.set_cons_zero, Manyd.upd, Nat.reduceAdd, Nat.reduceBEq, Bool.or_false, Bool.or_true, if_true]; simp only [hn5, Bool.false_eq_true, if_false]), hCl t lv lv2 W w5 hT r2 r3⟩)⟩
      · rintro t a W hun hdep hbeh ⟨lv, rfl, hT⟩
        (try simp only [Nat.reduceAdd] at hun)
        have h4 : t 4 = true := Inv.depB_mem 4 hdep (by rfl)
        refine .inl ⟨by rfl, Inv.comesV_val (lv) W (by (simp only [h4, if_true]; clear hT; go_simp; (try rfl); try (intro hneg; omega))) ⟨lv, by (simp only [Act.put, List.setIfInBounds_toArray, List.set_cons_succ, List.set_cons_zero, Manyd.upd, Nat.reduceAdd, Nat.reduceBEq, Bool.or_false, Bool.or_true, if_true]), hCk 5 (by decide) t lv W hT⟩⟩
      · rintro t a W hun hdep hbeh ⟨lv, rfl, hT⟩
        (try simp only [Nat.reduceAdd] at hun)
        refine .inl ⟨by rfl, Inv.comesV_val (.int .i64 0) W (by (clear hT; go_simp; (try rfl); try (intro hneg; omega))) ⟨lv, by (simp only [Act.put, List.setIfInBounds_toArray, List.set_cons_succ, List.set_cons_zero, Manyd.upd, Nat.reduceAdd, Nat.reduceBEq, Bool.or_false, Bool.or_true, if_true]), hCk 6 (by decide) t lv W hT⟩⟩
    rintro t a W hs ⟨lv, rfl, hT⟩
    have hf := hCf t lv W hT (hs 4 (by decide))
    simp only [hs 0 (by decide), hs 1 (by decide), hs 2 (by decide), hs 3 (by decide), hs 4 (by decide), hs 5 (by decide), hs 6 (by decide), if_true]
    clear hT hs hCf hC0 hCl hCc hCb hCk
    go_wp2
    refine bodyPost_ret (v := .tuple #[lv, .int .i64 0]) (by simp [results, Try.results63, go_sem]) rfl ?_
    first
      | exact ⟨.inr ⟨rfl, lv, rfl, hf.out.2⟩, (hCg _ hf.out.1).2.2⟩
      | exact ⟨⟨lv, rfl, hf.out.2⟩, (hCg _ hf.out.1).2.2⟩
end Go.Proofs.Yteekigpdiklppaa
set_option linter.unusedSimpArgs false
set_option linter.unusedVariables false
namespace Go.Proofs.Yteekigpdiklppaa
open Go Go.Proofs Go.RowKit Go.Seq
attribute [local go_sem] Oper.semAt_some
set_option maxHeartbeats 2000000 in
set_option maxRecDepth 100000 in
theorem fort_yes {n K : Nat} {v v2 : Value} {ps : Pts} {zs : List Int} {w : World} (hv : PairsOf w v ps) (hok : GrOk n ps) (hl : ps.length ≤ 200) (hv2 : IntsO w v2 zs) (hzk : ListOk n zs) (hl2 : zs.length ≤ 100)
    (hK : Stops (fround (adjOf ps)) (setOf zs) K) :
    Calls Try.prog 21 #[.int .i64 n, v, v2] w fun e w' =>
      ((eqb (stg (fround (adjOf ps)) (setOf zs) K) (allS n) = true ∧ e = .returned (.tuple #[.slice none 0 0, .int .i64 6])) ∨ (eqb (stg (fround (adjOf ps)) (setOf zs) K) (allS n) = false ∧ ∃ lv, e = .returned (.tuple #[lv, .int .i64 0]) ∧ ListV w w' lv (fun j => allS n j && !stg (fround (adjOf ps)) (setOf zs) K j))) ∧ Below w.heap.size w w' := by
  have q57 := readSet_yes hv hok hl hv2 hzk hl2
  have hn : n ≤ 12 := by have := hok.n12; omega
  have q63 := Keep.mk (fun (g : Nat) (W : World) (hg : GraphAt W g n (adjOf ps)) => dry_any (w := W) hg hn (rnd_force g n (adjOf ps)) hK (fun W' hb => hg.below hb hg.lt))
  obtain ⟨F, hF⟩ : ∃ F, stg (fround (adjOf ps)) (setOf zs) K = F := ⟨_, rfl⟩
  rw [hF] at q63 ⊢
  obtain ⟨S, hS⟩ : ∃ S, setOf zs = S := ⟨_, rfl⟩
  rw [hS] at q57 q63
  obtain ⟨z, hz⟩ : ∃ z, eqb F (allS n) = z := ⟨_, rfl⟩
  rw [hz] at q63 ⊢
  clear hF hS hv hv2 hz
  unfold setV sc at q57
  go_enter Try.func21, Try.ntmps21
  go_wp2_with (first
    | (go_at_call 57; (with_reducible refine q57.mono ?_); rintro e w5 ⟨g, rfl, hg5, hgl, hb5⟩
       obtain ⟨w6, hw6⟩ : ∃ w6, w5.alloc (.cells (sc S) 79) = w6 := ⟨_, rfl⟩
       have hb6 : Below w5.heap.size w5 w6 := by rw [← hw6]; exact (Below.refl _ _).alloc (Nat.le_refl _) _
       have hf6 : SetAt w6 w5.heap.size S := by rw [← hw6]; exact SetAt.new _ _
       have hg6 := (hg5.below hb6 hg5.lt).at
       obtain ⟨x0, x1, x2, x3, x4, x5, x6, x7, x8, x9, x10, x11⟩ := hf6.c12
       have hbb := Keep.mk (And.intro (hb5.trans (hb6.mono hb5.size)) (And.intro hg6 hf6))
       have hz5' := hb5.size
       have q6 := q63.out g w6 hg6
       unfold setV sc at q6
       clear hg5 hb5 hb6 hf6 hg6
       unfold sc at hw6)
    | (go_at_call 63; (with_reducible refine q6.mono ?_); rintro e w7 ⟨h7, hb7⟩
       obtain ⟨lv, er, rfl, hlv⟩ : ∃ lv er, e = .returned (.tuple #[lv, .int .i64 er]) ∧ Keep ((z = true ∧ er = 6 ∧ lv = .slice none 0 0) ∨ (z = false ∧ er = 0 ∧ ListV w6 w7 lv (fun j => allS n j && !F j))) := by
         (rcases h7 with ⟨e1, rfl⟩ | ⟨e1, lv, rfl, e2⟩)
         · exact ⟨_, _, rfl, ⟨.inl ⟨e1, rfl, rfl⟩⟩⟩
         · exact ⟨_, _, rfl, ⟨.inr ⟨e1, rfl, e2⟩⟩⟩
       have hb7k := Keep.mk hb7
       clear h7 hb7 q6))
  refine bodyPost_ret (v := .tuple #[lv, .int .i64 er]) (by simp [results, Try.results21, go_sem]) rfl ?_
  refine ⟨?_, hbb.out.1.trans (hb7k.out.mono hbb.out.1.size)⟩
  rcases hlv.out with ⟨e1, rfl, rfl⟩ | ⟨e1, rfl, e2⟩
  · exact .inl ⟨e1, rfl⟩
  · exact .inr ⟨e1, lv, rfl, row_base e2 hbb.out.1.size⟩
set_option maxHeartbeats 2000000 in
set_option maxRecDepth 100000 in
theorem isFort_yes {n : Nat} {v v2 : Value} {ps : Pts} {zs : List Int} {w : World} (hv : PairsOf w v ps) (hok : GrOk n ps) (hl : ps.length ≤ 200) (hv2 : IntsO w v2 zs) (hzk : ListOk n zs) (hl2 : zs.length ≤ 100) :
    Calls Try.prog 45 #[.int .i64 n, v, v2] w fun e w' => e = .returned (.tuple #[.bool (isF n (adjOf ps) (setOf zs)), .int .i64 0]) ∧ Below w.heap.size w w' := by
  have q57 := readSet_yes hv hok hl hv2 hzk hl2
  have hn : n ≤ 12 := by have := hok.n12; omega
  obtain ⟨S, hS⟩ : ∃ S, setOf zs = S := ⟨_, rfl⟩
  rw [hS] at q57 ⊢
  have q78 : Keep (∀ (g : Nat) (W : World), GraphAt W g n (adjOf ps) → Calls Try.prog 78 #[.pointer (some ⟨g, 0, none⟩), setV S] W fun e w' => e = .returned (.bool (isF n (adjOf ps) S)) ∧ Below W.heap.size W w') := ⟨fun g W hg => isFort_any S hg hn (Wt := dryS n S) (Fc := fround (adjOf ps) (dryS n S)) rfl rfl rfl rfl⟩
  obtain ⟨z, hz⟩ : ∃ z, isF n (adjOf ps) S = z := ⟨_, rfl⟩
  rw [hz] at q78 ⊢
  clear hS hv hv2 hz
  unfold setV sc at q57
  go_enter Try.func45, Try.ntmps45
  go_wp2_with (first
    | (go_at_call 57; (with_reducible refine q57.mono ?_); rintro e w5 ⟨g, rfl, hg5, hgl, hb5⟩
       obtain ⟨w6, hw6⟩ : ∃ w6, w5.alloc (.cells (sc S) 79) = w6 := ⟨_, rfl⟩
       have hb6 : Below w5.heap.size w5 w6 := by rw [← hw6]; exact (Below.refl _ _).alloc (Nat.le_refl _) _
       have hf6 : SetAt w6 w5.heap.size S := by rw [← hw6]; exact SetAt.new _ _
       have hg6 := (hg5.below hb6 hg5.lt).at
       obtain ⟨x0, x1, x2, x3, x4, x5, x6, x7, x8, x9, x10, x11⟩ := hf6.c12
       have hbb := Keep.mk (And.intro (hb5.trans (hb6.mono hb5.size)) (And.intro hg6 hf6))
       have hz5' := hb5.size
       have q6 := q78.out g w6 hg6
       unfold setV sc at q6
       clear hg5 hb5 hb6 hf6 hg6
       unfold sc at hw6)
    | (go_at_call 78; (with_reducible refine q6.mono ?_); rintro e w7 ⟨rfl, hb7⟩
       have hb7k := Keep.mk hb7
       clear hb7 q6))
  refine bodyPost_ret (v := .tuple #[.bool z, .int .i64 0]) (by simp [results, Try.results45, go_sem]) rfl ?_
  exact ⟨rfl, hbb.out.1.trans (hb7k.out.mono hbb.out.1.size)⟩
set_option maxHeartbeats 4000000 in
set_option maxRecDepth 100000 in
theorem soak_yes {n K : Nat} {r : Int} {v v2 : Value} {ps : Pts} {zs : List Int} {w : World} (hv : PairsOf w v ps) (hok : GrOk n ps) (hl : ps.length ≤ 200) (hv2 : IntsO w v2 zs) (hzk : ListOk n zs) (hl2 : zs.length ≤ 100) (hr1 : 1 ≤ r) (hr6 : r ≤ 6)
    (hK : Stops (sokd n (adjOf ps) r) (setOf zs) K) :
    Calls Try.prog 30 #[.int .i64 n, v, v2, .int .i64 r] w fun e w' => ∃ lv, e = .returned (.tuple #[lv, .int .i64 K, .int .i64 0]) ∧ ListV w w' lv (stg (sokd n (adjOf ps) r) (setOf zs) K) ∧ Below w.heap.size w w' := by
  have hmx : Try.prog.follows .mixedOrders = true := by kernel_rfl
  have q57 := readSet_yes hv hok hl hv2 hzk hl2
  have hn : n ≤ 12 := by have := hok.n12; omega
  have q66 := threshold_any r
  rw [decide_eq_true (And.intro hr1 hr6)] at q66
  have q67 := Keep.mk (fun g W => soak_any g r W)
  have q58 : Keep (∀ (g p : Nat) (W : World), GraphAt W g n (adjOf ps) → W.cell? ⟨p, 0, none⟩ = some (.pointer (some ⟨g, 0, none⟩)) → W.cell? ⟨p + 1, 0, none⟩ = some (.int .i64 r) →
      Calls Try.prog 58 #[setV (setOf zs), .func (.func 86) #[] #[.pointer (some ⟨p, 0, none⟩), .pointer (some ⟨p + 1, 0, none⟩)]] W fun e w' => e = .returned (.tuple #[setV (stg (sokd n (adjOf ps) r) (setOf zs) K), .int .i64 K]) ∧ Below W.heap.size W w') := ⟨fun g p W hg h1 h2 =>
    closure_any (w := W) (rnd_soak g n p (p + 1) (adjOf ps) r hn) hK (fun W' hb => ⟨hg.below hb hg.lt, (hb.cell (cell_lt h1)).trans h1, (hb.cell (cell_lt h2)).trans h2⟩)⟩
  obtain ⟨F, hF⟩ : ∃ F, stg (sokd n (adjOf ps) r) (setOf zs) K = F := ⟨_, rfl⟩
  rw [hF] at q58 ⊢
  obtain ⟨S, hS⟩ : ∃ S, setOf zs = S := ⟨_, rfl⟩
  rw [hS] at q57 q58
  have q60 := Keep.mk (fun W => list_any F W)
  clear hF hS hv hv2
  unfold setV sc at q57 q58 q60
  go_enter Try.func30, Try.ntmps30
  go_wp2_with (first
    | (go_at_call 57; (with_reducible refine q57.mono ?_); rintro e w5 ⟨g, rfl, hg5, hgl, hb5⟩
       obtain ⟨w6, hw6⟩ : ∃ w6, w5.alloc (.cells (sc S) 79) = w6 := ⟨_, rfl⟩
       have hb6 : Below w5.heap.size w5 w6 := by rw [← hw6]; exact (Below.refl _ _).alloc (Nat.le_refl _) _
       have hf6 : SetAt w6 w5.heap.size S := by rw [← hw6]; exact SetAt.new _ _
       have hg6 := (hg5.below hb6 hg5.lt).at
       obtain ⟨x0, x1, x2, x3, x4, x5, x6, x7, x8, x9, x10, x11⟩ := hf6.c12
       have hbb := Keep.mk (And.intro (hb5.trans (hb6.mono hb5.size)) (And.intro hg6 hf6))
       have hz5' := hb5.size
       skip
       clear hg5 hb5 hb6 hf6 hg6
       unfold sc at hw6)
    | (go_at_call 66; (with_reducible refine (q66 _).mono ?_); rintro e w7 ⟨rfl, he7⟩; rw [he7]; clear he7 w7))
  obtain ⟨CX, hCX⟩ : ∃ CX : (Nat → Bool) → Nat → Nat → World → Prop, CX = fun t p g14 W => GraphAt W g n (adjOf ps) ∧ SetAt W w5.heap.size S ∧ Below w.heap.size w W ∧ w5.heap.size < W.heap.size ∧ (t 3 = true → t 9 = false → W.cell? ⟨p, 0, none⟩ = some (.pointer (some ⟨g, 0, none⟩)) ∧ W.cell? ⟨p + 1, 0, none⟩ = some (.int .i64 r)) ∧ (t 8 = true → SetAt W g14 (if t 9 = true then F else fun _ => false) ∧ w.heap.size ≤ g14 ∧ g14 ≠ g ∧ g14 ≠ w5.heap.size) := ⟨_, rfl⟩
  have hz5 : w.heap.size ≤ w5.heap.size ∧ w5.heap.size < w6.heap.size := ⟨hz5', hbb.out.2.2.lt⟩
  have hCk : ∀ i, i ≠ 3 → i ≠ 8 → i ≠ 9 → ∀ t p g14 W, CX t p g14 W → CX (Manyd.upd t i) p g14 W := fun i h3 h8 h9 t p g14 W h => by
    rw [hCX] at h ⊢
    simp only at h ⊢
    rw [show Manyd.upd t i 3 = t 3 by simp [Manyd.upd, h3], show Manyd.upd t i 8 = t 8 by simp [Manyd.upd, h8], show Manyd.upd t i 9 = t 9 by simp [Manyd.upd, h9]]; exact h
  have hCb : ∀ t p g14 W, CX t p g14 W → GraphAt W g n (adjOf ps) ∧ SetAt W w5.heap.size S := fun t p g14 W h => by rw [hCX] at h; exact ⟨h.1, h.2.1⟩
  have hCp : ∀ t p g14 W, CX t p g14 W → t 3 = true → t 9 = false → W.cell? ⟨p, 0, none⟩ = some (.pointer (some ⟨g, 0, none⟩)) ∧ W.cell? ⟨p + 1, 0, none⟩ = some (.int .i64 r) := fun t p g14 W h => by rw [hCX] at h; exact h.2.2.2.2.1
  have hCc : ∀ t p g14 W W', CX t p g14 W → Below W.heap.size W W' → CX t p g14 W' := fun t p g14 W W' h hb => by
    rw [hCX] at h ⊢
    obtain ⟨h1, h2, h3, h4, h5, h6⟩ := h
    exact ⟨h1.below hb h1.lt, h2.after hb, h3.trans (hb.mono h3.size), Nat.lt_of_lt_of_le h4 hb.size, fun a c => ⟨(hb.cell (cell_lt (h5 a c).1)).trans (h5 a c).1, (hb.cell (cell_lt (h5 a c).2)).trans (h5 a c).2⟩, fun a => ⟨(h6 a).1.after hb, (h6 a).2⟩⟩
  have hC3 : ∀ t p g14 W W', CX t p g14 W → W' = (W.alloc (.cells #[.pointer (some ⟨g, 0, none⟩)] 77)).alloc (.cells #[.int .i64 r] 3) → CX (Manyd.upd t 3) W.heap.size g14 W' := fun t p g14 W W' h hW => by
    have b0 : Below W.heap.size W (W.alloc (.cells #[.pointer (some ⟨g, 0, none⟩)] 77)) := (Below.refl _ _).alloc (Nat.le_refl _) _
    have b1 : Below (W.heap.size + 1) (W.alloc (.cells #[.pointer (some ⟨g, 0, none⟩)] 77)) W' := by rw [hW]; exact (Below.refl _ _).alloc (by simp) _
    have c0 : W'.heap[W.heap.size]? = some (.cells #[.pointer (some ⟨g, 0, none⟩)] 77 (0, 0)) := (b1.block _ (by omega)).trans (World.alloc_heap_new W _)
    have c1 : W'.heap[W.heap.size + 1]? = some (.cells #[.int .i64 r] 3 (0, 0)) := by
      rw [hW, show W.heap.size + 1 = (W.alloc (.cells #[.pointer (some ⟨g, 0, none⟩)] 77)).heap.size by simp]; exact World.alloc_heap_new _ _
    have h' := hCc t p g14 W W' h (b0.trans (b1.mono (by omega)))
    rw [hCX] at h' ⊢
    simp only at h' ⊢
    rw [show Manyd.upd t 3 8 = t 8 by simp [Manyd.upd], show Manyd.upd t 3 9 = t 9 by simp [Manyd.upd]]
    obtain ⟨h1, h2, h3, h4, h5, h6⟩ := h'
    exact ⟨h1, h2, h3, h4, fun _ _ => ⟨by simp [World.cell?, c0], by simp [World.cell?, c1]⟩, h6⟩
  have hC8 : ∀ t p g14 W, CX t p g14 W → t 9 = false → CX (Manyd.upd t 8) p W.heap.size (W.alloc (.cells (sc (fun _ => false)) 79)) := fun t p g14 W h hn => by
    have h' := hCc t p g14 W _ h ((Below.refl W.heap.size W).alloc (Nat.le_refl _) (.cells (sc (fun _ => false)) 79))
    rw [hCX] at h h' ⊢
    simp only at h h' ⊢
    rw [show Manyd.upd t 8 3 = t 3 by simp [Manyd.upd], show Manyd.upd t 8 9 = t 9 by simp [Manyd.upd], hn]
    rw [hn] at h'
    obtain ⟨h1, h2, h3, h4, h5, h6⟩ := h'
    refine ⟨h1, h2, h3, h4, h5, fun _ => ⟨by simpa using SetAt.new W _, h.2.2.1.size, ?_, ?_⟩⟩
    · have := h.1.lt; omega
    · have := h.2.2.2.1; omega
  have hCz : ∀ t p g14 W, CX t p g14 W → t 8 = true → t 9 = false → SetAt W g14 (fun _ => false) := fun t p g14 W h h8 h9 => by
    rw [hCX] at h
    have := (h.2.2.2.2.2 h8).1
    rw [h9] at this
    simpa using this
  have hC9 : ∀ t p g14 W, CX t p g14 W → t 8 = true → CX (Manyd.upd t 9) p g14 (st12 W g14 F) := fun t p g14 W h h8 => by
    rw [hCX] at h ⊢
    simp only at h ⊢
    rw [show Manyd.upd t 9 3 = t 3 by simp [Manyd.upd], show Manyd.upd t 9 8 = t 8 by simp [Manyd.upd], show Manyd.upd t 9 9 = true by simp [Manyd.upd]]
    obtain ⟨h1, h2, h3, h4, h5, h6⟩ := h
    obtain ⟨k1, k2, k3, k4⟩ := h6 h8
    refine ⟨⟨(World.cell?_of_block (a := ⟨g, 0, none⟩) (st12_heap _ _ _ (by show g ≠ g14; omega))).trans h1.size, fun i j hi hj => (World.cell?_of_block (a := ⟨g, 1 + i * 12 + j, none⟩) (st12_heap _ _ _ (by show g ≠ g14; omega))).trans (h1.at_ i j hi hj)⟩, (st12_heap _ _ _ (by omega)).trans h2, st12_below h3 k2, by rw [st12_size]; exact h4, fun _ e => by simp at e, fun _ => ⟨by simpa using st12_set k1, k2, k3, k4⟩⟩
  have hC0 : ∀ t : Nat → Bool, (∀ j, j < 11 → t j = false) → CX t 0 0 w6.drew := fun t ht => by
    have hb := (Below.refl w6.heap.size w6).drew
    rw [hCX]
    exact ⟨hbb.out.2.1.below hb hbb.out.2.1.lt, hbb.out.2.2.after hb, hbb.out.1.trans (hb.mono hbb.out.1.size), hz5.2, fun e => (by rw [ht 3 (by decide)] at e; cases e), fun e => (by rw [ht 8 (by decide)] at e; cases e)⟩
  have hCf : ∀ t p g14 W, CX t p g14 W → t 8 = true → t 9 = true → Keep (SetAt W g14 F ∧ Below w.heap.size w W) := fun t p g14 W h h8 h9 => by
    rw [hCX] at h
    have := (h.2.2.2.2.2 h8).1
    rw [h9] at this
    exact ⟨by simpa using this, h.2.2.1⟩
  clear hCX hbb hz5 hw6
  refine (wpIn_wide (n := 0)).1 ?_
  refine Inv.region_inv (fun t a W => ∃ p, ∃ g14, a = { tmps := #[.int .i64 n, v, v2, .int .i64 r, undef, undef, undef, undef, .slice none 0 0, .int .i64 0, .int .i64 0, .pointer (some ⟨g, 0, none⟩), .pointer (some ⟨w5.heap.size, 0, none⟩), .bool true, if t 8 = true then .pointer (some ⟨g14, 0, none⟩) else undef, if t 10 = true then .int .i64 K else undef, .tuple #[.pointer (some ⟨g, 0, none⟩), .agg #[.bool (S 0), .bool (S 1), .bool (S 2), .bool (S 3), .bool (S 4), .bool (S 5), .bool (S 6), .bool (S 7), .bool (S 8), .bool (S 9), .bool (S 10), .bool (S 11)], .bool true], .int .i64 n, v, v2, .tuple #[.pointer (some ⟨g, 0, none⟩), .agg #[.bool (S 0), .bool (S 1), .bool (S 2), .bool (S 3), .bool (S 4), .bool (S 5), .bool (S 6), .bool (S 7), .bool (S 8), .bool (S 9), .bool (S 10), .bool (S 11)], .bool true], .pointer (some ⟨g, 0, none⟩), .agg #[.bool (S 0), .bool (S 1), .bool (S 2), .bool (S 3), .bool (S 4), .bool (S 5), .bool (S 6), .bool (S 7), .bool (S 8), .bool (S 9), .bool (S 10), .bool (S 11)], .bool true, .bool true, .bool false, .bool false, .int .i64 r, .bool true, .bool false, .bool false, if t 5 = true then .tuple #[.agg #[.bool (F 0), .bool (F 1), .bool (F 2), .bool (F 3), .bool (F 4), .bool (F 5), .bool (F 6), .bool (F 7), .bool (F 8), .bool (F 9), .bool (F 10), .bool (F 11)], .int .i64 K] else undef, if t 0 = true then .agg #[.bool (S 0), .bool (S 1), .bool (S 2), .bool (S 3), .bool (S 4), .bool (S 5), .bool (S 6), .bool (S 7), .bool (S 8), .bool (S 9), .bool (S 10), .bool (S 11)] else undef, if t 1 = true then .pointer (some ⟨g, 0, none⟩) else undef, if t 2 = true then .int .i64 r else undef, if t 3 = true then .func (.func 86) #[] #[.pointer (some ⟨p, 0, none⟩), .pointer (some ⟨p + 1, 0, none⟩)] else undef, if t 4 = true then .tuple #[.agg #[.bool (F 0), .bool (F 1), .bool (F 2), .bool (F 3), .bool (F 4), .bool (F 5), .bool (F 6), .bool (F 7), .bool (F 8), .bool (F 9), .bool (F 10), .bool (F 11)], .int .i64 K] else undef, if t 6 = true then .agg #[.bool (F 0), .bool (F 1), .bool (F 2), .bool (F 3), .bool (F 4), .bool (F 5), .bool (F 6), .bool (F 7), .bool (F 8), .bool (F 9), .bool (F 10), .bool (F 11)] else undef, if t 7 = true then .int .i64 K else undef, undef, undef, undef], defers := [] } ∧ CX t p g14 W) hmx (by kernel_rfl) ?_ ?_ ?_
  · intro t hs
    refine ⟨0, 0, ?_, hC0 t (fun j hj => hs j hj)⟩
    simp only [hs 0 (by decide), hs 1 (by decide), hs 2 (by decide), hs 3 (by decide), hs 4 (by decide), hs 5 (by decide), hs 6 (by decide), hs 7 (by decide), hs 8 (by decide), hs 9 (by decide), hs 10 (by decide), Bool.false_eq_true, if_false]
  · refine ⟨?_, ?_, ?_, ?_, ?_, ?_, ?_, ?_, ?_, ?_, ?_, trivial⟩
    · rintro t a W hun hdep hbeh ⟨p, g14, rfl, hT⟩
      (try simp only [Nat.reduceAdd] at hun)
      obtain ⟨e0, e1, e2, e3, e4, e5, e6, e7, e8, e9, e10, e11⟩ := (hCb t p g14 W hT).2.c12
      refine .inl ⟨by rfl, Inv.comesV_val (.agg #[.bool (S 0), .bool (S 1), .bool (S 2), .bool (S 3), .bool (S 4), .bool (S 5), .bool (S 6), .bool (S 7), .bool (S 8), .bool (S 9), .bool (S 10), .bool (S 11)]) W (by (clear hT; go_simp; (try rfl); try (intro hneg; omega))) ⟨p, g14, by (simp only [Act.put, List.setIfInBounds_toArray, List.set_cons_succ, List.set_cons_zero, Manyd.upd, Nat.reduceAdd, Nat.reduceBEq, Bool.or_false, Bool.or_true, if_true]), hCk 0 (by decide) (by decide) (by decide) t p g14 W hT⟩⟩
    · rintro t a W hun hdep hbeh ⟨p, g14, rfl, hT⟩
      (try simp only [Nat.reduceAdd] at hun)
      refine .inl ⟨by rfl, Inv.comesV_val (.pointer (some ⟨g, 0, none⟩)) W (by (clear hT; go_simp; (try rfl); try (intro hneg; omega))) ⟨p, g14, by (simp only [Act.put, List.setIfInBounds_toArray, List.set_cons_succ, List.set_cons_zero, Manyd.upd, Nat.reduceAdd, Nat.reduceBEq, Bool.or_false, Bool.or_true, if_true]), hCk 1 (by decide) (by decide) (by decide) t p g14 W hT⟩⟩
    · rintro t a W hun hdep hbeh ⟨p, g14, rfl, hT⟩
      (try simp only [Nat.reduceAdd] at hun)
      refine .inl ⟨by rfl, Inv.comesV_val (.int .i64 r) W (by (clear hT; go_simp; (try rfl); try (intro hneg; omega))) ⟨p, g14, by (simp only [Act.put, List.setIfInBounds_toArray, List.set_cons_succ, List.set_cons_zero, Manyd.upd, Nat.reduceAdd, Nat.reduceBEq, Bool.or_false, Bool.or_true, if_true]), hCk 2 (by decide) (by decide) (by decide) t p g14 W hT⟩⟩
    · rintro t a W hun hdep hbeh ⟨p, g14, rfl, hT⟩
      (try simp only [Nat.reduceAdd] at hun)
      have h1 : t 1 = true := Inv.depB_mem 1 hdep (by rfl)
      have h2 : t 2 = true := Inv.depB_mem 2 hdep (by rfl)
      refine .inl ⟨by rfl, Inv.comesV_call 67 #[.pointer (some ⟨g, 0, none⟩), .int .i64 r] W (by (simp only [h1, h2, if_true]; clear hT; go_simp; try rfl)) ((q67.out g W).mono fun e w5 hw5 => ⟨.func (.func 86) #[] #[.pointer (some ⟨W.heap.size, 0, none⟩), .pointer (some ⟨W.heap.size + 1, 0, none⟩)], hw5.1, W.heap.size, g14, ?_, ?_⟩)⟩
      · simp only [Act.put, List.setIfInBounds_toArray, List.set_cons_succ, List.set_cons_zero, Manyd.upd, Nat.reduceAdd, Nat.reduceBEq, Bool.or_false, Bool.or_true, if_true]
      · exact hC3 t p g14 W w5 hT hw5.2
    · rintro t a W hun hdep hbeh ⟨p, g14, rfl, hT⟩
      (try simp only [Nat.reduceAdd] at hun)
      have h0 : t 0 = true := Inv.depB_mem 0 hdep (by rfl)
      have h3 : t 3 = true := Inv.depB_mem 3 hdep (by rfl)
      have hn9 : t 9 = false := hbeh 9 (by kernel_rfl)
      refine .inl ⟨by rfl, Inv.comesV_call 58 #[.agg #[.bool (S 0), .bool (S 1), .bool (S 2), .bool (S 3), .bool (S 4), .bool (S 5), .bool (S 6), .bool (S 7), .bool (S 8), .bool (S 9), .bool (S 10), .bool (S 11)], .func (.func 86) #[] #[.pointer (some ⟨p, 0, none⟩), .pointer (some ⟨p + 1, 0, none⟩)]] W (by (simp only [h0, h3, if_true]; clear hT; go_simp; try rfl)) ((q58.out g p W (hCb t p g14 W hT).1 (hCp t p g14 W hT h3 hn9).1 (hCp t p g14 W hT h3 hn9).2).mono fun e w5 hw5 => ⟨.tuple #[.agg #[.bool (F 0), .bool (F 1), .bool (F 2), .bool (F 3), .bool (F 4), .bool (F 5), .bool (F 6), .bool (F 7), .bool (F 8), .bool (F 9), .bool (F 10), .bool (F 11)], .int .i64 K], hw5.1, p, g14, ?_, ?_⟩)⟩
      · simp only [Act.put, List.setIfInBounds_toArray, List.set_cons_succ, List.set_cons_zero, Manyd.upd, Nat.reduceAdd, Nat.reduceBEq, Bool.or_false, Bool.or_true, if_true]
      · exact hCk 4 (by decide) (by decide) (by decide) t p g14 w5 (hCc t p g14 W w5 hT hw5.2)
    · rintro t a W hun hdep hbeh ⟨p, g14, rfl, hT⟩
      (try simp only [Nat.reduceAdd] at hun)
      have h4 : t 4 = true := Inv.depB_mem 4 hdep (by rfl)
      refine .inl ⟨by rfl, Inv.comesV_val (.tuple #[.agg #[.bool (F 0), .bool (F 1), .bool (F 2), .bool (F 3), .bool (F 4), .bool (F 5), .bool (F 6), .bool (F 7), .bool (F 8), .bool (F 9), .bool (F 10), .bool (F 11)], .int .i64 K]) W (by (simp only [h4, if_true]; clear hT; go_simp; (try rfl); try (intro hneg; omega))) ⟨p, g14, by (simp only [Act.put, List.setIfInBounds_toArray, List.set_cons_succ, List.set_cons_zero, Manyd.upd, Nat.reduceAdd, Nat.reduceBEq, Bool.or_false, Bool.or_true, if_true]), hCk 5 (by decide) (by decide) (by decide) t p g14 W hT⟩⟩
    · rintro t a W hun hdep hbeh ⟨p, g14, rfl, hT⟩
      (try simp only [Nat.reduceAdd] at hun)
      have h5 : t 5 = true := Inv.depB_mem 5 hdep (by rfl)
      refine .inl ⟨by rfl, Inv.comesV_val (.agg #[.bool (F 0), .bool (F 1), .bool (F 2), .bool (F 3), .bool (F 4), .bool (F 5), .bool (F 6), .bool (F 7), .bool (F 8), .bool (F 9), .bool (F 10), .bool (F 11)]) W (by (simp only [h5, if_true]; clear hT; go_simp; (try rfl); try (intro hneg; omega))) ⟨p, g14, by (simp only [Act.put, List.setIfInBounds_toArray, List.set_cons_succ, List.set_cons_zero, Manyd.upd, Nat.reduceAdd, Nat.reduceBEq, Bool.or_false, Bool.or_true, if_true]), hCk 6 (by decide) (by decide) (by decide) t p g14 W hT⟩⟩
    · rintro t a W hun hdep hbeh ⟨p, g14, rfl, hT⟩
      (try simp only [Nat.reduceAdd] at hun)
      have h5 : t 5 = true := Inv.depB_mem 5 hdep (by rfl)
      refine .inl ⟨by rfl, Inv.comesV_val (.int .i64 K) W (by (simp only [h5, if_true]; clear hT; go_simp; (try rfl); try (intro hneg; omega))) ⟨p, g14, by (simp only [Act.put, List.setIfInBounds_toArray, List.set_cons_succ, List.set_cons_zero, Manyd.upd, Nat.reduceAdd, Nat.reduceBEq, Bool.or_false, Bool.or_true, if_true]), hCk 7 (by decide) (by decide) (by decide) t p g14 W hT⟩⟩
    · rintro t a W hun hdep hbeh ⟨p, g14, rfl, hT⟩
      (try simp only [Nat.reduceAdd] at hun)
      have hn9 : t 9 = false := hbeh 9 (by kernel_rfl)
      refine .inl ⟨by rfl, Inv.comesV_val (.pointer (some ⟨W.heap.size, 0, none⟩)) (W.alloc (.cells (sc (fun _ => false)) 79)) (by (clear hT; unfold sc; go_simp; try rfl)) ⟨p, W.heap.size, by (simp only [Act.put, List.setIfInBounds_toArray, List.set_cons_succ, List.set_cons_zero, Manyd.upd, Nat.reduceAdd, Nat.reduceBEq, Bool.or_false, Bool.or_true, if_true]), hC8 t p g14 W hT hn9⟩⟩
    · rintro t a W hun hdep hbeh ⟨p, g14, rfl, hT⟩
      (try simp only [Nat.reduceAdd] at hun)
      have h8 : t 8 = true := Inv.depB_mem 8 hdep (by rfl)
      have h6 : t 6 = true := Inv.depB_mem 6 hdep (by rfl)
      have h14 := hCz t p g14 W hT h8 hun
      obtain ⟨z0, z1, z2, z3, z4, z5, z6, z7, z8, z9, z10, z11⟩ := h14.c12
      obtain ⟨f0, f1, f2, f3, f4, f5, f6, f7, f8, f9, f10, f11⟩ := h14.f12
      refine .inl ⟨by rfl, Inv.comesV_skip (st12 W g14 F) (by (simp only [h8, h6, if_true]; clear hT; unfold st12; go_simp; try rfl)) ⟨p, g14, by (simp only [Act.put, List.setIfInBounds_toArray, List.set_cons_succ, List.set_cons_zero, Manyd.upd, Nat.reduceAdd, Nat.reduceBEq, Bool.or_false, Bool.or_true, if_true]), hC9 t p g14 W hT h8⟩⟩
    · rintro t a W hun hdep hbeh ⟨p, g14, rfl, hT⟩
      (try simp only [Nat.reduceAdd] at hun)
      have h7 : t 7 = true := Inv.depB_mem 7 hdep (by rfl)
      refine .inl ⟨by rfl, Inv.comesV_val (.int .i64 K) W (by (simp only [h7, if_true]; clear hT; go_simp; (try rfl); try (intro hneg; omega))) ⟨p, g14, by (simp only [Act.put, List.setIfInBounds_toArray, List.set_cons_succ, List.set_cons_zero, Manyd.upd, Nat.reduceAdd, Nat.reduceBEq, Bool.or_false, Bool.or_true, if_true]), hCk 10 (by decide) (by decide) (by decide) t p g14 W hT⟩⟩
  rintro t a W hs ⟨p, g14, rfl, hT⟩
  have hf := hCf t p g14 W hT (hs 8 (by decide)) (hs 9 (by decide))
  simp only [hs 0 (by decide), hs 1 (by decide), hs 2 (by decide), hs 3 (by decide), hs 4 (by decide), hs 5 (by decide), hs 6 (by decide), hs 7 (by decide), hs 8 (by decide), hs 9 (by decide), hs 10 (by decide), if_true]
  clear hT hs hCf hC0 hCc hCb hCk hC3 hC8 hCz hC9 hCp
  obtain ⟨y0, y1, y2, y3, y4, y5, y6, y7, y8, y9, y10, y11⟩ := hf.out.1.c12
  go_wp2_with (first
    | (go_at_call 60; (with_reducible refine (q60.out _).mono ?_); rintro e w9 ⟨lv, rfl, hrow, hb9⟩
       have hfin := Keep.mk (And.intro hrow hb9)
       clear hrow hb9))
  refine bodyPost_ret (v := .tuple #[lv, .int .i64 K, .int .i64 0]) (by simp [results, Try.results30, go_sem]) rfl ?_
  exact ⟨lv, rfl, row_base hfin.out.1 hf.out.2.size, hf.out.2.trans (hfin.out.2.mono hf.out.2.size)⟩
end Go.Proofs.Yteekigpdiklppaa
set_option linter.unusedSimpArgs false
set_option linter.unusedVariables false
namespace Go.Proofs.Yteekigpdiklppaa
open Go Go.Proofs Go.RowKit Go.Seq
attribute [local go_sem] Oper.semAt_some
def pairM (N : Nat) (p : Int × Int) : Int × Int := (((min (modN p.1 N) (modN p.2 N) : Nat) : Int), ((max (modN p.1 N) (modN p.2 N) : Nat) : Int))
def tameStep (N : Nat) (out : Pts) (p : Int × Int) : Pts := if (decide (modN p.1 N = modN p.2 N) || out.any fun q => decide (q = pairM N p)) = true then out else out ++ [pairM N p]
def tameE (N : Nat) (ps : Pts) : Pts := ps.foldl (tameStep N) []
theorem tameE_snoc (N : Nat) (ps : Pts) (p : Int × Int) : tameE N (ps ++ [p]) = tameStep N (tameE N ps) p := by simp [tameE]
def codeF (out : Pts) (c : Nat) : Bool := out.any fun p => decide (p.1 * 12 + p.2 = (c : Int))
structure TOk (N : Nat) (out : Pts) : Prop where
  ed : ∀ k, k < out.length → EdgeOk N (out.take k) (out.getD k (0, 0))
  len : out.length ≤ (vsTo (codeF out) 144).length
theorem TOk.mem {N : Nat} {out : Pts} (h : TOk N out) {p : Int × Int} (hp : p ∈ out) : 0 ≤ p.1 ∧ p.1 < p.2 ∧ p.2 < (N : Int) := by
  obtain ⟨k, hk, rfl⟩ := List.getElem_of_mem hp
  have := h.ed k hk
  rw [List.getD_eq_getElem?_getD, List.getElem?_eq_getElem hk] at this
  exact ⟨this.a0, this.ab, this.bn⟩
theorem TOk.le {N : Nat} {out : Pts} (h : TOk N out) : out.length ≤ 144 := Nat.le_trans h.len (vsTo_len _ _)
theorem TOk.nil (N : Nat) : TOk N [] := ⟨fun k hk => by simp at hk, by simp⟩
theorem TOk.push {N : Nat} (hN : N ≤ 12) {out : Pts} (h : TOk N out) {x : Int × Int} (h0 : 0 ≤ x.1) (h1 : x.1 < x.2) (h2 : x.2 < (N : Int)) (hn : x ∉ out) : TOk N (out ++ [x]) := by
  refine ⟨fun k hk => ?_, ?_⟩
  · rw [List.length_append] at hk
    by_cases e : k < out.length
    · rw [List.take_append_of_le_length (by omega), List.getD_eq_getElem?_getD, List.getElem?_append_left e, ← List.getD_eq_getElem?_getD]
      exact h.ed k e
    · have e2 : k = out.length := by simp at hk; omega
      subst e2
      rw [List.take_append_of_le_length (Nat.le_refl _), List.take_length, List.getD_eq_getElem?_getD, List.getElem?_append_right (Nat.le_refl _)]
      simp only [Nat.sub_self, List.getElem?_cons_zero, Option.getD_some]
      refine ⟨h0, by omega, by omega, h2, h1, ?_⟩
      unfold adjOf
      rw [List.any_eq_false]
      intro p hp
      obtain ⟨p0, p1, p2⟩ := h.mem hp
      have hne : ¬ (p.1 = x.1 ∧ p.2 = x.2) := fun e => hn (by rw [show x = p from Prod.ext e.1.symm e.2.symm]; exact hp)
      simp only [Bool.or_eq_true, Bool.and_eq_true, beq_iff_eq]
      omega
  · obtain ⟨c, hc⟩ : ∃ c : Nat, (c : Int) = x.1 * 12 + x.2 := ⟨(x.1 * 12 + x.2).toNat, by omega⟩
    have hmono : ∀ j, codeF out j = true → codeF (out ++ [x]) j = true := fun j hj => by
      unfold codeF at *
      rw [List.any_append, hj]; rfl
    have hlt := (vsTo_mono hmono 144).2 ⟨c, by omega, ?_, ?_⟩
    · have := h.len
      rw [List.length_append]
      simp only [List.length_cons, List.length_nil]
      omega
    · unfold codeF
      rw [List.any_eq_false]
      intro p hp
      obtain ⟨p0, p1, p2⟩ := h.mem hp
      simp only [decide_eq_true_eq]
      intro e
      exact hn (by rw [show x = p from Prod.ext (by omega) (by omega)]; exact hp)
    · unfold codeF
      rw [List.any_append]
      simp [hc]
theorem tame_ok {N : Nat} (h1 : 1 ≤ N) (hN : N ≤ 12) : ∀ (ps : Pts) (out : Pts), TOk N out → TOk N (ps.foldl (tameStep N) out)
  | [], out, h => h
  | p :: l, out, h => by
    simp only [List.foldl_cons]
    refine tame_ok h1 hN l _ ?_
    unfold tameStep
    split
    · exact h
    · rename_i hne
      rw [Bool.or_eq_true, not_or] at hne
      obtain ⟨e1, e2⟩ := hne
      have ha := modN_lt p.1 h1
      have hb := modN_lt p.2 h1
      have hab : modN p.1 N ≠ modN p.2 N := by simpa using e1
      refine h.push hN (by show (0 : Int) ≤ ((_ : Nat) : Int); omega) ?_ ?_ ?_
      · show ((_ : Nat) : Int) < ((_ : Nat) : Int); omega
      · show ((_ : Nat) : Int) < (N : Int); omega
      · intro hm
        refine e2 ?_
        rw [List.any_eq_true]
        exact ⟨_, hm, by simp⟩
theorem tameE_ok {N : Nat} (h1 : 1 ≤ N) (hN : N ≤ 12) (ps : Pts) : TOk N (tameE N ps) := tame_ok h1 hN ps [] (.nil N)
theorem tameE_gr {N : Nat} (h1 : 1 ≤ N) (hN : N ≤ 12) (ps : Pts) : GrOk N (tameE N ps) := ⟨by omega, by omega, (tameE_ok h1 hN ps).ed⟩
set_option maxRecDepth 100000 in
theorem eq63 (x y a b : Int) (w : World) : (Op.equalIn 10000 63 (.agg #[.int .i64 x, .int .i64 y]) (.agg #[.int .i64 a, .int .i64 b])).run Try.prog w = .ok (decide ((x, y) = (a, b))) w := by
  have u3 := Try.underlying3
  have a3 := Try.isAgg3
  have z3 := Try.sizeOf3
  rw [show (10000 : Nat) = 9999 + 1 from rfl, Op.equalIn]
  simp only [Sem.run_bind, run_underlying Try.underlying63, Result.andThen_ok]
  simp only [Std.Legacy.Range.forIn_eq_forIn_range', Std.Legacy.Range.size, Nat.sub_zero, Nat.add_sub_cancel, Nat.div_one, List.range'_succ, List.range'_zero, List.forIn_cons, List.forIn_nil]
  by_cases h0 : x = a
  · by_cases h1 : y = b
    · subst h0 h1
      rw [decide_eq_true rfl]
      go_simp
      try simp
    · rw [decide_eq_false (fun h => h1 (Prod.mk.inj h).2)]
      go_simp
      try simp [h0, h1]
  · rw [decide_eq_false (fun h => h0 (Prod.mk.inj h).1)]
    go_simp
    try simp [h0]
end Go.Proofs.Yteekigpdiklppaa
set_option linter.unusedSimpArgs false
set_option linter.unusedVariables false
namespace Go.Proofs.Yteekigpdiklppaa
open Go Go.Proofs Go.RowKit Go.Seq
attribute [local go_sem] Oper.semAt_some
/-- A list of pairs that came in. -/
def PairsO (w : World) (v : Value) (ps : Pts) : Prop :=
  ∃ A cap, v = .slice A ps.length cap ∧ ∀ k, k < ps.length → ∃ g o, A = some ⟨g, o, none⟩ ∧ w.cell? ⟨g, o + k * 2, none⟩ = some (.int .i64 (ps.getD k (0, 0)).1) ∧ w.cell? ⟨g, o + k * 2 + 1, none⟩ = some (.int .i64 (ps.getD k (0, 0)).2)
def enc2 (ps : Pts) : List Value := ps.flatMap fun p => [vz p.1, vz p.2]
theorem enc2_push (ps : Pts) (x y : Int) : enc2 (ps ++ [(x, y)]) = enc2 ps ++ [.int .i64 x, .int .i64 y] := by simp [enc2, vz]
theorem enc2_len (ps : Pts) : (enc2 ps).length = ps.length * 2 := by
  unfold enc2
  induction ps with
  | nil => rfl
  | cons p l ih => simp only [List.flatMap_cons, List.length_append, List.length_cons, List.length_nil, ih]; omega
theorem enc2_at : ∀ (ps : Pts) {k : Nat}, k < ps.length → (enc2 ps)[k * 2]? = some (vz (ps.getD k (0, 0)).1) ∧ (enc2 ps)[k * 2 + 1]? = some (vz (ps.getD k (0, 0)).2)
  | [], k, h => by simp at h
  | p :: l, 0, h => by simp [enc2]
  | p :: l, k + 1, h => by
    have := enc2_at l (k := k) (by simpa using h)
    rw [show (k + 1) * 2 = k * 2 + 1 + 1 by omega]
    simpa [enc2] using this
theorem own_pairs {w : World} {B : Nat} {v : Value} {ps : Pts} (h : w.ownsRow B 63 2 v ps.length (enc2 ps)) : PairsOf w v ps := by
  obtain ⟨h1, h2⟩ := h
  rcases h2 with ⟨rfl, h0⟩ | ⟨g, cap, cur, rfl, hg, hh, hn, hcap, hsz, htake⟩
  · exact ⟨none, 0, by rw [h0], fun k hk => by omega⟩
  · refine ⟨_, cap, rfl, fun k hk => ⟨g, rfl, ?_, ?_⟩⟩
    · have e : (cur.toList.take (ps.length * 2))[k * 2]? = (enc2 ps)[k * 2]? := by rw [htake]
      rw [List.getElem?_take_of_lt (by omega), (enc2_at ps hk).1] at e
      have : cur[k * 2]? = some (vz (ps.getD k (0, 0)).1) := by rw [← Array.getElem?_toList, e]
      simp [World.cell?, hh, this, vz]
    · have e : (cur.toList.take (ps.length * 2))[k * 2 + 1]? = (enc2 ps)[k * 2 + 1]? := by rw [htake]
      rw [List.getElem?_take_of_lt (by omega), (enc2_at ps hk).2] at e
      have : cur[k * 2 + 1]? = some (vz (ps.getD k (0, 0)).2) := by rw [← Array.getElem?_toList, e]
      simp [World.cell?, hh, this, vz]
theorem cell_two_new (w : World) (a b : Value) (t : TypeId) : ∀ j u, [a, b][j]? = some u → (w.alloc (.cells #[a, b] t)).cell? ((⟨w.heap.size, 0, none⟩ : Addr).add j) = some u := by
  intro j u hj
  match j, hj with
  | 0, hj => simp at hj; subst hj; simp [Addr.add]
  | 1, hj => simp at hj; subst hj; simp [Addr.add]
  | j + 2, hj => simp at hj
theorem two_one (x y : Int) : ∀ u ∈ [Value.int .i64 x, Value.int .i64 y], u.oneCell' = true := by
  intro u hu
  simp only [List.mem_cons, List.not_mem_nil, or_false] at hu
  rcases hu with rfl | rfl <;> rfl
theorem ty22 : Try.prog.underlying 22 = some (.slice 63) := by kernel_rfl
theorem info63 : (Try.prog.info? 63).map (fun i => (i.zero, i.size, i.bytes)) = some (some (.agg #[.int .i64 0, .int .i64 0]), 2, 16) := by kernel_rfl
set_option maxHeartbeats 2000000 in
set_option maxRecDepth 100000 in
theorem tame_any (n0 : Int) {v : Value} {ps : Pts} {w : World} (hv : PairsO w v ps) (hl : ps.length ≤ 9223372036854775807) :
    Calls Try.prog 50 #[.int .i64 n0, v] w fun e w' => ∃ v', e = .returned (.tuple #[.int .i64 (1 + modN n0 12 : Nat), v']) ∧ w'.ownsRow w.heap.size 63 2 v' (tameE (1 + modN n0 12) ps).length (enc2 (tameE (1 + modN n0 12) ps)) ∧ Below w.heap.size w w' := by
  have hmx : Try.prog.follows .mixedOrders = true := by kernel_rfl
  obtain ⟨i0, hi0, hz0, hz1, hz2⟩ : ∃ i, Try.prog.info? 63 = some i ∧ i.zero = some (.agg #[.int .i64 0, .int .i64 0]) ∧ i.size = 2 ∧ i.bytes = 16 := by
    have h := info63
    cases hI : Try.prog.info? 63 with
    | none => rw [hI] at h; cases h
    | some i =>
      rw [hI] at h
      simp only [Option.map_some, Option.some.injEq, Prod.mk.injEq] at h
      exact ⟨i, rfl, h.1, h.2.1, h.2.2⟩
  obtain ⟨A, cap, rfl, hc⟩ := hv
  have hck := Keep.mk hc
  have q0 : ∀ w, Calls Try.prog 53 #[.int .i64 n0, .int .i64 12] w fun e w' => e = .returned (.int .i64 (modN n0 12 : Nat)) ∧ w' = w := fun w => mod_any n0 (m := 12) (by omega) (by omega) w
  have hml := modN_lt n0 (m := 12) (by omega)
  obtain ⟨M, hM⟩ : ∃ M, modN n0 12 = M := ⟨_, rfl⟩
  rw [hM] at q0 hml ⊢
  obtain ⟨N, hN⟩ : ∃ N, 1 + M = N := ⟨_, rfl⟩
  rw [hN]
  have hN1 : 1 ≤ N := by omega
  have hN12 : N ≤ 12 := by omega
  have hNw : IntKind.i64.wrap (1 + (M : Int)) = (N : Int) := by rw [show (1 : Int) + M = N by omega]; exact IntWalk.i64_in _ (by omega)
  have htk := Keep.mk (fun k => tameE_ok hN1 hN12 (ps.take k))
  obtain ⟨m, hm⟩ : ∃ m, Keep (ps.length = m) := ⟨_, ⟨rfl⟩⟩
  rw [hm.out] at hl hck ⊢
  clear hc hM hN
  go_enter Try.func50, Try.ntmps50
  go_wp2_with (first
    | (go_at_call 53; (with_reducible refine (q0 _).mono ?_); rintro e w5 ⟨rfl, he5⟩; rw [he5]; clear he5 w5))
  clear q0
  go_loopw [7, 6] (fun i o wr => ∃ k : Nat, k ≤ m ∧ i = .int .i64 k ∧ Keep (wr.ownsRow w.heap.size 63 2 o (tameE N (ps.take k)).length (enc2 (tameE N (ps.take k))) ∧ Below w.heap.size w wr) ∧ ∃ A2 d2, o = .slice A2 (tameE N (ps.take k)).length d2) (fun i _ _ => m - (intOf i).toNat)
  case atStart => exact ⟨0, by omega, rfl, ⟨by simpa [tameE, enc2] using World.ownsRow_nil _ _ _ _, Below.refl _ _⟩, _, _, by first | rfl | simp [tameE]⟩
  case round =>
    obtain ⟨k, hk, rfl, hI, A2, d2, rfl⟩ := hrel
    by_cases hlt : k < m
    · have hw1 : IntKind.i64.wrap ((k : Int) + 1) = (k : Int) + 1 := IntWalk.i64_in _ (by omega)
      have hlt' : (k : Int) < (m : Int) := by omega
      obtain ⟨g, o, rfl, c0, c1⟩ := hck.out k hlt
      have c0 := cell_below c0 hI.out.2
      have c1 := cell_below c1 hI.out.2
      have hpush : tameE N (ps.take (k + 1)) = tameStep N (tameE N (ps.take k)) (ps.getD k (0, 0)) := by rw [takep (by rw [hm.out]; exact hlt), tameE_snoc]
      have hTk := htk.out k
      have hTk1 := htk.out (k + 1)
      obtain ⟨E, hE⟩ : ∃ E, tameE N (ps.take k) = E := ⟨_, rfl⟩
      rw [hE] at hI hpush hTk ⊢
      generalize ps.getD k (0, 0) = p at c0 c1 hpush
      obtain ⟨x, y⟩ := p
      simp only at c0 c1
      have qa := mod_any x (m := N) hN1 (by omega)
      have qb := mod_any y (m := N) hN1 (by omega)
      have hla := modN_lt x hN1
      have hlb := modN_lt y hN1
      unfold tameStep pairM at hpush
      simp only at hpush
      obtain ⟨a, ha⟩ : ∃ a, modN x N = a := ⟨_, rfl⟩
      obtain ⟨b, hb⟩ : ∃ b, modN y N = b := ⟨_, rfl⟩
      rw [ha] at qa hla hpush
      rw [hb] at qb hlb hpush
      have nk : ¬ (k : Int) < 0 := by omega
      have hIk := hI
      clear hE ha hb hI
      go_wp2
      refine (wpIn_wide (n := 0)).1 ?_
      refine Many.region_many (Cq wr) hmx (by kernel_rfl) (fun s s' W' h hc => hc) (fun s hs => ⟨1, rfl⟩) ?_
      refine Many.lex_want (by rfl) (rd (v := .slice (some ⟨g, o, none⟩) m cap) (fun q => by (go_simp; (try rfl); (try (intro hneg; omega))))) ?_
      simp only [Act.put, List.setIfInBounds_toArray, List.set_cons_succ, List.set_cons_zero, Nat.reduceAdd]
      refine Many.lex_want (by rfl) (rd (v := .int .i64 k) (fun q => by (go_simp; (try rfl); (try (intro hneg; omega))))) ?_
      simp only [Act.put, List.setIfInBounds_toArray, List.set_cons_succ, List.set_cons_zero, Nat.reduceAdd]
      refine Many.lex_want (by rfl) (rd (v := .pointer (some ⟨g, o + k * 2, none⟩)) (fun q => by (go_simp; (try rfl); (try (intro hneg; omega))))) ?_
      simp only [Act.put, List.setIfInBounds_toArray, List.set_cons_succ, List.set_cons_zero, Nat.reduceAdd]
      refine Many.lex_want (by rfl) (rd (v := .pointer (some ⟨g, o + k * 2, none⟩)) (fun q => by (go_simp; (try rfl); (try (intro hneg; omega))))) ?_
      simp only [Act.put, List.setIfInBounds_toArray, List.set_cons_succ, List.set_cons_zero, Nat.reduceAdd]
      refine Many.lex_want (by rfl) (rd (v := .int .i64 x) (fun q => by (go_simp; (try rfl); (try (intro hneg; omega))))) ?_
      simp only [Act.put, List.setIfInBounds_toArray, List.set_cons_succ, List.set_cons_zero, Nat.reduceAdd]
      refine Many.lex_want (by rfl) (rd (v := .int .i64 N) (fun q => by (go_simp; (try rfl); (try (intro hneg; omega))))) ?_
      simp only [Act.put, List.setIfInBounds_toArray, List.set_cons_succ, List.set_cons_zero, Nat.reduceAdd]
      refine Many.lex_want (by rfl) (Many.tr_call (v := .int .i64 a) (f := 53) (args := #[.int .i64 x, .int .i64 N]) (fun w' => ∃ q, w' = wr.drewN q) (fun _ _ h => h) (fun s0 W h => (qa W).mono (fun e W' hw' => ⟨hw'.1, by rw [hw'.2]; exact h⟩)) (fun W h => by obtain ⟨q, rfl⟩ := h; go_simp; try rfl)) ?_
      simp only [Act.put, List.setIfInBounds_toArray, List.set_cons_succ, List.set_cons_zero, Nat.reduceAdd]
      refine Many.lex_want (by rfl) (rd (v := .slice (some ⟨g, o, none⟩) m cap) (fun q => by (go_simp; (try rfl); (try (intro hneg; omega))))) ?_
      simp only [Act.put, List.setIfInBounds_toArray, List.set_cons_succ, List.set_cons_zero, Nat.reduceAdd]
      refine Many.lex_want (by rfl) (rd (v := .int .i64 k) (fun q => by (go_simp; (try rfl); (try (intro hneg; omega))))) ?_
      simp only [Act.put, List.setIfInBounds_toArray, List.set_cons_succ, List.set_cons_zero, Nat.reduceAdd]
      refine Many.lex_want (by rfl) (rd (v := .pointer (some ⟨g, o + k * 2, none⟩)) (fun q => by (go_simp; (try rfl); (try (intro hneg; omega))))) ?_
      simp only [Act.put, List.setIfInBounds_toArray, List.set_cons_succ, List.set_cons_zero, Nat.reduceAdd]
      refine Many.lex_want (by rfl) (rd (v := .pointer (some ⟨g, o + k * 2 + 1, none⟩)) (fun q => by (go_simp; (try rfl); (try (intro hneg; omega))))) ?_
      simp only [Act.put, List.setIfInBounds_toArray, List.set_cons_succ, List.set_cons_zero, Nat.reduceAdd]
      refine Many.lex_want (by rfl) (rd (v := .int .i64 y) (fun q => by (go_simp; (try rfl); (try (intro hneg; omega))))) ?_
      simp only [Act.put, List.setIfInBounds_toArray, List.set_cons_succ, List.set_cons_zero, Nat.reduceAdd]
      refine Many.lex_want (by rfl) (rd (v := .int .i64 N) (fun q => by (go_simp; (try rfl); (try (intro hneg; omega))))) ?_
      simp only [Act.put, List.setIfInBounds_toArray, List.set_cons_succ, List.set_cons_zero, Nat.reduceAdd]
      refine Many.lex_want (by rfl) (Many.tr_call (v := .int .i64 b) (f := 53) (args := #[.int .i64 y, .int .i64 N]) (fun w' => ∃ q, w' = wr.drewN q) (fun _ _ h => h) (fun s0 W h => (qb W).mono (fun e W' hw' => ⟨hw'.1, by rw [hw'.2]; exact h⟩)) (fun W h => by obtain ⟨q, rfl⟩ := h; go_simp; try rfl)) ?_
      simp only [Act.put, List.setIfInBounds_toArray, List.set_cons_succ, List.set_cons_zero, Nat.reduceAdd]
      refine Many.lex_want (by rfl) (rd (v := .int .i64 a) (fun q => by (go_simp; (try rfl); (try (intro hneg; omega))))) ?_
      simp only [Act.put, List.setIfInBounds_toArray, List.set_cons_succ, List.set_cons_zero, Nat.reduceAdd]
      refine Many.lex_want (by rfl) (rd (v := .int .i64 b) (fun q => by (go_simp; (try rfl); (try (intro hneg; omega))))) ?_
      simp only [Act.put, List.setIfInBounds_toArray, List.set_cons_succ, List.set_cons_zero, Nat.reduceAdd]
      refine Many.lex_nil fun s9 W2 hs9 hS9 => ?_
      have hI2 : Keep (W2.ownsRow w.heap.size 63 2 (.slice A2 E.length d2) E.length (enc2 E) ∧ Below w.heap.size w W2) := by
        obtain ⟨q, rfl⟩ := hS9
        exact ⟨hIk.out.1, below_dn' hIk.out.2 q⟩
      clear hS9 hs9 hIk c0 c1 qa qb
      obtain ⟨ev, hev⟩ : ∃ ev, ((a : Int) == (b : Int)) = ev := ⟨_, rfl⟩
      have hev2 : decide (a = b) = ev := by rw [← hev, Bool.eq_iff_iff, decide_eq_true_iff, beq_iff_eq]; omega
      rw [hev2] at hpush
      clear hev2
      rcases Nat.lt_or_ge b a with hba | hba
      · have x1 : (b : Int) < (a : Int) := by omega
        have x2 : ¬ (a : Int) < (b : Int) := by omega
        have x3 : ¬ (a : Int) ≤ (b : Int) := by omega
        have x4 : (b : Int) ≤ (a : Int) := by omega
        have hmn : min a b = b := by omega
        have hmx2 : max a b = a := by omega
        rw [hmn, hmx2] at hpush
        clear hmn hmx2
        go_wp2
        obtain ⟨W3, hW3⟩ : ∃ W3, W2.alloc (.cells #[.int .i64 b, .int .i64 a] 63) = W3 := ⟨_, rfl⟩
        have b3 : Below W2.heap.size W2 W3 := by rw [← hW3]; exact (Below.refl _ _).alloc (Nat.le_refl _) _
        have h10 : W3.heap[W2.heap.size]? = some (.cells #[.int .i64 b, .int .i64 a] 63 (0, 0)) := by rw [← hW3]; exact World.alloc_heap_new W2 _
        have hrow3 := row_after hI2.out.1 b3
        obtain ⟨A9, c9, hA9, hce⟩ := own_pairs hrow3
        have hEl := hTk.le
        have e9 : A9 = A2 := by injection hA9 with h1 h2 h3; exact h1.symm
        subst e9
        have c0 : W3.cell? ⟨W2.heap.size, 0, none⟩ = some (.int .i64 b) := by simp [World.cell?, h10]
        have c1 : W3.cell? ⟨W2.heap.size, 1, none⟩ = some (.int .i64 a) := by simp [World.cell?, h10]
        have hcek := Keep.mk hce
        have h3k := Keep.mk (And.intro hrow3 (hI2.out.2.trans (b3.mono hI2.out.2.size)))
        try rw [hW3]
        clear hW3 b3 h10 hrow3 hA9 hce hI2
        go_loopw [12, 11] (fun j kn wi => (∃ l : Nat, l ≤ E.length ∧ j = .int .i64 l ∧ kn = .bool (ev || (E.take l).any fun q => decide (q = (((b : Nat) : Int), ((a : Nat) : Int))))) ∧ ∃ nn, wi = W3.drewN nn) (fun j _ _ => E.length - (intOf j).toNat)
        case atStart => exact ⟨⟨0, by omega, rfl, by simp⟩, 0, rfl⟩
        case round =>
          obtain ⟨⟨l, hll, rfl, rfl⟩, nn, rfl⟩ := hrel
          have hw2 : IntKind.i64.wrap ((l : Int) + 1) = (l : Int) + 1 := IntWalk.i64_in _ (by omega)
          obtain ⟨kn, hkn⟩ : ∃ kn, (ev || (E.take l).any fun q => decide (q = (((b : Nat) : Int), ((a : Nat) : Int)))) = kn := ⟨_, rfl⟩
          rw [hkn]
          by_cases hl2 : l < E.length
          · have hl2' : (l : Int) < (E.length : Int) := by omega
            obtain ⟨g2, rfl, d0, d1⟩ := hcek.out l hl2
            have hnx : (ev || (E.take (l + 1)).any fun q => decide (q = (((b : Nat) : Int), ((a : Nat) : Int)))) = (kn || decide (E.getD l (0, 0) = (((b : Nat) : Int), ((a : Nat) : Int)))) := by
              rw [takep hl2, List.any_append, ← Bool.or_assoc, hkn]; simp
            generalize E.getD l (0, 0) = p2 at d0 d1 hnx
            obtain ⟨u, v⟩ := p2
            simp only at d0 d1
            have heq := eq63 u v b a
            obtain ⟨dz, hdz⟩ : ∃ dz, decide ((u, v) = (((b : Nat) : Int), ((a : Nat) : Int))) = dz := ⟨_, rfl⟩
            rw [hdz] at heq hnx
            have nl : ¬ (l : Int) < 0 := by omega
            have hnxk := Keep.mk hnx
            clear hnx hkn hdz
            cases kn with
            | true =>
              clear heq d0 d1
              go_wp2
              refine (wpIn_wide (n := 0)).1 ?_
              refine Many.region_many (Cq (W3.drewN nn)) hmx (by kernel_rfl) (fun s s' W' h hc => hc) (fun s hs => ⟨1, rfl⟩) ?_
              refine Many.lex_want (by rfl) (rd (v := .bool true) (fun q => by (go_simp; (try rfl); (try (intro hneg; omega))))) ?_
              simp only [Act.put, List.setIfInBounds_toArray, List.set_cons_succ, List.set_cons_zero, Nat.reduceAdd]
              refine Many.lex_want (by rfl) (rd (v := .bool true) (fun q => by (go_simp; (try rfl); (try (intro hneg; omega))))) ?_
              simp only [Act.put, List.setIfInBounds_toArray, List.set_cons_succ, List.set_cons_zero, Nat.reduceAdd]
              refine lex_skip (by rfl) Cq.keep ?_
              simp only [Act.put, List.setIfInBounds_toArray, List.set_cons_succ, List.set_cons_zero, Nat.reduceAdd]
              refine lex_skip (by rfl) Cq.keep ?_
              simp only [Act.put, List.setIfInBounds_toArray, List.set_cons_succ, List.set_cons_zero, Nat.reduceAdd]
              refine lex_skip (by rfl) Cq.keep ?_
              simp only [Act.put, List.setIfInBounds_toArray, List.set_cons_succ, List.set_cons_zero, Nat.reduceAdd]
              refine lex_skip (by rfl) Cq.keep ?_
              simp only [Act.put, List.setIfInBounds_toArray, List.set_cons_succ, List.set_cons_zero, Nat.reduceAdd]
              refine lex_skip (by rfl) Cq.keep ?_
              simp only [Act.put, List.setIfInBounds_toArray, List.set_cons_succ, List.set_cons_zero, Nat.reduceAdd]
              refine lex_skip (by rfl) Cq.keep ?_
              simp only [Act.put, List.setIfInBounds_toArray, List.set_cons_succ, List.set_cons_zero, Nat.reduceAdd]
              refine Many.lex_want (by rfl) (rd (v := .bool true) (fun q => by (go_simp; (try rfl); (try (intro hneg; omega))))) ?_
              simp only [Act.put, List.setIfInBounds_toArray, List.set_cons_succ, List.set_cons_zero, Nat.reduceAdd]
              refine Many.lex_want (by rfl) (rd (v := .bool true) (fun q => by (go_simp; (try rfl); (try (intro hneg; omega))))) ?_
              simp only [Act.put, List.setIfInBounds_toArray, List.set_cons_succ, List.set_cons_zero, Nat.reduceAdd]
              refine Many.lex_nil fun s9 W4 hs9 hS9 => ?_
              obtain ⟨q, rfl⟩ := hS9
              go_wp2
              exact ⟨⟨⟨l + 1, by omega, by go_num, by rw [hnxk.out]; rfl⟩, nn + q, by first | rfl | exact drewN_add _ _ _⟩, by simp [intOf]; omega⟩
            | false =>
              go_wp2
              refine (wpIn_wide (n := 0)).1 ?_
              refine Many.region_many (Cq (W3.drewN nn)) hmx (by kernel_rfl) (fun s s' W' h hc => hc) (fun s hs => ⟨1, rfl⟩) ?_
              refine Many.lex_want (by rfl) (rd (v := .bool false) (fun q => by (go_simp; (try rfl); (try (intro hneg; omega))))) ?_
              simp only [Act.put, List.setIfInBounds_toArray, List.set_cons_succ, List.set_cons_zero, Nat.reduceAdd]
              refine Many.lex_want (by rfl) (rd (v := .bool false) (fun q => by (go_simp; (try rfl); (try (intro hneg; omega))))) ?_
              simp only [Act.put, List.setIfInBounds_toArray, List.set_cons_succ, List.set_cons_zero, Nat.reduceAdd]
              refine Many.lex_want (by rfl) (rd (v := .slice (some ⟨g2, 0, none⟩) E.length d2) (fun q => by (go_simp; (try rfl); (try (intro hneg; omega))))) ?_
              simp only [Act.put, List.setIfInBounds_toArray, List.set_cons_succ, List.set_cons_zero, Nat.reduceAdd]
              refine Many.lex_want (by rfl) (rd (v := .int .i64 l) (fun q => by (go_simp; (try rfl); (try (intro hneg; omega))))) ?_
              simp only [Act.put, List.setIfInBounds_toArray, List.set_cons_succ, List.set_cons_zero, Nat.reduceAdd]
              refine Many.lex_want (by rfl) (rd (v := .pointer (some ⟨g2, l * 2, none⟩)) (fun q => by (go_simp; (try rfl); (try (intro hneg; omega))))) ?_
              simp only [Act.put, List.setIfInBounds_toArray, List.set_cons_succ, List.set_cons_zero, Nat.reduceAdd]
              refine Many.lex_want (by rfl) (rd (v := .agg #[.int .i64 u, .int .i64 v]) (fun q => by (go_simp; (try rfl); (try (intro hneg; omega))))) ?_
              simp only [Act.put, List.setIfInBounds_toArray, List.set_cons_succ, List.set_cons_zero, Nat.reduceAdd]
              refine Many.lex_want (by rfl) (rd (v := .agg #[.int .i64 b, .int .i64 a]) (fun q => by (go_simp; (try rfl); (try (intro hneg; omega))))) ?_
              simp only [Act.put, List.setIfInBounds_toArray, List.set_cons_succ, List.set_cons_zero, Nat.reduceAdd]
              refine Many.lex_want (by rfl) (rd (v := .bool dz) (fun q => by (go_simp; (try rfl); (try (intro hneg; omega))))) ?_
              simp only [Act.put, List.setIfInBounds_toArray, List.set_cons_succ, List.set_cons_zero, Nat.reduceAdd]
              refine Many.lex_want (by rfl) (rd (v := .bool dz) (fun q => by (go_simp; (try rfl); (try (intro hneg; omega))))) ?_
              simp only [Act.put, List.setIfInBounds_toArray, List.set_cons_succ, List.set_cons_zero, Nat.reduceAdd]
              refine Many.lex_want (by rfl) (rd (v := .bool dz) (fun q => by (go_simp; (try rfl); (try (intro hneg; omega))))) ?_
              simp only [Act.put, List.setIfInBounds_toArray, List.set_cons_succ, List.set_cons_zero, Nat.reduceAdd]
              refine Many.lex_nil fun s9 W4 hs9 hS9 => ?_
              obtain ⟨q, rfl⟩ := hS9
              go_wp2
              exact ⟨⟨⟨l + 1, by omega, by go_num, by rw [hnxk.out]; rfl⟩, nn + q, by first | rfl | exact drewN_add _ _ _⟩, by simp [intOf]; omega⟩
          · obtain rfl : l = E.length := by omega
            have hl2' : ¬ (E.length : Int) < (E.length : Int) := by omega
            rw [List.take_length] at hkn
            rw [hkn] at hpush
            obtain ⟨W4, hW4⟩ : ∃ W4, W3.drewN nn = W4 := ⟨_, rfl⟩
            have c0 : W4.cell? ⟨W2.heap.size, 0, none⟩ = some (.int .i64 b) := by rw [← hW4]; exact c0
            have c1 : W4.cell? ⟨W2.heap.size, 1, none⟩ = some (.int .i64 a) := by rw [← hW4]; exact c1
            have hNk : Keep (W4.ownsRow w.heap.size 63 2 (.slice A9 E.length d2) E.length (enc2 E) ∧ Below w.heap.size w W4) := ⟨by rw [← hW4]; exact h3k.out.1, by rw [← hW4]; exact below_dn' h3k.out.2 nn⟩
            rw [hW4]
            clear hkn h3k hW4
            cases kn with
            | true =>
              simp only [if_true] at hpush
              clear c0 c1
              go_wp2
              exact ⟨⟨k + 1, by omega, by go_num, by rw [hpush]; exact hNk, _, _, by rw [hpush]⟩, by simp [intOf]; omega⟩
            | false =>
              simp only [Bool.false_eq_true, if_false] at hpush
              have hln : (tameE N (ps.take (k + 1))).length = E.length + 1 := by rw [hpush, List.length_append]; rfl
              have hen : enc2 (tameE N (ps.take (k + 1))) = enc2 E ++ [.int .i64 b, .int .i64 a] := by rw [hpush, enc2_push]
              have hpk := Keep.mk (And.intro hln hen)
              clear hpush hln hen
              go_wp2_with (at_builtin; refine wpList_append_own_at _ rfl _ _ 22 rfl w.heap.size 63 i0 (.agg #[.int .i64 0, .int .i64 0]) 2 16 ty22 hi0 hz0 hz1 hz2 rfl (by decide) _ E.length (enc2 E) rfl (hNk.out.1.alloc _) ⟨W4.heap.size, 0, none⟩ 1 1 [.int .i64 b, .int .i64 a] rfl rfl (cell_two_new _ _ _ _) (two_one _ _) (by unfold maxLen; omega) (by omega) (by have := hNk.out.2.size; simp; omega) ?_; intro v' w1 hown hgrow _ _
                           obtain ⟨g', cap', rfl⟩ := ownsRow_succ hown
                           have h10k := Keep.mk (And.intro hown hgrow)
                           clear hown hgrow)
              have hb10 : Below w.heap.size w w1 := hNk.out.2.trans (Below.grown ((Below.refl _ W4).alloc (by have := hNk.out.2.size; omega) _) h10k.out.2 (by have := hNk.out.2.size; simp; omega) (fun j hj => by
                have hj' : (Value.slice A9 E.length d2).ownBlock = some j := hj
                exact (hNk.out.1.lt j hj').1))
              exact ⟨⟨k + 1, by omega, by go_num, ⟨by rw [hpk.out.1, hpk.out.2]; exact h10k.out.1, hb10⟩, _, _, by rw [hpk.out.1]⟩, by simp [intOf]; omega⟩
      rcases Nat.lt_or_ge a b with hab | hab
      · have x1 : (a : Int) < (b : Int) := by omega
        have x2 : ¬ (b : Int) < (a : Int) := by omega
        have x3 : (a : Int) ≤ (b : Int) := by omega
        have x4 : ¬ (b : Int) ≤ (a : Int) := by omega
        have hmn : min a b = a := by omega
        have hmx2 : max a b = b := by omega
        rw [hmn, hmx2] at hpush
        clear hmn hmx2
        go_wp2
        obtain ⟨W3, hW3⟩ : ∃ W3, W2.alloc (.cells #[.int .i64 a, .int .i64 b] 63) = W3 := ⟨_, rfl⟩
        have b3 : Below W2.heap.size W2 W3 := by rw [← hW3]; exact (Below.refl _ _).alloc (Nat.le_refl _) _
        have h10 : W3.heap[W2.heap.size]? = some (.cells #[.int .i64 a, .int .i64 b] 63 (0, 0)) := by rw [← hW3]; exact World.alloc_heap_new W2 _
        have hrow3 := row_after hI2.out.1 b3
        obtain ⟨A9, c9, hA9, hce⟩ := own_pairs hrow3
        have hEl := hTk.le
        have e9 : A9 = A2 := by injection hA9 with h1 h2 h3; exact h1.symm
        subst e9
        have c0 : W3.cell? ⟨W2.heap.size, 0, none⟩ = some (.int .i64 a) := by simp [World.cell?, h10]
        have c1 : W3.cell? ⟨W2.heap.size, 1, none⟩ = some (.int .i64 b) := by simp [World.cell?, h10]
        have hcek := Keep.mk hce
        have h3k := Keep.mk (And.intro hrow3 (hI2.out.2.trans (b3.mono hI2.out.2.size)))
        try rw [hW3]
        clear hW3 b3 h10 hrow3 hA9 hce hI2
        go_loopw [12, 11] (fun j kn wi => (∃ l : Nat, l ≤ E.length ∧ j = .int .i64 l ∧ kn = .bool (ev || (E.take l).any fun q => decide (q = (((a : Nat) : Int), ((b : Nat) : Int))))) ∧ ∃ nn, wi = W3.drewN nn) (fun j _ _ => E.length - (intOf j).toNat)
        case atStart => exact ⟨⟨0, by omega, rfl, by simp⟩, 0, rfl⟩
        case round =>
          obtain ⟨⟨l, hll, rfl, rfl⟩, nn, rfl⟩ := hrel
          have hw2 : IntKind.i64.wrap ((l : Int) + 1) = (l : Int) + 1 := IntWalk.i64_in _ (by omega)
          obtain ⟨kn, hkn⟩ : ∃ kn, (ev || (E.take l).any fun q => decide (q = (((a : Nat) : Int), ((b : Nat) : Int)))) = kn := ⟨_, rfl⟩
          rw [hkn]
          by_cases hl2 : l < E.length
          · have hl2' : (l : Int) < (E.length : Int) := by omega
            obtain ⟨g2, rfl, d0, d1⟩ := hcek.out l hl2
            have hnx : (ev || (E.take (l + 1)).any fun q => decide (q = (((a : Nat) : Int), ((b : Nat) : Int)))) = (kn || decide (E.getD l (0, 0) = (((a : Nat) : Int), ((b : Nat) : Int)))) := by
              rw [takep hl2, List.any_append, ← Bool.or_assoc, hkn]; simp
            generalize E.getD l (0, 0) = p2 at d0 d1 hnx
            obtain ⟨u, v⟩ := p2
            simp only at d0 d1
            have heq := eq63 u v a b
            obtain ⟨dz, hdz⟩ : ∃ dz, decide ((u, v) = (((a : Nat) : Int), ((b : Nat) : Int))) = dz := ⟨_, rfl⟩
            rw [hdz] at heq hnx
            have nl : ¬ (l : Int) < 0 := by omega
            have hnxk := Keep.mk hnx
            clear hnx hkn hdz
            cases kn with
            | true =>
              clear heq d0 d1
              go_wp2
              refine (wpIn_wide (n := 0)).1 ?_
              refine Many.region_many (Cq (W3.drewN nn)) hmx (by kernel_rfl) (fun s s' W' h hc => hc) (fun s hs => ⟨1, rfl⟩) ?_
              refine Many.lex_want (by rfl) (rd (v := .bool true) (fun q => by (go_simp; (try rfl); (try (intro hneg; omega))))) ?_
              simp only [Act.put, List.setIfInBounds_toArray, List.set_cons_succ, List.set_cons_zero, Nat.reduceAdd]
              refine Many.lex_want (by rfl) (rd (v := .bool true) (fun q => by (go_simp; (try rfl); (try (intro hneg; omega))))) ?_
              simp only [Act.put, List.setIfInBounds_toArray, List.set_cons_succ, List.set_cons_zero, Nat.reduceAdd]
              refine lex_skip (by rfl) Cq.keep ?_
              simp only [Act.put, List.setIfInBounds_toArray, List.set_cons_succ, List.set_cons_zero, Nat.reduceAdd]
              refine lex_skip (by rfl) Cq.keep ?_
              simp only [Act.put, List.setIfInBounds_toArray, List.set_cons_succ, List.set_cons_zero, Nat.reduceAdd]
              refine lex_skip (by rfl) Cq.keep ?_
              simp only [Act.put, List.setIfInBounds_toArray, List.set_cons_succ, List.set_cons_zero, Nat.reduceAdd]
              refine lex_skip (by rfl) Cq.keep ?_
              simp only [Act.put, List.setIfInBounds_toArray, List.set_cons_succ, List.set_cons_zero, Nat.reduceAdd]
              refine lex_skip (by rfl) Cq.keep ?_
              simp only [Act.put, List.setIfInBounds_toArray, List.set_cons_succ, List.set_cons_zero, Nat.reduceAdd]
              refine lex_skip (by rfl) Cq.keep ?_
              simp only [Act.put, List.setIfInBounds_toArray, List.set_cons_succ, List.set_cons_zero, Nat.reduceAdd]
              refine Many.lex_want (by rfl) (rd (v := .bool true) (fun q => by (go_simp; (try rfl); (try (intro hneg; omega))))) ?_
              simp only [Act.put, List.setIfInBounds_toArray, List.set_cons_succ, List.set_cons_zero, Nat.reduceAdd]
              refine Many.lex_want (by rfl) (rd (v := .bool true) (fun q => by (go_simp; (try rfl); (try (intro hneg; omega))))) ?_
              simp only [Act.put, List.setIfInBounds_toArray, List.set_cons_succ, List.set_cons_zero, Nat.reduceAdd]
              refine Many.lex_nil fun s9 W4 hs9 hS9 => ?_
              obtain ⟨q, rfl⟩ := hS9
              go_wp2
              exact ⟨⟨⟨l + 1, by omega, by go_num, by rw [hnxk.out]; rfl⟩, nn + q, by first | rfl | exact drewN_add _ _ _⟩, by simp [intOf]; omega⟩
            | false =>
              go_wp2
              refine (wpIn_wide (n := 0)).1 ?_
              refine Many.region_many (Cq (W3.drewN nn)) hmx (by kernel_rfl) (fun s s' W' h hc => hc) (fun s hs => ⟨1, rfl⟩) ?_
              refine Many.lex_want (by rfl) (rd (v := .bool false) (fun q => by (go_simp; (try rfl); (try (intro hneg; omega))))) ?_
              simp only [Act.put, List.setIfInBounds_toArray, List.set_cons_succ, List.set_cons_zero, Nat.reduceAdd]
              refine Many.lex_want (by rfl) (rd (v := .bool false) (fun q => by (go_simp; (try rfl); (try (intro hneg; omega))))) ?_
              simp only [Act.put, List.setIfInBounds_toArray, List.set_cons_succ, List.set_cons_zero, Nat.reduceAdd]
              refine Many.lex_want (by rfl) (rd (v := .slice (some ⟨g2, 0, none⟩) E.length d2) (fun q => by (go_simp; (try rfl); (try (intro hneg; omega))))) ?_
              simp only [Act.put, List.setIfInBounds_toArray, List.set_cons_succ, List.set_cons_zero, Nat.reduceAdd]
              refine Many.lex_want (by rfl) (rd (v := .int .i64 l) (fun q => by (go_simp; (try rfl); (try (intro hneg; omega))))) ?_
              simp only [Act.put, List.setIfInBounds_toArray, List.set_cons_succ, List.set_cons_zero, Nat.reduceAdd]
              refine Many.lex_want (by rfl) (rd (v := .pointer (some ⟨g2, l * 2, none⟩)) (fun q => by (go_simp; (try rfl); (try (intro hneg; omega))))) ?_
              simp only [Act.put, List.setIfInBounds_toArray, List.set_cons_succ, List.set_cons_zero, Nat.reduceAdd]
              refine Many.lex_want (by rfl) (rd (v := .agg #[.int .i64 u, .int .i64 v]) (fun q => by (go_simp; (try rfl); (try (intro hneg; omega))))) ?_
              simp only [Act.put, List.setIfInBounds_toArray, List.set_cons_succ, List.set_cons_zero, Nat.reduceAdd]
              refine Many.lex_want (by rfl) (rd (v := .agg #[.int .i64 a, .int .i64 b]) (fun q => by (go_simp; (try rfl); (try (intro hneg; omega))))) ?_
              simp only [Act.put, List.setIfInBounds_toArray, List.set_cons_succ, List.set_cons_zero, Nat.reduceAdd]
              refine Many.lex_want (by rfl) (rd (v := .bool dz) (fun q => by (go_simp; (try rfl); (try (intro hneg; omega))))) ?_
              simp only [Act.put, List.setIfInBounds_toArray, List.set_cons_succ, List.set_cons_zero, Nat.reduceAdd]
              refine Many.lex_want (by rfl) (rd (v := .bool dz) (fun q => by (go_simp; (try rfl); (try (intro hneg; omega))))) ?_
              simp only [Act.put, List.setIfInBounds_toArray, List.set_cons_succ, List.set_cons_zero, Nat.reduceAdd]
              refine Many.lex_want (by rfl) (rd (v := .bool dz) (fun q => by (go_simp; (try rfl); (try (intro hneg; omega))))) ?_
              simp only [Act.put, List.setIfInBounds_toArray, List.set_cons_succ, List.set_cons_zero, Nat.reduceAdd]
              refine Many.lex_nil fun s9 W4 hs9 hS9 => ?_
              obtain ⟨q, rfl⟩ := hS9
              go_wp2
              exact ⟨⟨⟨l + 1, by omega, by go_num, by rw [hnxk.out]; rfl⟩, nn + q, by first | rfl | exact drewN_add _ _ _⟩, by simp [intOf]; omega⟩
          · obtain rfl : l = E.length := by omega
            have hl2' : ¬ (E.length : Int) < (E.length : Int) := by omega
            rw [List.take_length] at hkn
            rw [hkn] at hpush
            obtain ⟨W4, hW4⟩ : ∃ W4, W3.drewN nn = W4 := ⟨_, rfl⟩
            have c0 : W4.cell? ⟨W2.heap.size, 0, none⟩ = some (.int .i64 a) := by rw [← hW4]; exact c0
            have c1 : W4.cell? ⟨W2.heap.size, 1, none⟩ = some (.int .i64 b) := by rw [← hW4]; exact c1
            have hNk : Keep (W4.ownsRow w.heap.size 63 2 (.slice A9 E.length d2) E.length (enc2 E) ∧ Below w.heap.size w W4) := ⟨by rw [← hW4]; exact h3k.out.1, by rw [← hW4]; exact below_dn' h3k.out.2 nn⟩
            rw [hW4]
            clear hkn h3k hW4
            cases kn with
            | true =>
              simp only [if_true] at hpush
              clear c0 c1
              go_wp2
              exact ⟨⟨k + 1, by omega, by go_num, by rw [hpush]; exact hNk, _, _, by rw [hpush]⟩, by simp [intOf]; omega⟩
            | false =>
              simp only [Bool.false_eq_true, if_false] at hpush
              have hln : (tameE N (ps.take (k + 1))).length = E.length + 1 := by rw [hpush, List.length_append]; rfl
              have hen : enc2 (tameE N (ps.take (k + 1))) = enc2 E ++ [.int .i64 a, .int .i64 b] := by rw [hpush, enc2_push]
              have hpk := Keep.mk (And.intro hln hen)
              clear hpush hln hen
              go_wp2_with (at_builtin; refine wpList_append_own_at _ rfl _ _ 22 rfl w.heap.size 63 i0 (.agg #[.int .i64 0, .int .i64 0]) 2 16 ty22 hi0 hz0 hz1 hz2 rfl (by decide) _ E.length (enc2 E) rfl (hNk.out.1.alloc _) ⟨W4.heap.size, 0, none⟩ 1 1 [.int .i64 a, .int .i64 b] rfl rfl (cell_two_new _ _ _ _) (two_one _ _) (by unfold maxLen; omega) (by omega) (by have := hNk.out.2.size; simp; omega) ?_; intro v' w1 hown hgrow _ _
                           obtain ⟨g', cap', rfl⟩ := ownsRow_succ hown
                           have h10k := Keep.mk (And.intro hown hgrow)
                           clear hown hgrow)
              have hb10 : Below w.heap.size w w1 := hNk.out.2.trans (Below.grown ((Below.refl _ W4).alloc (by have := hNk.out.2.size; omega) _) h10k.out.2 (by have := hNk.out.2.size; simp; omega) (fun j hj => by
                have hj' : (Value.slice A9 E.length d2).ownBlock = some j := hj
                exact (hNk.out.1.lt j hj').1))
              exact ⟨⟨k + 1, by omega, by go_num, ⟨by rw [hpk.out.1, hpk.out.2]; exact h10k.out.1, hb10⟩, _, _, by rw [hpk.out.1]⟩, by simp [intOf]; omega⟩
      · have x1 : ¬ (a : Int) < (b : Int) := by omega
        have x2 : ¬ (b : Int) < (a : Int) := by omega
        have x3 : (a : Int) ≤ (b : Int) := by omega
        have x4 : (b : Int) ≤ (a : Int) := by omega
        have hmn : min a b = a := by omega
        have hmx2 : max a b = a := by omega
        rw [hmn, hmx2] at hpush
        clear hmn hmx2
        go_wp2
        obtain ⟨W3, hW3⟩ : ∃ W3, W2.alloc (.cells #[.int .i64 a, .int .i64 a] 63) = W3 := ⟨_, rfl⟩
        have b3 : Below W2.heap.size W2 W3 := by rw [← hW3]; exact (Below.refl _ _).alloc (Nat.le_refl _) _
        have h10 : W3.heap[W2.heap.size]? = some (.cells #[.int .i64 a, .int .i64 a] 63 (0, 0)) := by rw [← hW3]; exact World.alloc_heap_new W2 _
        have hrow3 := row_after hI2.out.1 b3
        obtain ⟨A9, c9, hA9, hce⟩ := own_pairs hrow3
        have hEl := hTk.le
        have e9 : A9 = A2 := by injection hA9 with h1 h2 h3; exact h1.symm
        subst e9
        have c0 : W3.cell? ⟨W2.heap.size, 0, none⟩ = some (.int .i64 a) := by simp [World.cell?, h10]
        have c1 : W3.cell? ⟨W2.heap.size, 1, none⟩ = some (.int .i64 a) := by simp [World.cell?, h10]
        have hcek := Keep.mk hce
        have h3k := Keep.mk (And.intro hrow3 (hI2.out.2.trans (b3.mono hI2.out.2.size)))
        try rw [hW3]
        clear hW3 b3 h10 hrow3 hA9 hce hI2
        go_loopw [12, 11] (fun j kn wi => (∃ l : Nat, l ≤ E.length ∧ j = .int .i64 l ∧ kn = .bool (ev || (E.take l).any fun q => decide (q = (((a : Nat) : Int), ((a : Nat) : Int))))) ∧ ∃ nn, wi = W3.drewN nn) (fun j _ _ => E.length - (intOf j).toNat)
        case atStart => exact ⟨⟨0, by omega, rfl, by simp⟩, 0, rfl⟩
        case round =>
          obtain ⟨⟨l, hll, rfl, rfl⟩, nn, rfl⟩ := hrel
          have hw2 : IntKind.i64.wrap ((l : Int) + 1) = (l : Int) + 1 := IntWalk.i64_in _ (by omega)
          obtain ⟨kn, hkn⟩ : ∃ kn, (ev || (E.take l).any fun q => decide (q = (((a : Nat) : Int), ((a : Nat) : Int)))) = kn := ⟨_, rfl⟩
          rw [hkn]
          by_cases hl2 : l < E.length
          · have hl2' : (l : Int) < (E.length : Int) := by omega
            obtain ⟨g2, rfl, d0, d1⟩ := hcek.out l hl2
            have hnx : (ev || (E.take (l + 1)).any fun q => decide (q = (((a : Nat) : Int), ((a : Nat) : Int)))) = (kn || decide (E.getD l (0, 0) = (((a : Nat) : Int), ((a : Nat) : Int)))) := by
              rw [takep hl2, List.any_append, ← Bool.or_assoc, hkn]; simp
            generalize E.getD l (0, 0) = p2 at d0 d1 hnx
            obtain ⟨u, v⟩ := p2
            simp only at d0 d1
            have heq := eq63 u v a a
            obtain ⟨dz, hdz⟩ : ∃ dz, decide ((u, v) = (((a : Nat) : Int), ((a : Nat) : Int))) = dz := ⟨_, rfl⟩
            rw [hdz] at heq hnx
            have nl : ¬ (l : Int) < 0 := by omega
            have hnxk := Keep.mk hnx
            clear hnx hkn hdz
            cases kn with
            | true =>
              clear heq d0 d1
              go_wp2
              refine (wpIn_wide (n := 0)).1 ?_
              refine Many.region_many (Cq (W3.drewN nn)) hmx (by kernel_rfl) (fun s s' W' h hc => hc) (fun s hs => ⟨1, rfl⟩) ?_
              refine Many.lex_want (by rfl) (rd (v := .bool true) (fun q => by (go_simp; (try rfl); (try (intro hneg; omega))))) ?_
              simp only [Act.put, List.setIfInBounds_toArray, List.set_cons_succ, List.set_cons_zero, Nat.reduceAdd]
              refine Many.lex_want (by rfl) (rd (v := .bool true) (fun q => by (go_simp; (try rfl); (try (intro hneg; omega))))) ?_
              simp only [Act.put, List.setIfInBounds_toArray, List.set_cons_succ, List.set_cons_zero, Nat.reduceAdd]
              refine lex_skip (by rfl) Cq.keep ?_
              simp only [Act.put, List.setIfInBounds_toArray, List.set_cons_succ, List.set_cons_zero, Nat.reduceAdd]
              refine lex_skip (by rfl) Cq.keep ?_
              simp only [Act.put, List.setIfInBounds_toArray, List.set_cons_succ, List.set_cons_zero, Nat.reduceAdd]
              refine lex_skip (by rfl) Cq.keep ?_
              simp only [Act.put, List.setIfInBounds_toArray, List.set_cons_succ, List.set_cons_zero, Nat.reduceAdd]
              refine lex_skip (by rfl) Cq.keep ?_
              simp only [Act.put, List.setIfInBounds_toArray, List.set_cons_succ, List.set_cons_zero, Nat.reduceAdd]
              refine lex_skip (by rfl) Cq.keep ?_
              simp only [Act.put, List.setIfInBounds_toArray, List.set_cons_succ, List.set_cons_zero, Nat.reduceAdd]
              refine lex_skip (by rfl) Cq.keep ?_
              simp only [Act.put, List.setIfInBounds_toArray, List.set_cons_succ, List.set_cons_zero, Nat.reduceAdd]
              refine Many.lex_want (by rfl) (rd (v := .bool true) (fun q => by (go_simp; (try rfl); (try (intro hneg; omega))))) ?_
              simp only [Act.put, List.setIfInBounds_toArray, List.set_cons_succ, List.set_cons_zero, Nat.reduceAdd]
              refine Many.lex_want (by rfl) (rd (v := .bool true) (fun q => by (go_simp; (try rfl); (try (intro hneg; omega))))) ?_
              simp only [Act.put, List.setIfInBounds_toArray, List.set_cons_succ, List.set_cons_zero, Nat.reduceAdd]
              refine Many.lex_nil fun s9 W4 hs9 hS9 => ?_
              obtain ⟨q, rfl⟩ := hS9
              go_wp2
              exact ⟨⟨⟨l + 1, by omega, by go_num, by rw [hnxk.out]; rfl⟩, nn + q, by first | rfl | exact drewN_add _ _ _⟩, by simp [intOf]; omega⟩
            | false =>
              go_wp2
              refine (wpIn_wide (n := 0)).1 ?_
              refine Many.region_many (Cq (W3.drewN nn)) hmx (by kernel_rfl) (fun s s' W' h hc => hc) (fun s hs => ⟨1, rfl⟩) ?_
              refine Many.lex_want (by rfl) (rd (v := .bool false) (fun q => by (go_simp; (try rfl); (try (intro hneg; omega))))) ?_
              simp only [Act.put, List.setIfInBounds_toArray, List.set_cons_succ, List.set_cons_zero, Nat.reduceAdd]
              refine Many.lex_want (by rfl) (rd (v := .bool false) (fun q => by (go_simp; (try rfl); (try (intro hneg; omega))))) ?_
              simp only [Act.put, List.setIfInBounds_toArray, List.set_cons_succ, List.set_cons_zero, Nat.reduceAdd]
              refine Many.lex_want (by rfl) (rd (v := .slice (some ⟨g2, 0, none⟩) E.length d2) (fun q => by (go_simp; (try rfl); (try (intro hneg; omega))))) ?_
              simp only [Act.put, List.setIfInBounds_toArray, List.set_cons_succ, List.set_cons_zero, Nat.reduceAdd]
              refine Many.lex_want (by rfl) (rd (v := .int .i64 l) (fun q => by (go_simp; (try rfl); (try (intro hneg; omega))))) ?_
              simp only [Act.put, List.setIfInBounds_toArray, List.set_cons_succ, List.set_cons_zero, Nat.reduceAdd]
              refine Many.lex_want (by rfl) (rd (v := .pointer (some ⟨g2, l * 2, none⟩)) (fun q => by (go_simp; (try rfl); (try (intro hneg; omega))))) ?_
              simp only [Act.put, List.setIfInBounds_toArray, List.set_cons_succ, List.set_cons_zero, Nat.reduceAdd]
              refine Many.lex_want (by rfl) (rd (v := .agg #[.int .i64 u, .int .i64 v]) (fun q => by (go_simp; (try rfl); (try (intro hneg; omega))))) ?_
              simp only [Act.put, List.setIfInBounds_toArray, List.set_cons_succ, List.set_cons_zero, Nat.reduceAdd]
              refine Many.lex_want (by rfl) (rd (v := .agg #[.int .i64 a, .int .i64 a]) (fun q => by (go_simp; (try rfl); (try (intro hneg; omega))))) ?_
              simp only [Act.put, List.setIfInBounds_toArray, List.set_cons_succ, List.set_cons_zero, Nat.reduceAdd]
              refine Many.lex_want (by rfl) (rd (v := .bool dz) (fun q => by (go_simp; (try rfl); (try (intro hneg; omega))))) ?_
              simp only [Act.put, List.setIfInBounds_toArray, List.set_cons_succ, List.set_cons_zero, Nat.reduceAdd]
              refine Many.lex_want (by rfl) (rd (v := .bool dz) (fun q => by (go_simp; (try rfl); (try (intro hneg; omega))))) ?_
              simp only [Act.put, List.setIfInBounds_toArray, List.set_cons_succ, List.set_cons_zero, Nat.reduceAdd]
              refine Many.lex_want (by rfl) (rd (v := .bool dz) (fun q => by (go_simp; (try rfl); (try (intro hneg; omega))))) ?_
              simp only [Act.put, List.setIfInBounds_toArray, List.set_cons_succ, List.set_cons_zero, Nat.reduceAdd]
              refine Many.lex_nil fun s9 W4 hs9 hS9 => ?_
              obtain ⟨q, rfl⟩ := hS9
              go_wp2
              exact ⟨⟨⟨l + 1, by omega, by go_num, by rw [hnxk.out]; rfl⟩, nn + q, by first | rfl | exact drewN_add _ _ _⟩, by simp [intOf]; omega⟩
          · obtain rfl : l = E.length := by omega
            have hl2' : ¬ (E.length : Int) < (E.length : Int) := by omega
            rw [List.take_length] at hkn
            rw [hkn] at hpush
            obtain ⟨W4, hW4⟩ : ∃ W4, W3.drewN nn = W4 := ⟨_, rfl⟩
            have c0 : W4.cell? ⟨W2.heap.size, 0, none⟩ = some (.int .i64 a) := by rw [← hW4]; exact c0
            have c1 : W4.cell? ⟨W2.heap.size, 1, none⟩ = some (.int .i64 a) := by rw [← hW4]; exact c1
            have hNk : Keep (W4.ownsRow w.heap.size 63 2 (.slice A9 E.length d2) E.length (enc2 E) ∧ Below w.heap.size w W4) := ⟨by rw [← hW4]; exact h3k.out.1, by rw [← hW4]; exact below_dn' h3k.out.2 nn⟩
            rw [hW4]
            clear hkn h3k hW4
            cases kn with
            | true =>
              simp only [if_true] at hpush
              clear c0 c1
              go_wp2
              exact ⟨⟨k + 1, by omega, by go_num, by rw [hpush]; exact hNk, _, _, by rw [hpush]⟩, by simp [intOf]; omega⟩
            | false =>
              simp only [Bool.false_eq_true, if_false] at hpush
              have hln : (tameE N (ps.take (k + 1))).length = E.length + 1 := by rw [hpush, List.length_append]; rfl
              have hen : enc2 (tameE N (ps.take (k + 1))) = enc2 E ++ [.int .i64 a, .int .i64 a] := by rw [hpush, enc2_push]
              have hpk := Keep.mk (And.intro hln hen)
              clear hpush hln hen
              go_wp2_with (at_builtin; refine wpList_append_own_at _ rfl _ _ 22 rfl w.heap.size 63 i0 (.agg #[.int .i64 0, .int .i64 0]) 2 16 ty22 hi0 hz0 hz1 hz2 rfl (by decide) _ E.length (enc2 E) rfl (hNk.out.1.alloc _) ⟨W4.heap.size, 0, none⟩ 1 1 [.int .i64 a, .int .i64 a] rfl rfl (cell_two_new _ _ _ _) (two_one _ _) (by unfold maxLen; omega) (by omega) (by have := hNk.out.2.size; simp; omega) ?_; intro v' w1 hown hgrow _ _
                           obtain ⟨g', cap', rfl⟩ := ownsRow_succ hown
                           have h10k := Keep.mk (And.intro hown hgrow)
                           clear hown hgrow)
              have hb10 : Below w.heap.size w w1 := hNk.out.2.trans (Below.grown ((Below.refl _ W4).alloc (by have := hNk.out.2.size; omega) _) h10k.out.2 (by have := hNk.out.2.size; simp; omega) (fun j hj => by
                have hj' : (Value.slice A9 E.length d2).ownBlock = some j := hj
                exact (hNk.out.1.lt j hj').1))
              exact ⟨⟨k + 1, by omega, by go_num, ⟨by rw [hpk.out.1, hpk.out.2]; exact h10k.out.1, hb10⟩, _, _, by rw [hpk.out.1]⟩, by simp [intOf]; omega⟩
    · obtain rfl : k = m := by omega
      have hlt' : ¬ (k : Int) < (k : Int) := by omega
      rw [show ps.take k = ps by rw [← hm.out]; simp] at hI ⊢
      go_wp2
      refine bodyPost_ret (v := .tuple #[.int .i64 N, .slice A2 (tameE N ps).length d2]) (by simp [results, Try.results50, go_sem]) rfl ?_
      exact ⟨_, rfl, hI.out.1, hI.out.2⟩
end Go.Proofs.Yteekigpdiklppaa
set_option linter.unusedSimpArgs false
set_option linter.unusedVariables false
namespace Go.Proofs.Yteekigpdiklppaa
open Go Go.Proofs Go.RowKit Go.ChangeShapes Go.WideShapes Go.ChangeAt Go.Joins
theorem ok_int {P : Program} {W : World} {r : Reach} {b0 : Nat} {t : TypeId} {c : Value} (ht : P.underlying t = some (.int .i64)) (h : Cell.okWide P W r b0 t c) : ∃ x, c = .int .i64 x :=
  Go.WideShapes.okWide_int ht (by unfold Value.okWide; rw [ht]; exact h)
theorem arr_ints {P : Program} {W : World} {r : Reach} {b0 : Nat} {t k : TypeId} {n m : Nat} {v : Value} (hu : P.underlying t = some (.array m k)) (hc : P.cellsOf t = n) (ht : P.cellTypes P.depth t = some (List.replicate n 3))
    (h3 : P.underlying 3 = some (.int .i64)) (hval : Value.okWide P W r b0 t v) : ∃ cs : Array Value, v = .agg cs ∧ cs.size = n ∧ ∀ i, i < n → ∃ x : Int, cs[i]? = some (.int .i64 x) := by
  unfold Value.okWide at hval
  rw [hu] at hval
  obtain ⟨cs, rfl, hsz, ts, hts, _, hall⟩ := hval
  rw [ht] at hts
  obtain rfl := Option.some.inj hts
  rw [hc] at hsz
  refine ⟨cs, rfl, hsz, fun i hi => ?_⟩
  have hlt : i < cs.size := by rw [hsz]; exact hi
  obtain ⟨c, hci⟩ : ∃ c, cs[i]? = some c := ⟨cs[i]'hlt, Array.getElem?_eq_getElem hlt⟩
  obtain ⟨u, hu1, hu2⟩ := hall i c hci
  have hu3 : u = 3 := by
    rw [List.length_replicate, Nat.mod_eq_of_lt hi, List.getElem?_replicate, if_pos hi] at hu1
    exact (Option.some.inj hu1).symm
  rw [hu3] at hu2
  obtain ⟨x, hx⟩ := ok_int h3 hu2
  exact ⟨x, by rw [hci, hx]⟩
theorem arr2 {cs : Array Value} (h : cs.size = 2) (hi : ∀ i, i < 2 → ∃ x : Int, cs[i]? = some (.int .i64 x)) : ∃ a b : Int, cs = #[.int .i64 a, .int .i64 b] := by
  obtain ⟨a, ha⟩ := hi 0 (by omega)
  obtain ⟨b, hb⟩ := hi 1 (by omega)
  refine ⟨a, b, ?_⟩
  apply Array.ext_getElem?
  intro i
  match i with
  | 0 => simpa using ha
  | 1 => simpa using hb
  | i + 2 => rw [Array.getElem?_eq_none (by omega)]; simp
theorem arr3 {cs : Array Value} (h : cs.size = 3) (hi : ∀ i, i < 3 → ∃ x : Int, cs[i]? = some (.int .i64 x)) : ∃ a b c : Int, cs = #[.int .i64 a, .int .i64 b, .int .i64 c] := by
  obtain ⟨a, ha⟩ := hi 0 (by omega)
  obtain ⟨b, hb⟩ := hi 1 (by omega)
  obtain ⟨c, hc⟩ := hi 2 (by omega)
  refine ⟨a, b, c, ?_⟩
  apply Array.ext_getElem?
  intro i
  match i with
  | 0 => simpa using ha
  | 1 => simpa using hb
  | 2 => simpa using hc
  | i + 3 => rw [Array.getElem?_eq_none (by omega)]; simp
set_option maxRecDepth 100000 in
theorem arg3 {W : World} {r : Reach} {b0 : Nat} {v : Value} (hval : Value.okWide Try.prog W r b0 70 v) : ∃ a b c : Int, v = .agg #[.int .i64 a, .int .i64 b, .int .i64 c] := by
  obtain ⟨cs, rfl, h1, h2⟩ := arr_ints (n := 3) (m := 3) (k := 3) (by kernel_rfl) (by kernel_rfl) (by kernel_rfl) (by kernel_rfl) hval
  obtain ⟨a, b, c, rfl⟩ := arr3 h1 h2
  exact ⟨a, b, c, rfl⟩
theorem cells63 : Try.prog.cellsOf 63 = 2 := by kernel_rfl
theorem cells3 : Try.prog.cellsOf 3 = 1 := by kernel_rfl
theorem pick_pairs {p : Nat → Int × Int → Prop} : ∀ n, (∀ k, k < n → ∃ z, p k z) → ∃ ls : Pts, ls.length = n ∧ ∀ k, k < n → p k (ls.getD k (0, 0))
  | 0, _ => ⟨[], rfl, fun k hk => by omega⟩
  | n + 1, h => by
    obtain ⟨ls, h1, h2⟩ := pick_pairs n fun k hk => h k (by omega)
    obtain ⟨z, hz⟩ := h n (by omega)
    refine ⟨ls ++ [z], by simp [h1], fun k hk => ?_⟩
    by_cases e : k = n
    · subst e
      rw [List.getD_eq_getElem?_getD, List.getElem?_append_right (by omega), h1]
      simpa using hz
    · have := h2 k (by omega)
      rw [List.getD_eq_getElem?_getD, List.getElem?_append_left (by omega), ← List.getD_eq_getElem?_getD]
      exact this
set_option maxRecDepth 100000 in
theorem arg_pairs {H : Type} {enc : TypeId × Value → H} {W : World} {r : Reach} {b0 : Nat} {v : Value} {d : DataW H} {ps : List MemPlace} (hval : Value.okWide Try.prog W r b0 22 v)
    (hd : DataW.Trod enc Try.prog W 0 (fun _ => true) true 22 v d ps) : ∃ l : Pts, PairsO W v l ∧ l.length ≤ maxLen := by
  obtain ⟨a, len, cap, rfl⟩ := okWide_slice ty22 hval
  obtain ⟨fuel, hf⟩ := hd
  rcases DataW.trod_slice ty22 hf with ⟨hc, hx⟩ | ⟨a', len', cap', elems, rest, n, _, hc, hx, _, hl, hm, hlen, hel, _⟩
  · simp [Value.cells] at hc
    obtain ⟨rfl, rfl, rfl⟩ := hc
    exact ⟨[], ⟨none, 0, rfl, fun k hk => by simp at hk⟩, by simp⟩
  · simp [Value.cells] at hc
    obtain ⟨rfl, rfl, rfl⟩ := hc
    have each : ∀ k, k < len → ∃ z : Int × Int, W.cell? (a'.add (k * 2)) = some (.int .i64 z.1) ∧ W.cell? ((a'.add (k * 2)).add 1) = some (.int .i64 z.2) := by
      intro k hk
      have hE := hel k hk
      rw [cells63, List.getElem?_eq_getElem (show k < elems.length by omega), Option.bind_eq_some_iff] at hE
      obtain ⟨cs, hcs, hy⟩ := hE
      obtain ⟨_, hcl, hcc⟩ := World.cells?_some hcs
      obtain ⟨xs, m, _, _, _, hxl, hxe⟩ := DataW.trod_array Try.underlying63 hy
      have e0 := hxe 0 (by omega)
      have e1 := hxe 1 (by omega)
      rw [cells3, List.getElem?_eq_getElem (show 0 < xs.length by omega)] at e0
      rw [cells3, List.getElem?_eq_getElem (show 1 < xs.length by omega)] at e1
      obtain ⟨n0, k0, _, _⟩ := DataW.trod_int Try.underlying3 e0
      obtain ⟨n1, k1, _, _⟩ := DataW.trod_int Try.underlying3 e1
      match cs, hcl with
      | [c0, c1], _ =>
        simp at k0 k1
        subst k0 k1
        have h0 := hcc 0 (by omega)
        have h1 := hcc 1 (by omega)
        refine ⟨(n0, n1), ?_, ?_⟩
        · have : (a'.add (k * 2)).add 0 = a'.add (k * 2) := by simp [Addr.add]
          rw [this] at h0; simpa using h0
        · simpa using h1
    obtain ⟨ls, h1, h2⟩ := pick_pairs len each
    obtain ⟨b, o, sp⟩ := a'
    refine ⟨ls, ⟨some ⟨b, o, sp⟩, cap, by rw [h1], fun k hk => ?_⟩, by omega⟩
    obtain ⟨hu, hu1⟩ := h2 k (by omega)
    have hspot : sp = none := by
      obtain ⟨hu0, _⟩ := h2 0 (by omega)
      simpa [Addr.add] using World.cell?_spot hu0
    subst hspot
    have hplain : ∀ (b o j : Nat), (⟨b, o, none⟩ : Addr).add j = ⟨b, o + j, none⟩ := fun b o j => by unfold Addr.add; split <;> simp_all
    rw [hplain] at hu hu1
    rw [hplain] at hu1
    exact ⟨b, o, rfl, hu, hu1⟩
end Go.Proofs.Yteekigpdiklppaa
