import Derived.Test.YtifbiamfandjnabGapsWalk
set_option linter.unusedSimpArgs false
set_option linter.unusedVariables false
namespace Go.Proofs.Ytifbiamfandjnab
open Go Go.Proofs Go.RowKit Go.Lib Gap
theorem ok_parts {N : Nat} {zs : List Int} (h : okLine (N : Int) zs = true) : 1 ≤ N ∧ N ≤ 1000 ∧ 1 ≤ zs.length ∧ zs.length ≤ 60 ∧ ∀ z ∈ zs, 0 ≤ z ∧ z < (N : Int) := by
  unfold okLine at h
  rw [Bool.and_eq_true, decide_eq_true_iff] at h
  obtain ⟨⟨k1, k2, k3, k4⟩, hall⟩ := h
  refine ⟨by omega, by omega, k3, k4, fun z hz => ?_⟩
  have := List.all_eq_true.1 hall z hz
  simpa using this
theorem movL_ok {N : Nat} {zs : List Int} (y : Int) (h : okLine (N : Int) zs = true) : okLine (N : Int) (movL N zs y) = true := by
  obtain ⟨h1, h2, h3, h4, h5⟩ := ok_parts h
  have hl : (movL N zs y).length = zs.length := by simp [movL]
  unfold okLine
  rw [hl, Bool.and_eq_true, decide_eq_true_iff, List.all_eq_true]
  refine ⟨⟨by omega, by omega, h3, h4⟩, fun z hz => ?_⟩
  unfold movL at hz
  rw [List.mem_map] at hz
  obtain ⟨x, _, rfl⟩ := hz
  have a1 := Int.emod_nonneg (x + y) (show (N : Int) ≠ 0 by omega)
  have a2 := Int.emod_lt_of_pos (x + y) (show (0 : Int) < N by omega)
  simp only [decide_eq_true_eq]
  exact ⟨a1, a2⟩
theorem movL_back {N : Nat} {zs : List Int} (y : Int) (h : okLine (N : Int) zs = true) : movL N (movL N zs y) (-y) = zs := by
  obtain ⟨h1, h2, h3, h4, h5⟩ := ok_parts h
  unfold movL
  rw [List.map_map]
  have : ∀ z ∈ zs, ((fun z => (z + -y) % (N : Int)) ∘ fun z => (z + y) % (N : Int)) z = z := fun z hz => by
    obtain ⟨a1, a2⟩ := h5 z hz
    show ((z + y) % (N : Int) + -y) % (N : Int) = z
    rw [Int.emod_add_emod, show z + y + -y = z by omega]
    exact Int.emod_eq_of_lt a1 a2
  exact (List.map_congr_left this).trans (List.map_id' zs)
theorem gap_fwd {N : Nat} {zs : List Int} (y : Int) (h : okLine (N : Int) zs = true) {d : Nat} (hg : isGap N (memN zs) d) : isGap N (memN (movL N zs y)) d := by
  obtain ⟨h1, h2, h3, h4, h5⟩ := ok_parts h
  have hy1 := Int.emod_nonneg y (show (N : Int) ≠ 0 by omega)
  have hy2 := Int.emod_lt_of_pos y (show (0 : Int) < N by omega)
  have key : ∀ x : Nat, (((x + (y % (N : Int)).toNat) % N : Nat) : Int) = ((x : Int) + y) % (N : Int) := fun x => by
    rw [Int.natCast_emod, Int.natCast_add, show (((y % (N : Int)).toNat : Nat) : Int) = y % (N : Int) by omega, Int.add_emod_emod]
  refine isGap_iso (y % (N : Int)).toNat (fun x hx => ?_) d hg
  unfold memN
  rw [key x]
  unfold movL
  rw [List.mem_map]
  constructor
  · exact fun hm => ⟨_, hm, rfl⟩
  · rintro ⟨z, hz, e⟩
    obtain ⟨a1, a2⟩ := h5 z hz
    have e2 : ((z + y) % (N : Int) + -y) % (N : Int) = (((x : Int) + y) % (N : Int) + -y) % (N : Int) := by rw [e]
    rw [Int.emod_add_emod, Int.emod_add_emod, show z + y + -y = z by omega, show (x : Int) + y + -y = x by omega, Int.emod_eq_of_lt a1 a2, Int.emod_eq_of_lt (by omega) (by omega)] at e2
    rw [← e2]; exact hz
theorem gaps_moved {N : Nat} {zs L : List Int} (y : Int) (h : okLine (N : Int) zs = true) (hL : GapsOf N (movL N zs y) L) : GapsOf N zs L := by
  refine ⟨hL.1, fun z => (hL.2 z).trans ⟨fun ⟨d, e, hg⟩ => ⟨d, e, ?_⟩, fun ⟨d, e, hg⟩ => ⟨d, e, gap_fwd y h hg⟩⟩⟩
  have := gap_fwd (-y) (movL_ok y h) hg
  rw [movL_back y h] at this
  exact this
/-- How many of the first k numbers are new where they stand. -/
def cntD (zs : List Int) : Nat → Nat
  | 0 => 0
  | k + 1 => cntD zs k + if (zs.take k).contains (zs.getD k 0) then 0 else 1
theorem cntD_le (zs : List Int) : ∀ k, cntD zs k ≤ k
  | 0 => Nat.le_refl _
  | k + 1 => by
    have := cntD_le zs k
    unfold cntD; split <;> omega
theorem cntD_list (zs : List Int) : ∀ k, k ≤ zs.length → ∃ D : List Int, D.Nodup ∧ (∀ z, z ∈ D ↔ z ∈ zs.take k) ∧ D.length = cntD zs k
  | 0, _ => ⟨[], List.nodup_nil, fun z => by simp, rfl⟩
  | k + 1, hk => by
    obtain ⟨D, h1, h2, h3⟩ := cntD_list zs k (by omega)
    have htk := takez (zs := zs) (k := k) (by omega)
    unfold cntD
    by_cases hc : (zs.take k).contains (zs.getD k 0) = true
    · rw [if_pos hc]
      refine ⟨D, h1, fun z => ?_, h3⟩
      rw [htk, List.mem_append, List.mem_singleton, h2]
      constructor
      · exact .inl
      · rintro (h | h)
        · exact h
        · rw [h]; simpa using hc
    · rw [if_neg hc]
      refine ⟨D ++ [zs.getD k 0], ?_, fun z => ?_, by rw [List.length_append, h3]; rfl⟩
      · rw [List.nodup_append]
        refine ⟨h1, by simp, fun a ha b hb => ?_⟩
        rw [List.mem_singleton] at hb
        rw [hb]
        rintro rfl
        exact hc (by simpa using (h2 _).1 ha)
      · rw [htk, List.mem_append, List.mem_append, h2]
theorem moved_facts {N : Nat} {zs L : List Int} (h : okLine (N : Int) zs = true) (hL : GapsOf N zs L) :
    1 ≤ L.length ∧ (∀ k, k < L.length → 1 ≤ L.getD k 0 ∧ L.getD k 0 ≤ (N : Int)) ∧ (∀ k, k + 1 < L.length → L.getD k 0 < L.getD (k + 1) 0) ∧
    L.getD 0 0 * (cntD zs zs.length : Int) ≤ N ∧ (N : Int) ≤ L.getD (L.length - 1) 0 * (cntD zs zs.length : Int) := by
  obtain ⟨h1, h2, h3, h4, h5⟩ := ok_parts h
  obtain ⟨c1, c2⟩ := compact_sort zs
  obtain ⟨Q, hQ⟩ : ∃ Q, compact (zs.mergeSort fun x y => decide (x ≤ y)) = Q := ⟨_, rfl⟩
  rw [hQ] at c1 c2
  obtain ⟨P, hP⟩ : ∃ P, P = Q.map Int.toNat := ⟨_, rfl⟩
  have hQb : ∀ z ∈ Q, 0 ≤ z ∧ z < (N : Int) := fun z hz => h5 z ((c2 z).1 hz)
  have hPN : ∀ x ∈ P, x < N := fun x hx => by
    rw [hP, List.mem_map] at hx
    obtain ⟨z, hz, rfl⟩ := hx
    have := hQb z hz; omega
  have hPa : P.Pairwise (· < ·) := by
    rw [hP, List.pairwise_map]
    exact c1.imp_of_mem fun ha hb hh => by have := hQb _ ha; have := hQb _ hb; omega
  have hPm : ∀ x : Nat, x ∈ P ↔ memN zs x := fun x => by
    unfold memN
    rw [← c2, hP, List.mem_map]
    constructor
    · rintro ⟨z, hz, rfl⟩
      have := hQb z hz
      rw [show ((z.toNat : Nat) : Int) = z by omega]; exact hz
    · exact fun hm => ⟨_, hm, by simp⟩
  have hPl : P.length = Q.length := by rw [hP]; simp
  have hQ1 : 1 ≤ Q.length := by
    obtain ⟨z, hz⟩ := List.exists_mem_of_ne_nil zs (by intro e; rw [e] at h3; simp at h3)
    cases Q with
    | nil => have := (c2 z).2 hz; simp at this
    | cons => simp
  have hcnt : P.length = cntD zs zs.length := by
    obtain ⟨D, d1, d2, d3⟩ := cntD_list zs zs.length (Nat.le_refl _)
    rw [List.take_length] at d2
    have hQn : Q.Nodup := c1.imp fun hh => by omega
    have := ((List.perm_ext_iff_of_nodup hQn d1).2 fun z => (c2 z).trans (d2 z).symm).length_eq
    omega
  have hdist : ∀ j, j < P.length → ((distAt N P j : Nat) : Int) ∈ L := fun j hj => (hL.2 _).2 ⟨_, rfl, isGap_congr hPm ((isGap_iff hPN hPa _).2 ⟨j, hj, rfl⟩)⟩
  have htot := dist_total hPN hPa (by omega)
  have hLm : ∀ k, k < L.length → 1 ≤ L.getD k 0 ∧ L.getD k 0 ≤ (N : Int) := fun k hk => by
    obtain ⟨d, e, x, _, _, g1, g2, _⟩ := (hL.2 _).1 (getz hk)
    rw [e]; omega
  have hL1 : 1 ≤ L.length := by
    have := hdist 0 (by omega)
    cases L with
    | nil => simp at this
    | cons => simp
  have hasc : ∀ i j, i < j → j < L.length → L.getD i 0 < L.getD j 0 := fun i j hij hj => by
    rw [List.getD_eq_getElem?_getD, List.getD_eq_getElem?_getD, List.getElem?_eq_getElem (show i < L.length by omega), List.getElem?_eq_getElem hj]
    exact List.pairwise_iff_getElem.1 hL.1 i j (by omega) hj hij
  have hidx : ∀ z ∈ L, ∃ i, i < L.length ∧ L.getD i 0 = z := fun z hz => by
    obtain ⟨i, hi, e⟩ := List.getElem_of_mem hz
    exact ⟨i, hi, by rw [List.getD_eq_getElem?_getD, List.getElem?_eq_getElem hi]; exact e⟩
  have hlo : ∀ z ∈ L, L.getD 0 0 ≤ z := fun z hz => by
    obtain ⟨i, hi, e⟩ := hidx z hz
    by_cases h0 : i = 0
    · rw [← e, h0]; exact Int.le_refl _
    · have := hasc 0 i (by omega) hi; omega
  have hhi : ∀ z ∈ L, z ≤ L.getD (L.length - 1) 0 := fun z hz => by
    obtain ⟨i, hi, e⟩ := hidx z hz
    by_cases h0 : i = L.length - 1
    · rw [← e, h0]; exact Int.le_refl _
    · have := hasc i (L.length - 1) (by omega) (by omega); omega
  refine ⟨hL1, hLm, fun k hk => hasc k (k + 1) (by omega) hk, ?_, ?_⟩
  · have := sum_lo (f := distAt N P) (a := (L.getD 0 0).toNat) P.length fun k hk => by
      have := hlo _ (hdist k hk); omega
    rw [htot, hcnt] at this
    have h0 := hLm 0 (by omega)
    have e : (((L.getD 0 0).toNat * cntD zs zs.length : Nat) : Int) = L.getD 0 0 * (cntD zs zs.length : Int) := by
      rw [Int.natCast_mul, show (((L.getD 0 0).toNat : Nat) : Int) = L.getD 0 0 by omega]
    rw [← e]; omega
  · have := sum_hi (f := distAt N P) (a := (L.getD (L.length - 1) 0).toNat) P.length fun k hk => by
      have := hhi _ (hdist k hk); omega
    rw [htot, hcnt] at this
    have h0 := hLm (L.length - 1) (by omega)
    have e : (((L.getD (L.length - 1) 0).toNat * cntD zs zs.length : Nat) : Int) = L.getD (L.length - 1) 0 * (cntD zs zs.length : Int) := by
      rw [Int.natCast_mul, show (((L.getD (L.length - 1) 0).toNat : Nat) : Int) = L.getD (L.length - 1) 0 by omega]
    rw [← e]; omega
end Go.Proofs.Ytifbiamfandjnab
