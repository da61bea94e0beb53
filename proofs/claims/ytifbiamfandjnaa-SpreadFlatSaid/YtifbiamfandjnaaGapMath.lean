import Derived.Lib.SlicesCompact
set_option linter.unusedSimpArgs false
set_option linter.unusedVariables false
namespace Go.Proofs.Ytifbiamfandjnaa
namespace Gap
open Go.Lib
/-- d is the distance from x to the next member. -/
def gapAt (N : Nat) (m : Nat → Prop) (x d : Nat) : Prop := 1 ≤ d ∧ d ≤ N ∧ m ((x + d) % N) ∧ ∀ e, 1 ≤ e → e < d → ¬ m ((x + e) % N)
theorem gapAt_unique {N : Nat} {m : Nat → Prop} {x d d' : Nat} (h : gapAt N m x d) (h' : gapAt N m x d') : d = d' := by
  obtain ⟨a1, a2, a3, a4⟩ := h
  obtain ⟨b1, b2, b3, b4⟩ := h'
  rcases Nat.lt_trichotomy d d' with h | h | h
  · exact absurd a3 (b4 d a1 h)
  · exact h
  · exact absurd b3 (a4 d' b1 h)
def isGap (N : Nat) (m : Nat → Prop) (d : Nat) : Prop := ∃ x, x < N ∧ m x ∧ gapAt N m x d
def memN (zs : List Int) (x : Nat) : Prop := (x : Int) ∈ zs
/-- The gaps of points: ascending, and just the distances from a point to the next one. -/
def GapsOf (N : Nat) (zs L : List Int) : Prop := L.Pairwise (· < ·) ∧ ∀ z, z ∈ L ↔ ∃ d : Nat, z = (d : Int) ∧ isGap N (memN zs) d
theorem asc_unique : ∀ {a b : List Int}, a.Pairwise (· < ·) → b.Pairwise (· < ·) → (∀ z, z ∈ a ↔ z ∈ b) → a = b
  | [], [], _, _, _ => rfl
  | [], y :: ys, _, _, h => by have := (h y).2 (by simp); simp at this
  | x :: xs, [], _, _, h => by have := (h x).1 (by simp); simp at this
  | x :: xs, y :: ys, ha, hb, h => by
    rw [List.pairwise_cons] at ha hb
    have hxy : x = y := by
      have h1 := (h x).1 (by simp)
      have h2 := (h y).2 (by simp)
      rw [List.mem_cons] at h1 h2
      rcases h1 with h1 | h1
      · exact h1
      · rcases h2 with h2 | h2
        · exact h2.symm
        · have := ha.1 y h2; have := hb.1 x h1; omega
    subst hxy
    rw [asc_unique ha.2 hb.2 fun z => ⟨fun hz => by
      have h1 := (h z).1 (List.mem_cons_of_mem _ hz)
      rw [List.mem_cons] at h1
      rcases h1 with h1 | h1
      · have := ha.1 z hz; omega
      · exact h1, fun hz => by
      have h1 := (h z).2 (List.mem_cons_of_mem _ hz)
      rw [List.mem_cons] at h1
      rcases h1 with h1 | h1
      · have := hb.1 z hz; omega
      · exact h1⟩]
theorem gaps_unique {N : Nat} {zs L L' : List Int} (h : GapsOf N zs L) (h' : GapsOf N zs L') : L = L' :=
  asc_unique h.1 h'.1 fun z => (h.2 z).trans (h'.2 z).symm
/-- The distance at place j of the ascending places P. -/
def distAt (N : Nat) (P : List Nat) (j : Nat) : Nat := if j + 1 < P.length then P.getD (j + 1) 0 - P.getD j 0 else P.getD 0 0 + N - P.getD j 0
theorem asc_lt {P : List Nat} (h : P.Pairwise (· < ·)) {i j : Nat} (hij : i < j) (hj : j < P.length) : P.getD i 0 < P.getD j 0 := by
  rw [List.getD_eq_getElem?_getD, List.getD_eq_getElem?_getD, List.getElem?_eq_getElem (show i < P.length by omega), List.getElem?_eq_getElem hj]
  exact List.pairwise_iff_getElem.1 h i j (by omega) hj hij
theorem asc_le {P : List Nat} (h : P.Pairwise (· < ·)) {i j : Nat} (hij : i ≤ j) (hj : j < P.length) : P.getD i 0 ≤ P.getD j 0 := by
  rcases Nat.lt_or_ge i j with h' | h'
  · exact Nat.le_of_lt (asc_lt h h' hj)
  · rw [show i = j by omega]; exact Nat.le_refl _
theorem getD_mem {P : List Nat} {i : Nat} (h : i < P.length) : P.getD i 0 ∈ P := by
  rw [List.getD_eq_getElem?_getD, List.getElem?_eq_getElem h]; exact List.getElem_mem _
theorem mem_getD {P : List Nat} {x : Nat} (h : x ∈ P) : ∃ i, i < P.length ∧ P.getD i 0 = x := by
  obtain ⟨i, hi, e⟩ := List.getElem_of_mem h
  exact ⟨i, hi, by rw [List.getD_eq_getElem?_getD, List.getElem?_eq_getElem hi]; exact e⟩
theorem between {P : List Nat} (h : P.Pairwise (· < ·)) {j x : Nat} (hj : j + 1 < P.length) (h1 : P.getD j 0 < x) (h2 : x < P.getD (j + 1) 0) : ¬ x ∈ P := fun hx => by
  obtain ⟨i, hi, e⟩ := mem_getD hx
  rcases Nat.lt_or_ge j i with h' | h'
  · have := asc_le h (show j + 1 ≤ i by omega) hi; omega
  · have := asc_le h h' (by omega); omega
theorem dist_gap {N : Nat} {P : List Nat} (hN : ∀ x ∈ P, x < N) (h : P.Pairwise (· < ·)) {j : Nat} (hj : j < P.length) : gapAt N (· ∈ P) (P.getD j 0) (distAt N P j) := by
  have hjN := hN _ (getD_mem hj)
  unfold distAt
  by_cases hl : j + 1 < P.length
  · rw [if_pos hl]
    have hlt := asc_lt h (show j < j + 1 by omega) hl
    have hlN := hN _ (getD_mem hl)
    refine ⟨by omega, by omega, ?_, fun e h1 h2 => ?_⟩
    · rw [show P.getD j 0 + (P.getD (j + 1) 0 - P.getD j 0) = P.getD (j + 1) 0 by omega, Nat.mod_eq_of_lt hlN]; exact getD_mem hl
    · rw [Nat.mod_eq_of_lt (by omega)]
      exact between h hl (by omega) (by omega)
  · rw [if_neg hl]
    have h0 := asc_le h (show 0 ≤ j by omega) hj
    have h0N := hN _ (getD_mem (show 0 < P.length by omega))
    refine ⟨by omega, by omega, ?_, fun e h1 h2 hm => ?_⟩
    · rw [show P.getD j 0 + (P.getD 0 0 + N - P.getD j 0) = P.getD 0 0 + N by omega, Nat.add_mod_right, Nat.mod_eq_of_lt h0N]; exact getD_mem (by omega)
    · obtain ⟨i, hi, e'⟩ := mem_getD hm
      have h3 := asc_le h (show i ≤ j by omega) hj
      have h4 := asc_le h (show 0 ≤ i by omega) hi
      by_cases hlt : P.getD j 0 + e < N
      · rw [Nat.mod_eq_of_lt hlt] at e'; omega
      · have : (P.getD j 0 + e) % N = P.getD j 0 + e - N := by
          rw [Nat.mod_eq_sub_mod (by omega), Nat.mod_eq_of_lt (by omega)]
        rw [this] at e'; omega
theorem isGap_iff {N : Nat} {P : List Nat} (hN : ∀ x ∈ P, x < N) (h : P.Pairwise (· < ·)) (d : Nat) : isGap N (· ∈ P) d ↔ ∃ j, j < P.length ∧ distAt N P j = d := by
  constructor
  · rintro ⟨x, hx, hm, hg⟩
    obtain ⟨j, hj, rfl⟩ := mem_getD hm
    exact ⟨j, hj, gapAt_unique (dist_gap hN h hj) hg⟩
  · rintro ⟨j, hj, rfl⟩
    exact ⟨_, hN _ (getD_mem hj), getD_mem hj, dist_gap hN h hj⟩
/-- A set that is moved has the same gaps. -/
theorem isGap_iso {N : Nat} {m m' : Nat → Prop} (y : Nat) (hm : ∀ x, x < N → (m x ↔ m' ((x + y) % N))) (d : Nat) (hg : isGap N m d) : isGap N m' d := by
  obtain ⟨x, hx, hmx, h1, h2, h3, h4⟩ := hg
  refine ⟨(x + y) % N, Nat.mod_lt _ (by omega), (hm x hx).1 hmx, h1, h2, ?_, fun e e1 e2 hh => h4 e e1 e2 ?_⟩
  · have := (hm ((x + d) % N) (Nat.mod_lt _ (by omega))).1 h3
    rw [Nat.mod_add_mod] at this
    rw [Nat.mod_add_mod, show x + y + d = x + d + y by omega]; exact this
  · refine (hm ((x + e) % N) (Nat.mod_lt _ (by omega))).2 ?_
    rw [Nat.mod_add_mod] at hh ⊢
    rw [show x + e + y = x + y + e by omega]; exact hh
/-- A set that is mirrored has the same gaps. -/
theorem isGap_mirror {N : Nat} {m m' : Nat → Prop} (hm : ∀ x, x < N → (m x ↔ m' (N - 1 - x))) (d : Nat) (hg : isGap N m d) : isGap N m' d := by
  obtain ⟨x, hx, hmx, h1, h2, h3, h4⟩ := hg
  have key : ∀ e, e ≤ d → (N - 1 - (x + d) % N + e) % N = N - 1 - (x + (d - e)) % N := fun e he => by
    have a1 : (x + d) % N < N := Nat.mod_lt _ (by omega)
    have a2 : (x + (d - e)) % N < N := Nat.mod_lt _ (by omega)
    have b1 : (x + d) % N = if x + d < N then x + d else x + d - N := by
      split
      · exact Nat.mod_eq_of_lt ‹_›
      · rw [Nat.mod_eq_sub_mod (by omega)]
        by_cases hc : x + d - N < N
        · exact Nat.mod_eq_of_lt hc
        · omega
    have b2 : (x + (d - e)) % N = if x + (d - e) < N then x + (d - e) else x + (d - e) - N := by
      split
      · exact Nat.mod_eq_of_lt ‹_›
      · rw [Nat.mod_eq_sub_mod (by omega)]
        by_cases hc : x + (d - e) - N < N
        · exact Nat.mod_eq_of_lt hc
        · omega
    have b3 : (N - 1 - (x + d) % N + e) % N = if N - 1 - (x + d) % N + e < N then N - 1 - (x + d) % N + e else N - 1 - (x + d) % N + e - N := by
      split
      · exact Nat.mod_eq_of_lt ‹_›
      · rw [Nat.mod_eq_sub_mod (by omega)]
        by_cases hc : N - 1 - (x + d) % N + e - N < N
        · exact Nat.mod_eq_of_lt hc
        · omega
    rw [b3, b2]
    rw [b1] at a1 ⊢
    split <;> split <;> split <;> omega
  refine ⟨N - 1 - (x + d) % N, by omega, (hm _ (Nat.mod_lt _ (by omega))).1 h3, h1, h2, ?_, fun e e1 e2 hh => ?_⟩
  · rw [key d (Nat.le_refl _), Nat.sub_self, Nat.add_zero, Nat.mod_eq_of_lt hx]
    exact (hm x hx).1 hmx
  · rw [key e (by omega)] at hh
    exact h4 (d - e) (by omega) (by omega) ((hm _ (Nat.mod_lt _ (by omega))).2 hh)
theorem dist_sum {N : Nat} {P : List Nat} (hN : ∀ x ∈ P, x < N) (h : P.Pairwise (· < ·)) : ∀ k, k < P.length → ((List.range k).map (distAt N P)).sum = P.getD k 0 - P.getD 0 0
  | 0, _ => by simp
  | k + 1, hk => by
    rw [List.range_succ, List.map_append, List.sum_append, dist_sum hN h k (by omega)]
    have h1 := asc_lt h (show k < k + 1 by omega) hk
    have h2 := asc_le h (show 0 ≤ k by omega) (show k < P.length by omega)
    simp only [List.map_cons, List.map_nil, List.sum_cons, List.sum_nil, distAt, if_pos hk]
    omega
theorem dist_total {N : Nat} {P : List Nat} (hN : ∀ x ∈ P, x < N) (h : P.Pairwise (· < ·)) (h0 : 1 ≤ P.length) : ((List.range P.length).map (distAt N P)).sum = N := by
  obtain ⟨k, hk⟩ : ∃ k, P.length = k + 1 := ⟨P.length - 1, by omega⟩
  rw [hk, List.range_succ, List.map_append, List.sum_append, dist_sum hN h k (by omega)]
  have h2 := asc_le h (show 0 ≤ k by omega) (show k < P.length by omega)
  have h3 := hN _ (getD_mem (show k < P.length by omega))
  simp only [List.map_cons, List.map_nil, List.sum_cons, List.sum_nil, distAt, hk, Nat.lt_irrefl, if_false]
  omega
theorem sum_lo {f : Nat → Nat} {a : Nat} : ∀ n, (∀ k, k < n → a ≤ f k) → a * n ≤ ((List.range n).map f).sum
  | 0, _ => by simp
  | n + 1, h => by
    rw [List.range_succ, List.map_append, List.sum_append, Nat.mul_succ]
    have := sum_lo n fun k hk => h k (by omega)
    have := h n (by omega)
    simp only [List.map_cons, List.map_nil, List.sum_cons, List.sum_nil]; omega
theorem sum_hi {f : Nat → Nat} {a : Nat} : ∀ n, (∀ k, k < n → f k ≤ a) → ((List.range n).map f).sum ≤ a * n
  | 0, _ => by simp
  | n + 1, h => by
    rw [List.range_succ, List.map_append, List.sum_append, Nat.mul_succ]
    have := sum_hi n fun k hk => h k (by omega)
    have := h n (by omega)
    simp only [List.map_cons, List.map_nil, List.sum_cons, List.sum_nil]; omega
theorem compact_inv (d : Array Int) (hs : ∀ i j, i ≤ j → j < d.size → d[i]! ≤ d[j]!) : ∀ m, m ≤ d.size → (compactUpTo d m).Pairwise (· < ·) ∧ (∀ z ∈ compactUpTo d m, ∃ j, j < m ∧ z = d[j]!) ∧ (∀ j, j < m → d[j]! ∈ compactUpTo d m)
  | 0, _ => ⟨by simp [compactUpTo], by simp [compactUpTo], by omega⟩
  | m + 1, hm => by
    obtain ⟨h1, h2, h3⟩ := compact_inv d hs m (by omega)
    rw [compactUpTo_succ]
    by_cases hk : keeps d m = true
    · rw [if_pos hk]
      refine ⟨?_, ?_, ?_⟩
      · rw [List.pairwise_append]
        refine ⟨h1, List.pairwise_singleton _ _, fun a ha b hb => ?_⟩
        rw [List.mem_singleton] at hb
        subst hb
        obtain ⟨j, hj, rfl⟩ := h2 a ha
        have a1 := hs j (m - 1) (by omega) (by omega)
        have a2 := hs (m - 1) m (by omega) (by omega)
        have a3 : ¬ d[m]! = d[m - 1]! := by
          have h0 : m ≠ 0 := by omega
          simpa [keeps, h0] using hk
        omega
      · intro z hz
        rw [List.mem_append, List.mem_singleton] at hz
        rcases hz with hz | hz
        · obtain ⟨j, hj, e⟩ := h2 z hz
          exact ⟨j, by omega, e⟩
        · exact ⟨m, by omega, hz⟩
      · intro j hj
        rw [List.mem_append, List.mem_singleton]
        by_cases h : j < m
        · exact .inl (h3 j h)
        · exact .inr (by rw [show j = m by omega])
    · rw [if_neg hk, List.append_nil]
      refine ⟨h1, fun z hz => ?_, fun j hj => ?_⟩
      · obtain ⟨j, hj, e⟩ := h2 z hz
        exact ⟨j, by omega, e⟩
      · by_cases h : j < m
        · exact h3 j h
        · have hj : j = m := by omega
          subst hj
          have hk' : ¬ (j = 0) ∧ d[j]! = d[j - 1]! := by
            simp only [keeps] at hk
            by_cases h0 : j = 0
            · simp [h0] at hk
            · exact ⟨h0, by simpa [h0] using hk⟩
          rw [hk'.2]
          exact h3 (j - 1) (by omega)
def leZ (x y : Int) : Bool := decide (x ≤ y)
theorem sorted_le (zs : List Int) : (zs.mergeSort fun x y => decide (x ≤ y)).Pairwise (· ≤ ·) := by
  have h := List.pairwise_mergeSort (le := fun x y : Int => decide (x ≤ y)) (fun a b c h1 h2 => by simp only [decide_eq_true_eq] at *; omega) (fun a b => by simp only [Bool.or_eq_true, decide_eq_true_eq]; omega) zs
  exact h.imp fun h => by simpa using h
/-- slices.Compact of what slices.Sort left: ascending, with the same members. -/
theorem compact_sort (zs : List Int) : (compact (zs.mergeSort fun x y => decide (x ≤ y))).Pairwise (· < ·) ∧ ∀ z, z ∈ compact (zs.mergeSort fun x y => decide (x ≤ y)) ↔ z ∈ zs := by
  have hp := List.mergeSort_perm zs fun x y : Int => decide (x ≤ y)
  have hs := sorted_le zs
  generalize (zs.mergeSort fun x y => decide (x ≤ y)) = l at hp hs
  have hget : ∀ i, i < l.length → (l.toArray)[i]! = l.getD i 0 := fun i hi => by
    simp [hi]
  obtain ⟨h1, h2, h3⟩ := compact_inv l.toArray (fun i j hij hj => by
    have hj' : j < l.length := by simpa using hj
    rcases Nat.lt_or_ge i j with h | h
    · have := List.pairwise_iff_getElem.1 hs i j (by omega) hj' h
      simpa [hj', show i < l.length by omega] using this
    · rw [show i = j by omega]; exact Int.le_refl _) l.length (by simp)
  refine ⟨h1, fun z => ⟨fun hz => ?_, fun hz => ?_⟩⟩
  · obtain ⟨j, hj, rfl⟩ := h2 z hz
    refine hp.mem_iff.1 ?_
    simp [hj]
  · obtain ⟨j, hj, rfl⟩ := List.getElem_of_mem (hp.mem_iff.2 hz)
    have := h3 j hj
    simpa [hj, compact] using this
theorem compact_ne {zs : List Int} (h : zs ≠ []) : compact (zs.mergeSort fun x y => decide (x ≤ y)) ≠ [] := fun e => by
  obtain ⟨z, hz⟩ := List.exists_mem_of_ne_nil _ h
  have := ((compact_sort zs).2 z).2 hz
  rw [e] at this; simp at this

/-- What package spread's Gaps lays: from each place the distance to the one before. -/
def gapL (N : Nat) (P : List Int) : List Int := (List.range P.length).map fun i => if i = 0 then P.getD 0 0 - (P.getD (P.length - 1) 0 - (N : Int)) else P.getD i 0 - P.getD (i - 1) 0
theorem isGap_congr {N : Nat} {m m' : Nat → Prop} (h : ∀ x, m x ↔ m' x) {d : Nat} (hg : isGap N m d) : isGap N m' d := by
  obtain ⟨x, hx, h0, h1, h2, h3, h4⟩ := hg
  exact ⟨x, hx, (h x).1 h0, h1, h2, (h _).1 h3, fun e e1 e2 hh => h4 e e1 e2 ((h _).2 hh)⟩
theorem toNat_getD (P : List Int) (i : Nat) : (P.map Int.toNat).getD i 0 = (P.getD i 0).toNat := by
  rw [List.getD_eq_getElem?_getD, List.getD_eq_getElem?_getD, List.getElem?_map]
  cases P[i]? <;> rfl
theorem gapL_mem {N : Nat} {zs P : List Int} (hP : P.Pairwise (· < ·)) (hb : ∀ z ∈ P, 0 ≤ z ∧ z < (N : Int)) (hm : ∀ z, z ∈ P ↔ z ∈ zs) (z : Int) : z ∈ gapL N P ↔ ∃ d : Nat, z = (d : Int) ∧ isGap N (memN zs) d := by
  obtain ⟨Q, hQ⟩ : ∃ Q, Q = P.map Int.toNat := ⟨_, rfl⟩
  have hQl : Q.length = P.length := by rw [hQ]; simp
  have hmQ : ∀ x : Nat, x ∈ Q ↔ memN zs x := fun x => by
    unfold memN
    rw [← hm, hQ, List.mem_map]
    constructor
    · rintro ⟨y, hy, rfl⟩
      have := hb y hy
      rw [show ((y.toNat : Nat) : Int) = y by omega]; exact hy
    · exact fun h => ⟨_, h, by simp⟩
  have hQN : ∀ x ∈ Q, x < N := fun x hx => by
    rw [hQ, List.mem_map] at hx
    obtain ⟨y, hy, rfl⟩ := hx
    have := hb y hy; omega
  have hQP : Q.Pairwise (· < ·) := by
    rw [hQ, List.pairwise_map]
    exact hP.imp_of_mem fun ha hb' h => by have := hb _ ha; have := hb _ hb'; omega
  have hg : ∀ i, i < P.length → 0 ≤ P.getD i 0 ∧ P.getD i 0 < (N : Int) ∧ Q.getD i 0 = (P.getD i 0).toNat := fun i hi => by
    have h1 : P.getD i 0 ∈ P := by rw [List.getD_eq_getElem?_getD, List.getElem?_eq_getElem hi]; exact List.getElem_mem _
    exact ⟨(hb _ h1).1, (hb _ h1).2, by rw [hQ]; exact toNat_getD P i⟩
  have hlt : ∀ i j, i < j → j < P.length → P.getD i 0 < P.getD j 0 := fun i j hij hj => by
    rw [List.getD_eq_getElem?_getD, List.getD_eq_getElem?_getD, List.getElem?_eq_getElem (show i < P.length by omega), List.getElem?_eq_getElem hj]
    exact List.pairwise_iff_getElem.1 hP i j (by omega) hj hij
  have key : ∀ i, i < P.length → (if i = 0 then P.getD 0 0 - (P.getD (P.length - 1) 0 - (N : Int)) else P.getD i 0 - P.getD (i - 1) 0) = ((distAt N Q (if i = 0 then P.length - 1 else i - 1) : Nat) : Int) := fun i hi => by
    unfold distAt
    rw [hQl]
    by_cases h0 : i = 0
    · subst h0
      simp only [if_true]
      rw [if_neg (by omega)]
      obtain ⟨a1, a2, a3⟩ := hg 0 hi
      obtain ⟨b1, b2, b3⟩ := hg (P.length - 1) (by omega)
      rw [a3, b3]; omega
    · rw [if_neg h0, if_neg h0, if_pos (by omega), show i - 1 + 1 = i by omega]
      obtain ⟨a1, a2, a3⟩ := hg i hi
      obtain ⟨b1, b2, b3⟩ := hg (i - 1) (by omega)
      have := hlt (i - 1) i (by omega) hi
      rw [a3, b3]; omega
  unfold gapL
  rw [List.mem_map]
  constructor
  · rintro ⟨i, hi, rfl⟩
    rw [List.mem_range] at hi
    refine ⟨_, key i hi, isGap_congr hmQ ((isGap_iff hQN hQP _).2 ⟨_, ?_, rfl⟩)⟩
    rw [hQl]; split <;> omega
  · rintro ⟨d, rfl, hd⟩
    obtain ⟨j, hj, rfl⟩ := (isGap_iff hQN hQP d).1 (isGap_congr (fun x => (hmQ x).symm) hd)
    rw [hQl] at hj
    by_cases hl : j + 1 < P.length
    · refine ⟨j + 1, List.mem_range.2 hl, ?_⟩
      rw [key (j + 1) hl, if_neg (by omega), Nat.add_sub_cancel]
    · refine ⟨0, List.mem_range.2 (by omega), ?_⟩
      rw [key 0 (by omega), if_pos rfl, show P.length - 1 = j by omega]
theorem gaps_of {N : Nat} {zs P : List Int} (hP : P.Pairwise (· < ·)) (hb : ∀ z ∈ P, 0 ≤ z ∧ z < (N : Int)) (hm : ∀ z, z ∈ P ↔ z ∈ zs) : GapsOf N zs (compact ((gapL N P).mergeSort fun x y => decide (x ≤ y))) :=
  ⟨(compact_sort _).1, fun z => ((compact_sort _).2 z).trans (gapL_mem hP hb hm z)⟩
end Gap
end Go.Proofs.Ytifbiamfandjnaa
