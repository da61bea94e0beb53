/-
  A flat sheet, and a sheet swapped and in another order: what their discrepancies are.
-/
import Derived.Test.YtifbiamfandjnaaSheetFn
import Derived.Test.YtifbiamfandjnaaLineAny
import Derived.Test.YtifbiamfandjnaaKeyMap
import Derived.Test.YtifbiamfandjnaaMirrMath
import Derived.Test.YtifbiamfandjnaaTame
import Derived.Test.YtifbiamfandjnaaLess
import Derived.Test.YtifbiamfandjnaaAwake
import Derived.Test.YtifbiamfandjnaaOpenArgs
import Derived.Maps.AppendAt
import Derived.WalkKit
set_option linter.unusedSimpArgs false
set_option linter.unusedVariables false
namespace Go.Proofs.Ytifbiamfandjnaa.Flat
open Go Go.Proofs Go.RowKit
theorem worst2_max (xs : List Wit2) : ∀ x ∈ xs, (x.2.2.natAbs : Int) ≤ (worst2Of xs).2 := by
  have : ∀ (l : List Wit2) (a : Wit2 × Int), a.2 ≤ (l.foldl wStep2 a).2 ∧ ∀ x ∈ l, (x.2.2.natAbs : Int) ≤ (l.foldl wStep2 a).2 := by
    intro l
    induction l with
    | nil => intro a; exact ⟨Int.le_refl _, fun x hx => by cases hx⟩
    | cons y l ih =>
      intro a
      obtain ⟨h1, h2⟩ := ih (wStep2 a y)
      have h3 : a.2 ≤ (wStep2 a y).2 ∧ (y.2.2.natAbs : Int) ≤ (wStep2 a y).2 := by
        unfold wStep2
        split
        · exact ⟨by simp only; omega, by simp only; omega⟩
        · exact ⟨Int.le_refl _, by omega⟩
      refine ⟨by show a.2 ≤ (l.foldl wStep2 (wStep2 a y)).2; omega, fun x hx => ?_⟩
      show _ ≤ (l.foldl wStep2 (wStep2 a y)).2
      rcases List.mem_cons.1 hx with rfl | hx
      · omega
      · exact h2 x hx
  exact (this xs _).2
theorem mem2 {N n : Nat} {g : Nat → Nat → Nat} {x : Wit2} : x ∈ allWits2 N n g ↔ ∃ s t, s ≤ N ∧ t ≤ N ∧ ((0 < s ∧ 0 < t ∧ x = openW N n g s t) ∨ (s < N ∧ t < N ∧ x = closedW N n g s t)) := by
  unfold allWits2 rowsW rowW
  simp only [List.mem_flatMap, List.mem_range]
  constructor
  · rintro ⟨s, hs, t, ht, hx⟩
    refine ⟨s, t, by omega, by omega, ?_⟩
    unfold witsAt2 at hx
    rw [List.mem_append] at hx
    rcases hx with hx | hx
    · split at hx
      · rename_i h; rw [List.mem_singleton] at hx; exact .inl ⟨h.1, h.2, hx⟩
      · cases hx
    · split at hx
      · rename_i h; rw [List.mem_singleton] at hx; exact .inr ⟨h.1, h.2, hx⟩
      · cases hx
  · rintro ⟨s, t, hs, ht, h⟩
    refine ⟨s, by omega, t, by omega, ?_⟩
    unfold witsAt2
    rw [List.mem_append]
    rcases h with ⟨h1, h2, rfl⟩ | ⟨h1, h2, rfl⟩
    · exact .inl (by rw [if_pos ⟨h1, h2⟩]; simp)
    · exact .inr (by rw [if_pos ⟨h1, h2⟩]; simp)
theorem mid_in (ps : Pts) {N i j : Nat} (hi : i ≤ N) (hj : j ≤ N) : mid2 ps N N 0 i j = below2 ps i j := by
  unfold mid2; rw [if_pos (by omega)]
theorem worst_nonneg {N : Nat} {ps : Pts} (hN : 1 ≤ N) : 0 ≤ (sheetW N ps).2 := by
  have := worst2_max (allWits2 N ps.length (mid2 ps N N 0)) (openW N ps.length (mid2 ps N N 0) N N) (mem2.2 ⟨N, N, by omega, by omega, .inl ⟨by omega, by omega, rfl⟩⟩)
  unfold sheetW; omega
/-- Swapped points, in another order. -/
def swapP (ps : Pts) : Pts := ps.map fun p => (p.2, p.1)
theorem below_swap (ps : Pts) (i j : Nat) : below2 (swapP ps) i j = below2 ps j i := by
  unfold below2 swapP
  induction ps with
  | nil => rfl
  | cons p l ih =>
    simp only [List.map_cons, List.filter_cons]
    rw [Bool.and_comm]
    split
    · simp only [List.length_cons]; rw [ih]
    · exact ih
theorem below2_perm {ps qs : Pts} (h : ps.Perm qs) (i j : Nat) : below2 ps i j = below2 qs i j := (h.filter _).length_eq
theorem swap_le {N : Nat} {ps qs : Pts} (hN : 1 ≤ N) (hl : ps.length = qs.length) (h : ∀ i j, below2 ps i j = below2 qs j i) : (sheetW N ps).2 ≤ (sheetW N qs).2 := by
  refine (worst2Of_le (worst_nonneg hN) fun x hx => ?_).2
  obtain ⟨s, t, hs, ht, hc⟩ := mem2.1 hx
  rcases hc with ⟨h1, h2, rfl⟩ | ⟨h1, h2, rfl⟩
  · have := worst2_max (allWits2 N qs.length (mid2 qs N N 0)) (openW N qs.length (mid2 qs N N 0) t s) (mem2.2 ⟨t, s, ht, hs, .inl ⟨h2, h1, rfl⟩⟩)
    unfold sheetW
    refine Int.le_trans (Int.le_of_eq ?_) this
    unfold openW exc2
    simp only
    rw [mid_in _ hs ht, mid_in _ ht hs, h, hl, Int.mul_comm (s : Int) (t : Int)]
  · have := worst2_max (allWits2 N qs.length (mid2 qs N N 0)) (closedW N qs.length (mid2 qs N N 0) t s) (mem2.2 ⟨t, s, ht, hs, .inr ⟨h2, h1, rfl⟩⟩)
    unfold sheetW
    refine Int.le_trans (Int.le_of_eq ?_) this
    unfold closedW exc2
    simp only
    rw [mid_in _ (show s + 1 ≤ N by omega) (show t + 1 ≤ N by omega), mid_in _ (show t + 1 ≤ N by omega) (show s + 1 ≤ N by omega), h, hl, Int.mul_comm (s : Int) (t : Int)]
/-- Swapping the points and turning their order round leaves the discrepancy. -/
theorem swap_same {N : Nat} {ps : Pts} (hN : 1 ≤ N) : (sheetW N (swapP ps).reverse).2 = (sheetW N ps).2 := by
  have hb : ∀ i j, below2 (swapP ps).reverse i j = below2 ps j i := fun i j => by rw [below2_perm (List.reverse_perm _), below_swap]
  have hl : (swapP ps).reverse.length = ps.length := by simp [swapP]
  exact Int.le_antisymm (swap_le hN hl hb) (swap_le hN hl.symm fun i j => (hb j i).symm)
/-- The flat sheet of a line's points. -/
def flatP (L : List Int) : Pts := L.map fun x => (x, 0)
theorem below_flat (L : List Int) (i : Nat) {j : Nat} (hj : 1 ≤ j) : below2 (flatP L) i j = belowC L i := by
  unfold below2 flatP belowC
  induction L with
  | nil => rfl
  | cons x l ih =>
    simp only [List.map_cons, List.filter_cons]
    rw [show decide ((0 : Int) < (j : Int)) = true from decide_eq_true (by omega), Bool.and_true]
    split
    · simp only [List.length_cons]; rw [ih]
    · exact ih
theorem open_flat {N s : Nat} {L : List Int} (hN : 1 ≤ N) (h0 : 0 < s) (hs : s ≤ N) : (N : Int) * ((exc N L.length (belowC L s) s).natAbs : Int) ≤ (sheetW N (flatP L)).2 := by
  have := worst2_max (allWits2 N (flatP L).length (mid2 (flatP L) N N 0)) (openW N (flatP L).length (mid2 (flatP L) N N 0) s N) (mem2.2 ⟨s, N, hs, by omega, .inl ⟨h0, by omega, rfl⟩⟩)
  unfold sheetW
  refine Int.le_trans (Int.le_of_eq ?_) this
  unfold openW exc2 exc
  simp only
  rw [mid_in _ hs (Nat.le_refl _), below_flat _ _ hN, show (flatP L).length = L.length by simp [flatP]]
  have e : ((belowC L s : Nat) : Int) * (N : Int) * (N : Int) - (s : Int) * (N : Int) * (L.length : Int) = (N : Int) * (((belowC L s : Nat) : Int) * (N : Int) - (s : Int) * (L.length : Int)) := by
    rw [Int.mul_sub]; congr 1 <;> ac_rfl
  rw [e, Int.natAbs_mul]
  simp
theorem closed_flat {N s : Nat} {L : List Int} (hN : 1 ≤ N) (hs : s < N) : (N : Int) * ((exc N L.length (belowC L (s + 1)) s).natAbs : Int) ≤ (sheetW N (flatP L)).2 := by
  by_cases hp : 0 ≤ exc N L.length (belowC L (s + 1)) s
  · have := worst2_max (allWits2 N (flatP L).length (mid2 (flatP L) N N 0)) (closedW N (flatP L).length (mid2 (flatP L) N N 0) s (N - 1)) (mem2.2 ⟨s, N - 1, by omega, by omega, .inr ⟨hs, by omega, rfl⟩⟩)
    unfold sheetW
    refine Int.le_trans ?_ this
    unfold closedW exc2
    unfold exc at hp ⊢
    simp only
    rw [show N - 1 + 1 = N by omega, mid_in _ (show s + 1 ≤ N by omega) (Nat.le_refl _), below_flat _ _ hN, show (flatP L).length = L.length by simp [flatP]]
    generalize ((belowC L (s + 1) : Nat) : Int) = c at hp ⊢
    have e1 : ((N - 1 : Nat) : Int) = (N : Int) - 1 := by omega
    have e : c * (N : Int) * (N : Int) - (s : Int) * ((N - 1 : Nat) : Int) * (L.length : Int) = (N : Int) * (c * (N : Int) - (s : Int) * (L.length : Int)) + (s : Int) * (L.length : Int) := by
      rw [e1, Int.mul_sub, Int.mul_sub, Int.sub_mul, Int.mul_one, show (s : Int) * (N : Int) * (L.length : Int) = (N : Int) * ((s : Int) * (L.length : Int)) by ac_rfl, show c * (N : Int) * (N : Int) = (N : Int) * (c * (N : Int)) by ac_rfl]
      omega
    have h1 : 0 ≤ (s : Int) * (L.length : Int) := Int.mul_nonneg (by omega) (by omega)
    have h2 := Int.mul_nonneg (show (0 : Int) ≤ (N : Int) by omega) hp
    rw [e, Int.natAbs_of_nonneg hp]
    omega
  · have h := open_flat (L := L) hN (show 0 < s + 1 by omega) (show s + 1 ≤ N by omega)
    refine Int.le_trans (Int.mul_le_mul_of_nonneg_left ?_ (by omega)) h
    unfold exc at hp ⊢
    have e1 : ((s + 1 : Nat) : Int) * (L.length : Int) = (s : Int) * (L.length : Int) + (L.length : Int) := by push_cast; rw [Int.add_mul]; omega
    rw [e1]
    omega
theorem line_flat {N : Nat} {L : List Int} (hN : 1 ≤ N) (hpos : ∀ z ∈ L, 0 ≤ z) : (N : Int) * (lineW N L).2 ≤ (sheetW N (flatP L)).2 := by
  have h0 := worst_nonneg (ps := flatP L) hN
  have hdiv : (lineW N L).2 ≤ (sheetW N (flatP L)).2 / (N : Int) := by
    unfold lineW
    refine (worstOf_le (Int.ediv_nonneg h0 (by omega)) fun x hx => ?_).2
    have key : (N : Int) * (x.2.2.natAbs : Int) ≤ (sheetW N (flatP L)).2 := by
      unfold allWits upTo at hx
      rw [List.mem_flatMap] at hx
      obtain ⟨t, ht, hx⟩ := hx
      rw [List.mem_range] at ht
      have hopen : (N : Int) * ((exc N L.length (mid L N t) t).natAbs : Int) ≤ (sheetW N (flatP L)).2 := by
        rw [show mid L N t = belowC L t by unfold mid; rw [if_pos (by omega)]]
        by_cases h : 0 < t
        · exact open_flat hN h (by omega)
        · obtain rfl : t = 0 := by omega
          have hz : belowC L 0 = 0 := by
            unfold belowC
            rw [List.length_eq_zero_iff, List.filter_eq_nil_iff]
            intro z hz
            have := hpos z hz
            simp; omega
          rw [hz]
          simpa [exc] using h0
      unfold witsAt at hx
      by_cases htN : t = N
      · rw [if_pos htN, List.mem_singleton] at hx
        subst hx
        exact hopen
      · rw [if_neg htN] at hx
        simp only [List.mem_cons, List.not_mem_nil, or_false] at hx
        rcases hx with rfl | rfl
        · exact hopen
        · have := closed_flat (L := L) hN (show t < N by omega)
          simp only
          rw [show mid L N (t + 1) = belowC L (t + 1) by unfold mid; rw [if_pos (by omega)]]
          exact this
    exact (Int.le_ediv_iff_mul_le (by omega)).2 (by rw [Int.mul_comm]; exact key)
  have := Int.mul_le_mul_of_nonneg_left hdiv (show (0 : Int) ≤ (N : Int) by omega)
  have := Int.mul_ediv_self_le (x := (sheetW N (flatP L)).2) (k := (N : Int)) (by omega)
  omega
end Go.Proofs.Ytifbiamfandjnaa.Flat
set_option linter.unusedSimpArgs false
set_option linter.unusedVariables false
namespace Go.Proofs.Ytifbiamfandjnaa.Flat
open Go Go.Proofs Go.RowKit
theorem ty50 : Try.prog.underlying 50 = some (.slice 39) := by kernel_rfl
theorem info39 : (Try.prog.info? 39).map (fun i => (i.zero, i.size, i.bytes)) = some (some (.agg #[.int .i64 0, .int .i64 0]), 2, 16) := by kernel_rfl
def enc2 (ps : Pts) : List Value := ps.flatMap fun p => [vz p.1, vz p.2]
theorem enc2_push (ps : Pts) (x y : Int) : enc2 (ps ++ [(x, y)]) = enc2 ps ++ [.int .i64 x, .int .i64 y] := by simp [enc2, vz]
theorem enc2_len (ps : Pts) : (enc2 ps).length = ps.length * 2 := by
  unfold enc2
  induction ps with
  | nil => rfl
  | cons p l ih => simp only [List.flatMap_cons, List.length_append, List.length_cons, List.length_nil, ih]; omega
theorem enc2_at : ∀ (ps : Pts) {k : Nat}, k < ps.length → (enc2 ps)[k * 2]? = some (vz (ps.getD k (0, 0)).1) ∧ (enc2 ps)[k * 2 + 1]? = some (vz (ps.getD k (0, 0)).2)
  | [], k, h => by simp at h
  | p :: l, 0, h => by simp [enc2]
  | p :: l, k + 1, h => by
    have := enc2_at l (k := k) (by simpa using h)
    rw [show (k + 1) * 2 = k * 2 + 1 + 1 by omega]
    simpa [enc2] using this
theorem own_pairs {w : World} {B : Nat} {v : Value} {ps : Pts} (h : w.ownsRow B 39 2 v ps.length (enc2 ps)) : PairsOf w v ps := by
  obtain ⟨h1, h2⟩ := h
  rcases h2 with ⟨rfl, h0⟩ | ⟨g, cap, cur, rfl, hg, hh, hn, hcap, hsz, htake⟩
  · exact ⟨none, 0, by rw [h0], fun k hk => by omega⟩
  · refine ⟨_, cap, rfl, fun k hk => ⟨g, rfl, ?_, ?_⟩⟩
    · have e : (cur.toList.take (ps.length * 2))[k * 2]? = (enc2 ps)[k * 2]? := by rw [htake]
      rw [List.getElem?_take_of_lt (by omega), (enc2_at ps hk).1] at e
      have : cur[k * 2]? = some (vz (ps.getD k (0, 0)).1) := by rw [← Array.getElem?_toList, e]
      simp [World.cell?, hh, this, vz]
    · have e : (cur.toList.take (ps.length * 2))[k * 2 + 1]? = (enc2 ps)[k * 2 + 1]? := by rw [htake]
      rw [List.getElem?_take_of_lt (by omega), (enc2_at ps hk).2] at e
      have : cur[k * 2 + 1]? = some (vz (ps.getD k (0, 0)).2) := by rw [← Array.getElem?_toList, e]
      simp [World.cell?, hh, this, vz]
theorem cell_two_new (w : World) (a b : Value) (t : TypeId) : ∀ j u, [a, b][j]? = some u → (w.alloc (.cells #[a, b] t)).cell? ((⟨w.heap.size, 0, none⟩ : Addr).add j) = some u := by
  intro j u hj
  match j, hj with
  | 0, hj => simp at hj; subst hj; simp [Addr.add]
  | 1, hj => simp at hj; subst hj; simp [Addr.add]
  | j + 2, hj => simp at hj
theorem two_one (x y : Int) : ∀ u ∈ [Value.int .i64 x, Value.int .i64 y], u.oneCell' = true := by
  intro u hu
  simp only [List.mem_cons, List.not_mem_nil, or_false] at hu
  rcases hu with rfl | rfl <;> rfl
theorem flatP_push {L : List Int} {k : Nat} (h : k < L.length) : flatP (L.take (k + 1)) = flatP (L.take k) ++ [(L.getD k 0, 0)] := by
  rw [takez h]; simp [flatP]
theorem swapP_push (Q : Pts) (x y : Int) : swapP (Q ++ [(x, y)]) = swapP Q ++ [(y, x)] := by simp [swapP]
theorem rev_push {Q : Pts} {k : Nat} (h : k < Q.length) : Q.reverse.take (k + 1) = Q.reverse.take k ++ [Q.getD (Q.length - 1 - k) (0, 0)] := by
  rw [List.take_add_one, List.getElem?_reverse h, List.getElem?_eq_getElem (by omega), List.getD_eq_getElem?_getD, List.getElem?_eq_getElem (by omega)]; rfl
def Inside (N : Nat) (ps : Pts) : Prop := ∀ p ∈ ps, 0 ≤ p.1 ∧ p.1 < (N : Int) ∧ 0 ≤ p.2 ∧ p.2 < (N : Int)
theorem Inside.push {N : Nat} {Q : Pts} {x y : Int} (h : Inside N Q) (hx : 0 ≤ x ∧ x < (N : Int)) (hy : 0 ≤ y ∧ y < (N : Int)) : Inside N (Q ++ [(x, y)]) := by
  intro p hp
  rcases List.mem_append.1 hp with hp | hp
  · exact h p hp
  · rw [List.mem_singleton] at hp; subst hp; exact ⟨hx.1, hx.2, hy.1, hy.2⟩
theorem Inside.swap {N : Nat} {Q : Pts} (h : Inside N Q) : Inside N (swapP Q).reverse := by
  intro p hp
  rw [List.mem_reverse] at hp
  obtain ⟨q, hq, rfl⟩ := List.mem_map.1 hp
  obtain ⟨a, b, c, d⟩ := h q hq
  exact ⟨c, d, a, b⟩
theorem inside_flat {N : Nat} {L : List Int} (hN : 1 ≤ N) (h : ∀ z ∈ L, 0 ≤ z ∧ z < (N : Int)) : Inside N (flatP L) := by
  intro p hp
  obtain ⟨z, hz, rfl⟩ := List.mem_map.1 hp
  have := h z hz
  exact ⟨this.1, this.2, by simp, by simp only; omega⟩
theorem mul_wrap {x y : Int} (h1 : -1000000 ≤ x) (h2 : x ≤ 1000000) (h3 : 0 ≤ y) (h4 : y ≤ 1000000) : IntKind.i64.wrap (x * y) = x * y := by
  have a1 := Int.mul_le_mul_of_nonneg_right h2 h3
  have a2 := Int.mul_le_mul_of_nonneg_right h1 h3
  exact IntWalk.i64_in _ (by omega)
theorem not_less {S l P1 N : Int} (hP : 0 < P1) (hN : 0 < N) (h : N * l ≤ S) : ¬ redN S (P1 * N) * redD l P1 < redN l P1 * redD S (P1 * N) := by
  have hP2 : 0 < P1 * N := Int.mul_pos hP hN
  obtain ⟨a1, a2, _⟩ := red_parts S hP2
  obtain ⟨b1, b2, _⟩ := red_parts l hP
  generalize redN S (P1 * N) = a at *
  generalize redD S (P1 * N) = b at *
  generalize redN l P1 = c at *
  generalize redD l P1 = d at *
  have hle : c * b ≤ a * d := by
    refine Int.le_of_mul_le_mul_right ?_ (Int.mul_pos hP2 hP)
    have e1 : c * b * (P1 * N * P1) = (N * l) * (b * d * P1) := by
      calc c * b * (P1 * N * P1) = (c * P1) * (b * N * P1) := by ac_rfl
        _ = (l * d) * (b * N * P1) := by rw [← b1]
        _ = (N * l) * (b * d * P1) := by ac_rfl
    have e2 : a * d * (P1 * N * P1) = S * (b * d * P1) := by
      calc a * d * (P1 * N * P1) = (a * (P1 * N)) * (d * P1) := by ac_rfl
        _ = (S * b) * (d * P1) := by rw [← a1]
        _ = S * (b * d * P1) := by ac_rfl
    rw [e1, e2]
    exact Int.mul_le_mul_of_nonneg_right h (Int.le_of_lt (Int.mul_pos (Int.mul_pos a2 b2) hP))
  omega
theorem sheetW_le {N : Nat} {ps : Pts} (h1 : 1 ≤ N) (h2 : N ≤ 100) (h3 : ps.length ≤ 60) : 0 ≤ (sheetW N ps).2 ∧ (sheetW N ps).2 ≤ 600000 := by
  refine ⟨worst_nonneg h1, ?_⟩
  unfold sheetW
  exact (worst2Of_le (by omega) (fun x hx => by have := (wits2_le (N := N) (n := ps.length) (g := mid2 ps N N 0) h2 h3 (fun i j _ _ => Nat.le_trans (mid2_le _ _ _ _ _ _) h3) x hx).1; omega)).2
theorem lineW_le {N : Nat} {L : List Int} (h2 : N ≤ 1000) (h3 : L.length ≤ 60) : -1 ≤ (lineW N L).2 ∧ (lineW N L).2 ≤ 60000 := by
  unfold lineW
  exact worstOf_le (by omega) (fun x hx => by have := (wits_le (N := N) (n := L.length) (g := mid L N) h2 h3 (fun k _ => Nat.le_trans (mid_le _ _ _) h3) x hx).1; omega)
end Go.Proofs.Ytifbiamfandjnaa.Flat
set_option linter.unusedSimpArgs false
set_option linter.unusedVariables false
namespace Go.Proofs.Ytifbiamfandjnaa
open Go Go.Proofs Go.RowKit
set_option maxHeartbeats 1000000 in
set_option maxRecDepth 100000 in
theorem tame30_any {n : Int} {v : Value} {zs : List Int} {w : World} (hv : ArgInts w v zs) :
    Calls Try.prog 48 #[.int .i64 n, v, .int .i64 30] w fun e w' => ∃ (N : Nat) (v' : Value) (L : List Int), N ≤ 30 ∧ e = .returned (.tuple #[.int .i64 N, v']) ∧ okLine (N : Int) L = true ∧ IntsAt w' v' L ∧ Below w.heap.size w w' := by
  obtain ⟨i0, hi, hz0, hz1, hz2⟩ := info_parts info3
  have qn := fun w => mod_any n (m := 30) (by omega) (by omega) w
  rcases hv with ⟨rfl, rfl⟩ | ⟨a, cap, rfl, rfl⟩ | ⟨b, o, cap, rfl, hcap, hmax, hb, hc⟩
  · go_enter Try.func48, Try.ntmps48
    go_wp2_with (go_at_call 49; refine (qn _).mono ?_; rintro e w5 ⟨⟨r, hr, rfl⟩, rfl⟩)
    go_loopw [8, 9] (fun v i wr => i = .int .i64 0 ∧ v = .slice (some ⟨w5.heap.size, 0, none⟩) 1 1 ∧ wr = w5.alloc (.cells #[.int .i64 0] 3)) (fun _ _ _ => 0)
    case atStart => exact ⟨rfl, rfl, rfl⟩
    case round =>
      obtain ⟨rfl, rfl, rfl⟩ := hrel
      go_wp2
      go_ret2
      refine ⟨r + 1, _, [0], by omega, ?_, ok_of (by omega) (by omega) (by simp) (by simp) (by unfold inR; simp), own_cellz (own_one w5 w5.heap.size 0 (Nat.le_refl _)), (Below.refl _ w5).alloc (Nat.le_refl _) _⟩
      rw [show ((r + 1 : Nat) : Int) = 1 + (r : Int) by omega]; rfl
  · go_enter Try.func48, Try.ntmps48
    go_wp2_with (go_at_call 49; refine (qn _).mono ?_; rintro e w5 ⟨⟨r, hr, rfl⟩, rfl⟩)
    go_loopw [8, 9] (fun v i wr => i = .int .i64 0 ∧ v = .slice (some ⟨w5.heap.size, 0, none⟩) 1 1 ∧ wr = w5.alloc (.cells #[.int .i64 0] 3)) (fun _ _ _ => 0)
    case atStart => exact ⟨rfl, rfl, rfl⟩
    case round =>
      obtain ⟨rfl, rfl, rfl⟩ := hrel
      go_wp2
      go_ret2
      refine ⟨r + 1, _, [0], by omega, ?_, ok_of (by omega) (by omega) (by simp) (by simp) (by unfold inR; simp), own_cellz (own_one w5 w5.heap.size 0 (Nat.le_refl _)), (Below.refl _ w5).alloc (Nat.le_refl _) _⟩
      rw [show ((r + 1 : Nat) : Int) = 1 + (r : Int) by omega]; rfl
  · by_cases hz : zs = []
    · subst hz
      go_enter Try.func48, Try.ntmps48
      go_wp2_with (go_at_call 49; refine (qn _).mono ?_; rintro e w5 ⟨⟨r, hr, rfl⟩, rfl⟩)
      go_loopw [8, 9] (fun v i wr => i = .int .i64 0 ∧ v = .slice (some ⟨w5.heap.size, 0, none⟩) 1 1 ∧ wr = w5.alloc (.cells #[.int .i64 0] 3)) (fun _ _ _ => 0)
      case atStart => exact ⟨rfl, rfl, rfl⟩
      case round =>
        obtain ⟨rfl, rfl, rfl⟩ := hrel
        go_wp2
        go_ret2
        refine ⟨r + 1, _, [0], by omega, ?_, ok_of (by omega) (by omega) (by simp) (by simp) (by unfold inR; simp), own_cellz (own_one w5 w5.heap.size 0 (Nat.le_refl _)), (Below.refl _ w5).alloc (Nat.le_refl _) _⟩
        rw [show ((r + 1 : Nat) : Int) = 1 + (r : Int) by omega]; rfl
    · have hl : 1 ≤ zs.length := by cases zs with | nil => exact absurd rfl hz | cons => simp
      clear hz
      go_enter Try.func48, Try.ntmps48
      go_wp2_with (go_at_call 49; refine (qn _).mono ?_; rintro e w5 ⟨⟨r, hr, rfl⟩, rfl⟩)
      obtain ⟨N, hN⟩ : ∃ N : Nat, Keep (1 + (r : Int) = (N : Int)) := ⟨r + 1, ⟨by omega⟩⟩
      have hN1 : 1 ≤ N := by have := hN.out; omega
      have hN2 : N ≤ 30 := by have := hN.out; omega
      rw [hN.out]
      go_loopw [8, 9] (fun v i wr => ∃ (k : Nat) (l : List Int), k ≤ 60 ∧ k ≤ zs.length ∧ i = .int .i64 k ∧ l.length = k ∧ Keep (inR N l) ∧ (k = 0 ∨ wr.ownsRow w5.heap.size 3 1 v l.length (l.map vz)) ∧ Below w5.heap.size w5 wr) (fun _ i _ => 60 - (intOf i).toNat)
      case atStart => exact ⟨0, [], by omega, by omega, rfl, rfl, ⟨rfl⟩, .inl rfl, (Below.refl _ _).alloc (Nat.le_refl _) _⟩
      case round =>
        obtain ⟨k, l, hk60, hkl, rfl, hlk, hin, hor, hbw⟩ := hrel
        have hbz : w5.heap.size ≤ wr.heap.size := hbw.size
        by_cases h1 : k < zs.length
        · by_cases h2 : k < 60
          · have hg : wr.cell? ⟨b, o + k, none⟩ = some (.int .i64 (zs.getD k 0)) := (hbw.cell (p := ⟨b, o + k, none⟩) hb).trans (hc k h1)
            clear hc
            generalize zs.getD k 0 = z at hg
            by_cases hk0 : k = 0
            · subst hk0
              have hl0 : l = [] := List.length_eq_zero_iff.1 hlk
              subst hl0
              have hown : wr.ownsRow w5.heap.size 3 1 (.slice none 0 0) 0 [] := World.ownsRow_nil _ _ _ _
              rw [Nat.add_zero] at hg
              clear hor
              go_wp2_with (first
                | (go_at_call 49; refine (mod_any z hN1 (by omega) _).mono ?_; rintro e w6 ⟨⟨s, hs, rfl⟩, rfl⟩)
                | (at_builtin; go_loud (
                   refine wpList_append_own _ rfl _ _ 22 rfl w5.heap.size 3 i0 (.int .i64 0) 1 8 ty22 hi hz0 hz1 hz2 rfl (by decide) _ 0 [] rfl (hown.alloc _) ⟨w6.heap.size, 0, none⟩ 1 1 [.int .i64 s] rfl rfl (cell_one_new _ _ _) (fun x hx => by simp at hx; subst hx; rfl) (by unfold maxLen; omega) (by omega) (by simp; try omega) ?_
                   intro v' w3 hown' hgrow3 hnil3
                   have hbw3 : Below w5.heap.size w5 w3 := Below.grown (hbw.alloc hbz _) hgrow3 (by simp; omega) (fun j hj => by cases hj)
                   have X : Keep (w3.ownsRow w5.heap.size 3 1 v' 1 [.int .i64 s] ∧ Below w5.heap.size w5 w3 ∧ s < N) := ⟨⟨hown', hbw3, hs⟩⟩
                   clear hown' hgrow3 hnil3 hbw3)))
              obtain ⟨x1, x2, x3⟩ := X.out
              exact ⟨⟨1, [(s : Int)], by omega, by omega, by go_num, rfl, ⟨inR_snoc (l := []) rfl x3⟩, .inr x1, x2⟩, by simp [intOf]⟩
            · have hown := hor.resolve_left hk0
              clear hor
              go_wp2_with (first
                | (go_at_call 49; refine (mod_any z hN1 (by omega) _).mono ?_; rintro e w6 ⟨⟨s, hs, rfl⟩, rfl⟩)
                | (at_builtin; go_loud (
                   refine wpList_append_own _ rfl _ _ 22 rfl w5.heap.size 3 i0 (.int .i64 0) 1 8 ty22 hi hz0 hz1 hz2 rfl (by decide) _ _ _ rfl (hown.alloc _) ⟨w6.heap.size, 0, none⟩ 1 1 [.int .i64 s] rfl rfl (cell_one_new _ _ _) (fun x hx => by simp at hx; subst hx; rfl) (by unfold maxLen; omega) (by omega) (by simp; try omega) ?_
                   intro v' w3 hown' hgrow3 hnil3
                   have hbw3 : Below w5.heap.size w5 w3 := Below.grown (hbw.alloc hbz _) hgrow3 (by simp; omega) (fun j hj => by have := (hown.lt _ hj).1; omega)
                   have X : Keep (w3.ownsRow w5.heap.size 3 1 v' (l.length + 1) (l.map vz ++ [.int .i64 s]) ∧ Below w5.heap.size w5 w3 ∧ s < N) := ⟨⟨hown', hbw3, hs⟩⟩
                   clear hown' hgrow3 hnil3 hbw3)))
              obtain ⟨x1, x2, x3⟩ := X.out
              refine ⟨⟨k + 1, l ++ [(s : Int)], by omega, by omega, by go_num, by simp; omega, ⟨inR_snoc hin.out x3⟩, .inr ?_, x2⟩, by simp [intOf]; omega⟩
              rw [List.length_append, List.map_append]
              exact x1
          · have hown := hor.resolve_left (by omega)
            clear hor hc
            go_wp2
            go_ret2
            exact ⟨N, _, l, hN2, rfl, ok_of hN1 (by omega) (by omega) (by omega) hin.out, own_cellz hown, hbw⟩
        · have hown := hor.resolve_left (by omega)
          clear hor hc
          go_wp2
          go_ret2
          exact ⟨N, _, l, hN2, rfl, ok_of hN1 (by omega) (by omega) (by omega) hin.out, own_cellz hown, hbw⟩
end Go.Proofs.Ytifbiamfandjnaa
set_option linter.unusedSimpArgs false
set_option linter.unusedVariables false
namespace Go.Proofs.Ytifbiamfandjnaa
open Go Go.Proofs Go.RowKit Mir Flat
theorem eqTF (a b : Int) (w : World) : (Op.equalIn 10000 25 (.agg #[.int .i64 a, .int .i64 b]) (.agg #[.int .i64 a, .int .i64 b])).run Try.prog w = .ok true w := by
  rw [eq25]; simp
theorem prs_al1 {w : World} {o : Obj} {v : Value} {l : Pts} (h : PairsOf w v l) : PairsOf (w.alloc o) v l := pairsOf_below h ((Below.refl _ _).alloc (Nat.le_refl _) _)
theorem prs_al2 {w : World} {o o' : Obj} {v : Value} {l : Pts} (h : PairsOf w v l) : PairsOf ((w.alloc o).alloc o') v l := prs_al1 (prs_al1 h)
set_option maxHeartbeats 8000000 in
set_option maxRecDepth 100000 in
theorem flat_any {n : Int} {v v2 : Value} {zs zs2 : List Int} {w : World} (hv : ArgInts w v zs) (hv2 : ArgInts w v2 zs2) :
    Calls Try.prog 12 #[.int .i64 n, v, v2] w fun e w' => e = .returned (.bool true) ∧ Below w.heap.size w w' := by
  obtain ⟨i0, hi, hz0, hz1, hz2⟩ := info_parts Flat.info39
  have q48 := tame30_any (n := n) hv
  have hoff := hv2.off
  obtain ⟨A2, cap2, rfl, hc2⟩ := id hoff
  obtain ⟨m2, hm2⟩ : ∃ m, Keep (zs2.length = m) := ⟨_, ⟨rfl⟩⟩
  rw [hm2.out] at hc2 ⊢
  have hck2 : Keep (∀ k, k < m2 → ∃ (g o : Nat) (z : Int), A2 = some ⟨g, o, none⟩ ∧ g < w.heap.size ∧ w.cell? ⟨g, o + k, none⟩ = some (.int .i64 z)) := ⟨fun k hk => by
    obtain ⟨g, o, hA, h⟩ := hc2 k hk
    refine ⟨g, o, _, hA, ?_, h⟩
    rcases Nat.lt_or_ge g w.heap.size with h' | h'
    · exact h'
    · simp [World.cell?, Array.getElem?_eq_none h'] at h⟩
  clear hv hv2 hc2 hoff
  go_enter Try.func12, Try.ntmps12
  go_wp2_with (go_at_call 48; refine q48.mono ?_; rintro e w2 ⟨N, v', L, hN30, rfl, hok, hi2, hb2⟩; clear q48)
  obtain ⟨hN1, _, hm1, hmL, hLb⟩ := Mir.ok_parts hok
  obtain ⟨m, hm⟩ : ∃ m, L.length = m := ⟨_, rfl⟩
  obtain ⟨A, cap, hve, hLc0⟩ := id hi2
  rw [hm] at hve hLc0 hm1 hmL
  subst hve
  have hm60 : m ≤ 60 := hmL
  have hLc : Keep (∀ k, k < m → ∃ g, A = some ⟨g, 0, none⟩ ∧ g < w2.heap.size ∧ w2.cell? ⟨g, k, none⟩ = some (.int .i64 (L.getD k 0))) := ⟨fun k hk => by
    obtain ⟨g, hA, h⟩ := hLc0 k hk
    refine ⟨g, hA, ?_, h⟩
    rcases Nat.lt_or_ge g w2.heap.size with h' | h'
    · exact h'
    · simp [World.cell?, Array.getElem?_eq_none h'] at h⟩
  have hLbk := Keep.mk hLb
  have hokk := Keep.mk hok
  have hi2k := Keep.mk hi2
  have hmk := Keep.mk hm
  have hb2k := Keep.mk hb2
  clear hLc0 hLb hok hi2 hm hb2
  go_loopw [8, 9, 10, 11] (fun a b c i wr => ∃ (k : Nat) (Q : Pts), k ≤ m ∧ i = .int .i64 k ∧ Q.length = k ∧ Keep (Inside N Q) ∧ wr.ownsRow w2.heap.size 39 2 a k (enc2 (flatP (L.take k))) ∧ wr.ownsRow w2.heap.size 39 2 b k (enc2 Q) ∧ wr.ownsRow w2.heap.size 39 2 c k (enc2 (swapP Q)) ∧
      Keep (∀ j, a.ownBlock = some j → b.ownBlock ≠ some j) ∧ Keep (∀ j, a.ownBlock = some j → c.ownBlock ≠ some j) ∧ Keep (∀ j, b.ownBlock = some j → c.ownBlock ≠ some j) ∧ Below w2.heap.size w2 wr) (fun _ _ _ i _ => m - (intOf i).toNat)
  case atStart => exact ⟨0, [], by omega, rfl, rfl, ⟨fun p hp => by cases hp⟩, World.ownsRow_nil _ _ _ _, World.ownsRow_nil _ _ _ _, World.ownsRow_nil _ _ _ _, ⟨fun j hj => by cases hj⟩, ⟨fun j hj => by cases hj⟩, ⟨fun j hj => by cases hj⟩, Below.refl _ _⟩
  case round =>
    obtain ⟨k, Q, hk, rfl, hQl, hQi, h8, h9, h10, a89, a80, a90, hbw⟩ := hrel
    have hbz := hbw.size
    by_cases hlt : k < m
    · obtain ⟨g, rfl, hg, hcw⟩ := hLc.out k hlt
      have hfp := Keep.mk (flatP_push (L := L) (k := k) (by rw [hmk.out]; exact hlt))
      have hzb := hLbk.out _ (getz (zs := L) (k := k) (by rw [hmk.out]; exact hlt))
      obtain ⟨z, hz⟩ : ∃ z, L.getD k 0 = z := ⟨_, rfl⟩
      rw [hz] at hcw hfp hzb
      clear hz
      have hc1 := (hbw.cell (p := ⟨g, k, none⟩) hg).trans hcw
      have t1 : Keep True := ⟨trivial⟩
      by_cases hlen : k < m2
      · obtain ⟨g2, o2, z2, rfl, hg2, hcell2⟩ := hck2.out k hlen
        have hcell2 := (hbw.cell (p := ⟨g2, o2 + k, none⟩) (Nat.lt_of_lt_of_le hg2 hb2k.out.size)).trans ((hb2k.out.cell (p := ⟨g2, o2 + k, none⟩) hg2).trans hcell2)
        have q49 := fun w => mod_any z2 (m := N) hN1 (by omega) w
        go_wp2_with (first
          | (go_at_call 49; refine (q49 _).mono ?_; rintro e w6 ⟨⟨h, hh, rfl⟩, rfl⟩
             clear q49 hcell2)
          | (at_builtin; go_loud (
               clear t1
               refine wpList_append_own_at _ rfl _ _ 50 rfl w2.heap.size 39 i0 (.agg #[.int .i64 0, .int .i64 0]) 2 16 Flat.ty50 hi hz0 hz1 hz2 rfl (by decide) _ _ _ rfl (h8.alloc _) ⟨w6.heap.size, 0, none⟩ 1 1 [.int .i64 z, .int .i64 0] rfl rfl (cell_two_new _ _ _ _) (two_one _ _) (by unfold maxLen; omega) (by omega) (by simp; try omega) ?_
               intro v8 w3 g8 hgrow3 hnil3 hblk3
               have hb3 : Below w2.heap.size w2 w3 := Below.grown (hbw.alloc hbz _) hgrow3 (by simp; omega) (fun j hj => by have := (h8.lt _ hj).1; omega)
               have hs3 := hb3.size
               have g9 := (h9.alloc (.cells #[.int .i64 z, .int .i64 0] 39)).kept hgrow3 (apart_ne a89.out)
               have g10 := (h10.alloc (.cells #[.int .i64 z, .int .i64 0] 39)).kept hgrow3 (apart_ne a80.out)
               have b89 := Keep.mk (apart_new a89.out hblk3 (fun j hj => by have := (h9.lt _ hj).2; simp; omega))
               have b80 := Keep.mk (apart_new a80.out hblk3 (fun j hj => by have := (h10.lt _ hj).2; simp; omega))
               have c3 : w3.cell? ⟨g, k, none⟩ = some (.int .i64 z) := (hb3.cell (p := ⟨g, k, none⟩) hg).trans hcw
               have t2 : Keep True := ⟨trivial⟩
               clear hgrow3 hnil3 hblk3 a89 a80 h8 h9 h10 hc1))
          | (at_builtin; go_loud (
               clear t2
               refine wpList_append_own_at _ rfl _ _ 50 rfl w2.heap.size 39 i0 (.agg #[.int .i64 0, .int .i64 0]) 2 16 Flat.ty50 hi hz0 hz1 hz2 rfl (by decide) _ _ _ rfl (g9.alloc _) ⟨w3.heap.size, 0, none⟩ 1 1 [.int .i64 z, .int .i64 (h : Nat)] rfl rfl (cell_two_new _ _ _ _) (two_one _ _) (by unfold maxLen; omega) (by omega) (by simp; try omega) ?_
               intro v9 w4 k9 hgrow4 hnil4 hblk4
               have hb4 : Below w2.heap.size w2 w4 := Below.grown (hb3.alloc hs3 _) hgrow4 (by simp; omega) (fun j hj => by have := (g9.lt _ hj).1; omega)
               have hs4 := hb4.size
               have k8 := (g8.alloc (.cells #[.int .i64 z, .int .i64 (h : Nat)] 39)).kept hgrow4 (apart_ne (apart_symm b89.out))
               have k10 := (g10.alloc (.cells #[.int .i64 z, .int .i64 (h : Nat)] 39)).kept hgrow4 (apart_ne a90.out)
               have d89 := Keep.mk (apart_symm (apart_new (apart_symm b89.out) hblk4 (fun j hj => by have := (g8.lt _ hj).2; simp; omega)))
               have d90 := Keep.mk (apart_new a90.out hblk4 (fun j hj => by have := (g10.lt _ hj).2; simp; omega))
               have c4 : w4.cell? ⟨g, k, none⟩ = some (.int .i64 z) := (hb4.cell (p := ⟨g, k, none⟩) hg).trans hcw
               have t3 : Keep True := ⟨trivial⟩
               clear hgrow4 hnil4 hblk4 b89 a90 g8 g9 g10 c3))
          | (at_builtin; go_loud (
               clear t3
               refine wpList_append_own_at _ rfl _ _ 50 rfl w2.heap.size 39 i0 (.agg #[.int .i64 0, .int .i64 0]) 2 16 Flat.ty50 hi hz0 hz1 hz2 rfl (by decide) _ _ _ rfl (k10.alloc _) ⟨w4.heap.size, 0, none⟩ 1 1 [.int .i64 (h : Nat), .int .i64 z] rfl rfl (cell_two_new _ _ _ _) (two_one _ _) (by unfold maxLen; omega) (by omega) (by simp; try omega) ?_
               intro v10 w5 l10 hgrow5 hnil5 hblk5
               have hb5 : Below w2.heap.size w2 w5 := Below.grown (hb4.alloc hs4 _) hgrow5 (by simp; omega) (fun j hj => by have := (k10.lt _ hj).1; omega)
               have l8 := (k8.alloc (.cells #[.int .i64 (h : Nat), .int .i64 z] 39)).kept hgrow5 (apart_ne (apart_symm b80.out))
               have l9 := (k9.alloc (.cells #[.int .i64 (h : Nat), .int .i64 z] 39)).kept hgrow5 (apart_ne (apart_symm d90.out))
               have f80 := Keep.mk (apart_symm (apart_new (apart_symm b80.out) hblk5 (fun j hj => by have := (k8.lt _ hj).2; simp; omega)))
               have f90 := Keep.mk (apart_symm (apart_new (apart_symm d90.out) hblk5 (fun j hj => by have := (k9.lt _ hj).2; simp; omega)))
               clear hgrow5 hnil5 hblk5 b80 d90 k8 k9 k10 c4)))
        refine ⟨⟨k + 1, Q ++ [(z, (h : Int))], by omega, by go_num, by simp; omega, ⟨hQi.out.push hzb ⟨by omega, by omega⟩⟩, ?_, ?_, ?_, d89, f80, f90, hb5⟩, by simp [intOf]; omega⟩
        · rw [hfp.out, Flat.enc2_push]; exact l8
        · rw [Flat.enc2_push]; exact l9
        · rw [swapP_push, Flat.enc2_push]; exact l10
      · go_wp2_with (first
          | (at_builtin; go_loud (
               clear t1
               refine wpList_append_own_at _ rfl _ _ 50 rfl w2.heap.size 39 i0 (.agg #[.int .i64 0, .int .i64 0]) 2 16 Flat.ty50 hi hz0 hz1 hz2 rfl (by decide) _ _ _ rfl (h8.alloc _) ⟨wr.heap.size, 0, none⟩ 1 1 [.int .i64 z, .int .i64 0] rfl rfl (cell_two_new _ _ _ _) (two_one _ _) (by unfold maxLen; omega) (by omega) (by simp; try omega) ?_
               intro v8 w3 g8 hgrow3 hnil3 hblk3
               have hb3 : Below w2.heap.size w2 w3 := Below.grown (hbw.alloc hbz _) hgrow3 (by simp; omega) (fun j hj => by have := (h8.lt _ hj).1; omega)
               have hs3 := hb3.size
               have g9 := (h9.alloc (.cells #[.int .i64 z, .int .i64 0] 39)).kept hgrow3 (apart_ne a89.out)
               have g10 := (h10.alloc (.cells #[.int .i64 z, .int .i64 0] 39)).kept hgrow3 (apart_ne a80.out)
               have b89 := Keep.mk (apart_new a89.out hblk3 (fun j hj => by have := (h9.lt _ hj).2; simp; omega))
               have b80 := Keep.mk (apart_new a80.out hblk3 (fun j hj => by have := (h10.lt _ hj).2; simp; omega))
               have c3 : w3.cell? ⟨g, k, none⟩ = some (.int .i64 z) := (hb3.cell (p := ⟨g, k, none⟩) hg).trans hcw
               have t2 : Keep True := ⟨trivial⟩
               clear hgrow3 hnil3 hblk3 a89 a80 h8 h9 h10 hc1))
          | (at_builtin; go_loud (
               clear t2
               refine wpList_append_own_at _ rfl _ _ 50 rfl w2.heap.size 39 i0 (.agg #[.int .i64 0, .int .i64 0]) 2 16 Flat.ty50 hi hz0 hz1 hz2 rfl (by decide) _ _ _ rfl (g9.alloc _) ⟨w3.heap.size, 0, none⟩ 1 1 [.int .i64 z, .int .i64 0] rfl rfl (cell_two_new _ _ _ _) (two_one _ _) (by unfold maxLen; omega) (by omega) (by simp; try omega) ?_
               intro v9 w4 k9 hgrow4 hnil4 hblk4
               have hb4 : Below w2.heap.size w2 w4 := Below.grown (hb3.alloc hs3 _) hgrow4 (by simp; omega) (fun j hj => by have := (g9.lt _ hj).1; omega)
               have hs4 := hb4.size
               have k8 := (g8.alloc (.cells #[.int .i64 z, .int .i64 0] 39)).kept hgrow4 (apart_ne (apart_symm b89.out))
               have k10 := (g10.alloc (.cells #[.int .i64 z, .int .i64 0] 39)).kept hgrow4 (apart_ne a90.out)
               have d89 := Keep.mk (apart_symm (apart_new (apart_symm b89.out) hblk4 (fun j hj => by have := (g8.lt _ hj).2; simp; omega)))
               have d90 := Keep.mk (apart_new a90.out hblk4 (fun j hj => by have := (g10.lt _ hj).2; simp; omega))
               have c4 : w4.cell? ⟨g, k, none⟩ = some (.int .i64 z) := (hb4.cell (p := ⟨g, k, none⟩) hg).trans hcw
               have t3 : Keep True := ⟨trivial⟩
               clear hgrow4 hnil4 hblk4 b89 a90 g8 g9 g10 c3))
          | (at_builtin; go_loud (
               clear t3
               refine wpList_append_own_at _ rfl _ _ 50 rfl w2.heap.size 39 i0 (.agg #[.int .i64 0, .int .i64 0]) 2 16 Flat.ty50 hi hz0 hz1 hz2 rfl (by decide) _ _ _ rfl (k10.alloc _) ⟨w4.heap.size, 0, none⟩ 1 1 [.int .i64 0, .int .i64 z] rfl rfl (cell_two_new _ _ _ _) (two_one _ _) (by unfold maxLen; omega) (by omega) (by simp; try omega) ?_
               intro v10 w5 l10 hgrow5 hnil5 hblk5
               have hb5 : Below w2.heap.size w2 w5 := Below.grown (hb4.alloc hs4 _) hgrow5 (by simp; omega) (fun j hj => by have := (k10.lt _ hj).1; omega)
               have l8 := (k8.alloc (.cells #[.int .i64 0, .int .i64 z] 39)).kept hgrow5 (apart_ne (apart_symm b80.out))
               have l9 := (k9.alloc (.cells #[.int .i64 0, .int .i64 z] 39)).kept hgrow5 (apart_ne (apart_symm d90.out))
               have f80 := Keep.mk (apart_symm (apart_new (apart_symm b80.out) hblk5 (fun j hj => by have := (k8.lt _ hj).2; simp; omega)))
               have f90 := Keep.mk (apart_symm (apart_new (apart_symm d90.out) hblk5 (fun j hj => by have := (k9.lt _ hj).2; simp; omega)))
               clear hgrow5 hnil5 hblk5 b80 d90 k8 k9 k10 c4)))
        refine ⟨⟨k + 1, Q ++ [(z, 0)], by omega, by go_num, by simp; omega, ⟨hQi.out.push hzb ⟨by omega, by omega⟩⟩, ?_, ?_, ?_, d89, f80, f90, hb5⟩, by simp [intOf]; omega⟩
        · rw [hfp.out, Flat.enc2_push]; exact l8
        · rw [Flat.enc2_push]; exact l9
        · rw [swapP_push, Flat.enc2_push]; exact l10
    · have hkm : k = m := by omega
      subst hkm
      rw [List.take_of_length_le (by rw [hmk.out]; exact Nat.le_refl _)] at h8
      have p8 : PairsOf wr _ (flatP L) := own_pairs (B := w2.heap.size) (by rw [show (flatP L).length = k by rw [← hmk.out]; simp [flatP]]; exact h8)
      have p9 : PairsOf wr _ Q := own_pairs (B := w2.heap.size) (by rw [hQl]; exact h9)
      have hSl : (swapP Q).length = k := by rw [← hQl]; simp [swapP]
      have p10 : PairsOf wr _ (swapP Q) := own_pairs (B := w2.heap.size) (by rw [hSl]; exact h10)
      have hil := ints_below hi2k.out hbw
      have hbw0 : Below w.heap.size w wr := hb2k.out.trans (hbw.mono hb2k.out.size)
      clear h8 h9 h10 a89 a80 a90
      obtain ⟨A10, cap10, hve, hc10⟩ := id p10
      rw [hSl] at hve hc10
      subst hve
      have hc10k := Keep.mk hc10
      have hSlk := Keep.mk hSl
      clear hc10
      have p8k := Keep.mk p8
      have p9k := Keep.mk p9
      have hilk := Keep.mk hil
      have hQlk := Keep.mk hQl
      have hbw0k := Keep.mk hbw0
      have e0 : IntKind.i64.wrap ((k : Int) - 1) = (k : Int) - 1 := IntWalk.i64_in _ (by omega)
      clear p8 p9 p10 hil hSl hQl hbw0
      obtain ⟨W, hW⟩ : ∃ W, wr = W := ⟨_, rfl⟩
      rw [hW] at p8k p9k hilk hc10k hbw0k ⊢
      clear hW hbw hbz
      go_wp2
      go_loopw [13, 14] (fun a i wr => ∃ j : Nat, j ≤ k ∧ i = .int .i64 ((k : Int) - 1 - (j : Int)) ∧ wr.ownsRow W.heap.size 39 2 a j (enc2 ((swapP Q).reverse.take j)) ∧ Below W.heap.size W wr) (fun _ i _ => (intOf i + 1).toNat)
      case atStart => exact ⟨0, by omega, by simp, World.ownsRow_nil _ _ _ _, Below.refl _ _⟩
      case round =>
        obtain ⟨j, hj, rfl, ho, hbw⟩ := hrel
        have hbz := hbw.size
        by_cases hjk : j < k
        · obtain ⟨r, hr⟩ : ∃ r : Nat, Keep ((k : Int) - 1 - (j : Int) = (r : Int)) := ⟨k - 1 - j, ⟨by omega⟩⟩
          have hrk : r < k := by have := hr.out; omega
          obtain ⟨g, rfl, c0, c1⟩ := hc10k.out r hrk
          have c0 := cell_below c0 hbw
          have c1 := cell_below c1 hbw
          have hpush := rev_push (Q := swapP Q) (k := j) (by rw [hSlk.out]; exact hjk)
          rw [hSlk.out, show k - 1 - j = r by have := hr.out; omega] at hpush
          generalize (swapP Q).getD r (0, 0) = pq at c0 c1 hpush
          obtain ⟨x, y⟩ := pq
          simp only at c0 c1 hpush
          have hpk := Keep.mk hpush
          rw [hr.out]
          have e1 : IntKind.i64.wrap ((r : Int) - 1) = (r : Int) - 1 := IntWalk.i64_in _ (by omega)
          clear hpush
          go_wp2_with (at_builtin; go_loud (
             refine wpList_append_own_at _ rfl _ _ 50 rfl W.heap.size 39 i0 (.agg #[.int .i64 0, .int .i64 0]) 2 16 Flat.ty50 hi hz0 hz1 hz2 rfl (by decide) _ _ _ rfl (ho.alloc _) ⟨wr.heap.size, 0, none⟩ 1 1 [.int .i64 x, .int .i64 y] rfl rfl (cell_two_new _ _ _ _) (two_one _ _) (by unfold maxLen; omega) (by omega) (by simp; try omega) ?_
             intro v3 w3 ho3 hgrow3 hnil3 hblk3
             have hb3 : Below W.heap.size W w3 := Below.grown (hbw.alloc hbz _) hgrow3 (by simp; omega) (fun j hj => by have := (ho.lt _ hj).1; omega)
             clear hgrow3 hnil3 hblk3 ho c0 c1))
          refine ⟨⟨j + 1, by omega, by first | rfl | (go_num) | (have := hr.out; simp; omega), ?_, hb3⟩, by simp [intOf] <;> omega⟩
          rw [hpk.out, enc2_push]; exact ho3
        · obtain rfl : j = k := by omega
          rw [List.take_of_length_le (by rw [List.length_reverse, hSlk.out]; exact Nat.le_refl _)] at ho
          have p13 : PairsOf wr _ (swapP Q).reverse := own_pairs (B := W.heap.size) (by rw [List.length_reverse, hSlk.out]; exact ho)
          have p8 := pairsOf_below p8k.out hbw
          have p9 := pairsOf_below p9k.out hbw
          have hil := ints_below hilk.out hbw
          have hbw0 : Below w.heap.size w wr := hbw0k.out.trans (hbw.mono hbw0k.out.size)
          clear ho
          have hfl : (flatP L).length = j := by rw [← hmk.out]; simp [flatP]
          have hrl : (swapP Q).reverse.length = j := by rw [List.length_reverse]; exact hSlk.out
          have s8 : SheetOk N (flatP L) := ⟨hN1, by omega, by omega, by omega, inside_flat hN1 hLbk.out⟩
          have s9 : SheetOk N Q := ⟨hN1, by omega, by rw [hQlk.out]; omega, by rw [hQlk.out]; omega, hQi.out⟩
          have s13 : SheetOk N (swapP Q).reverse := ⟨hN1, by omega, by omega, by omega, hQi.out.swap⟩
          have qa := fun (w : World) (v : Value) (h : IntsAt w v L) => line_any h hokk.out
          have qb := fun (w : World) (v : Value) (h : PairsOf w v (flatP L)) => sheet_any h s8
          have qc := fun (w : World) (v : Value) (h : PairsOf w v Q) => sheet_any h s9
          have qd := fun (w : World) (v : Value) (h : PairsOf w v (swapP Q).reverse) => sheet_any h s13
          rw [hfl] at qb
          rw [hQlk.out] at qc
          rw [hrl, swap_same hN1] at qd
          rw [hmk.out] at qa
          have b1 := sheetW_le (ps := flatP L) hN1 (by omega) (by omega)
          have b2 := lineW_le (L := L) (N := N) (by omega) (by rw [hmk.out]; omega)
          have hln := line_flat (L := L) hN1 (fun z hz => (hLbk.out z hz).1)
          have m1 : j * N ≤ 60 * 100 := Nat.mul_le_mul (by omega) (by omega)
          have m2' : j * N * N ≤ 6000 * 100 := Nat.mul_le_mul m1 (by omega)
          have m3 : 1 * 1 ≤ j * N := Nat.mul_le_mul hm1 hN1
          have m4 : 1 * 1 ≤ j * N * N := Nat.mul_le_mul (by omega) hN1
          obtain ⟨P1, hP1⟩ : ∃ P : Int, (j : Int) * (N : Int) = P := ⟨_, rfl⟩
          have f1 : P1 = ((j * N : Nat) : Int) := by rw [← hP1, Int.natCast_mul]
          have f2 : P1 * (N : Int) = ((j * N * N : Nat) : Int) := by rw [← hP1, Int.natCast_mul, Int.natCast_mul]
          rw [hP1] at qa qb qc qd
          have hnl := not_less (P1 := P1) (by omega) (show (0 : Int) < (N : Int) by omega) hln
          obtain ⟨_, r2, r3, r4, r5⟩ := red_parts (sheetW N (flatP L)).2 (P := P1 * (N : Int)) (by omega)
          obtain ⟨_, u2, u3, u4, u5⟩ := red_parts (lineW N L).2 (P := P1) (by omega)
          have hq50 : ∀ w, Calls Try.prog 50 #[fracV (redN (sheetW N (flatP L)).2 (P1 * N)) (redD (sheetW N (flatP L)).2 (P1 * N)), fracV (redN (lineW N L).2 P1) (redD (lineW N L).2 P1)] w fun e w' => e = .returned (.bool false) ∧ Below w.heap.size w w' := fun w => by
            have := refLess_any (a := redN (sheetW N (flatP L)).2 (P1 * N)) (b := redD (sheetW N (flatP L)).2 (P1 * N)) (c := redN (lineW N L).2 P1) (d := redD (lineW N L).2 P1) (mul_wrap (by omega) (by omega) (by omega) (by omega)) (mul_wrap (by omega) (by omega) (by omega) (by omega)) w
            rwa [decide_eq_false hnl] at this
          clear hnl hln b1 b2 m1 m2' m3 m4 f1 f2 r2 r3 r4 r5 u2 u3 u4 u5 hP1 s8 s9 s13 hfl hrl
          unfold fracV at qa qb qc qd hq50
          obtain ⟨lx, hlx⟩ : ∃ x, redN (lineW N L).2 P1 = x := ⟨_, rfl⟩
          obtain ⟨ly, hly⟩ : ∃ x, redD (lineW N L).2 P1 = x := ⟨_, rfl⟩
          obtain ⟨fx, hfx⟩ : ∃ x, redN (sheetW N (flatP L)).2 (P1 * N) = x := ⟨_, rfl⟩
          obtain ⟨fy, hfy⟩ : ∃ x, redD (sheetW N (flatP L)).2 (P1 * N) = x := ⟨_, rfl⟩
          obtain ⟨x, hx⟩ : ∃ x, redN (sheetW N Q).2 (P1 * N) = x := ⟨_, rfl⟩
          obtain ⟨y, hy⟩ : ∃ x, redD (sheetW N Q).2 (P1 * N) = x := ⟨_, rfl⟩
          rw [hlx, hly] at qa hq50
          rw [hfx, hfy] at qb hq50
          rw [hx, hy] at qc qd
          have zz := eqTF x y
          generalize (lineW N L).1 = l1 at qa
          generalize (sheetW N (flatP L)).1 = l2 at qb
          generalize (sheetW N Q).1 = l3 at qc
          generalize (sheetW N (swapP Q).reverse).1 = l4 at qd
          generalize flatP L = FL at p8 qb
          generalize (swapP Q).reverse = RQ at p13 qd
          have hz2 := hbw0.size
          clear hlx hly hfx hfy hx hy hLc hck2 hc10k p8k p9k hilk hbw0k hQi hLbk hokk hi2k hb2k hbw hbz
          go_wp2_with (first
            | (go_at_call 16; go_loud (
               refine (qa _ _ hil).mono ?_; rintro e3 w3 ⟨rfl, hb3⟩
               have p8 := pairsOf_below p8 hb3
               have p9 := pairsOf_below p9 hb3
               have p13 := pairsOf_below p13 hb3
               have hbw3 : Below w.heap.size w w3 := hbw0.trans (hb3.mono hbw0.size)
               have z3 := hbw3.size
               clear qa hil hb3 hbw0))
            | (go_at_call 31; go_loud (
               refine (qb _ _ (prs_al1 p8)).mono ?_; rintro e4 w4 ⟨rfl, hb4⟩
               have F0 : w4.cell? ⟨w3.heap.size, 0, none⟩ = some (.int .i64 lx) := cell_below (by go_simp) hb4
               have F1 : w4.cell? ⟨w3.heap.size, 1, none⟩ = some (.int .i64 ly) := cell_below (by go_simp) hb4
               have s34 : w3.heap.size < w4.heap.size := by have := hb4.size; simp at this; omega
               have p9 := pairsOf_below (prs_al1 p9) hb4
               have p13 := pairsOf_below (prs_al1 p13) hb4
               have hbw4 : Below w.heap.size w w4 := (hbw3.alloc z3 _).trans (hb4.mono (by simp; omega))
               have z4 := hbw4.size
               clear qb p8 hb4 hbw3))
            | (go_at_call 31; go_loud (
               refine (qc _ _ (prs_al2 p9)).mono ?_; rintro e5 w5 ⟨rfl, hb5⟩
               have F0 : w5.cell? ⟨w3.heap.size, 0, none⟩ = some (.int .i64 lx) := cell_below (by go_simp) hb5
               have F1 : w5.cell? ⟨w3.heap.size, 1, none⟩ = some (.int .i64 ly) := cell_below (by go_simp) hb5
               have G0 : w5.cell? ⟨w4.heap.size, 0, none⟩ = some (.int .i64 fx) := cell_below (by go_simp) hb5
               have G1 : w5.cell? ⟨w4.heap.size, 1, none⟩ = some (.int .i64 fy) := cell_below (by go_simp) hb5
               have s45 : w4.heap.size < w5.heap.size := by have := hb5.size; simp at this; omega
               have s35 : w3.heap.size < w5.heap.size := by omega
               have p13 := pairsOf_below (prs_al2 p13) hb5
               have hbw5 : Below w.heap.size w w5 := ((hbw4.alloc z4 _).alloc (by simp; omega) _).trans (hb5.mono (by simp; omega))
               have z5 := hbw5.size
               clear qc p9 hb5 hbw4))
            | (go_at_call 31; go_loud (
               refine (qd _ _ (prs_al2 p13)).mono ?_; rintro e6 w6 ⟨rfl, hb6⟩
               have F0 : w6.cell? ⟨w3.heap.size, 0, none⟩ = some (.int .i64 lx) := cell_below (by go_simp) hb6
               have F1 : w6.cell? ⟨w3.heap.size, 1, none⟩ = some (.int .i64 ly) := cell_below (by go_simp) hb6
               have G0 : w6.cell? ⟨w4.heap.size, 0, none⟩ = some (.int .i64 fx) := cell_below (by go_simp) hb6
               have G1 : w6.cell? ⟨w4.heap.size, 1, none⟩ = some (.int .i64 fy) := cell_below (by go_simp) hb6
               have H0 : w6.cell? ⟨w5.heap.size, 0, none⟩ = some (.int .i64 x) := cell_below (by go_simp) hb6
               have H1 : w6.cell? ⟨w5.heap.size, 1, none⟩ = some (.int .i64 y) := cell_below (by go_simp) hb6
               have s56 : w5.heap.size < w6.heap.size := by have := hb6.size; simp at this; omega
               have s46 : w4.heap.size < w6.heap.size := by omega
               have s36 : w3.heap.size < w6.heap.size := by omega
               have hbw6 : Below w.heap.size w w6 := ((hbw5.alloc z5 _).alloc (by simp; omega) _).trans (hb6.mono (by simp; omega))
               have z6 := hbw6.size
               clear qd p13 hb6 hbw5))
            | (go_at_call 50; go_loud (
               refine (hq50 _).mono ?_; rintro e7 w7 ⟨rfl, hb7⟩
               have H0 : w7.cell? ⟨w5.heap.size, 0, none⟩ = some (.int .i64 x) := cell_below (by go_simp) hb7
               have H1 : w7.cell? ⟨w5.heap.size, 1, none⟩ = some (.int .i64 y) := cell_below (by go_simp) hb7
               have I0 : w7.cell? ⟨w6.heap.size, 0, none⟩ = some (.int .i64 x) := cell_below (by go_simp) hb7
               have I1 : w7.cell? ⟨w6.heap.size, 1, none⟩ = some (.int .i64 y) := cell_below (by go_simp) hb7
               have hbw7 : Below w.heap.size w w7 := ((hbw6.alloc z6 _).alloc (by simp; omega) _).trans (hb7.mono (by simp; omega))
               have z7 := hbw7.size
               clear hq50 hb7 hbw6 F0 F1 G0 G1))
            | (go_at_call 19; refine (awake_any _).mono ?_; rintro e9 w9 ⟨rfl, hb9⟩))
          all_goals go_ret
          all_goals exact ⟨rfl, hbw7.trans (hb9.mono z7)⟩
end Go.Proofs.Ytifbiamfandjnaa
