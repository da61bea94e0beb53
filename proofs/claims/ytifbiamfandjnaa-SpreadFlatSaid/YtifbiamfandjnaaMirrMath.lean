/-
  Points mirrored, and points in another order: the discrepancies, the pairs and the gaps stay.
-/
import Derived.Test.YtifbiamfandjnaaOrderFn
import Derived.Test.YtifbiamfandjnaaIntvWalk
import Derived.Test.YtifbiamfandjnaaGapsWalk
import Derived.Test.YtifbiamfandjnaaLineAny
set_option linter.unusedSimpArgs false
set_option linter.unusedVariables false
namespace Go.Proofs.Ytifbiamfandjnaa.Mir
open Go Go.Proofs Go.RowKit Gap
theorem ok_parts {N : Nat} {zs : List Int} (h : okLine (N : Int) zs = true) : 1 ≤ N ∧ N ≤ 1000 ∧ 1 ≤ zs.length ∧ zs.length ≤ 60 ∧ ∀ z ∈ zs, 0 ≤ z ∧ z < (N : Int) := by
  unfold okLine at h
  rw [Bool.and_eq_true, decide_eq_true_iff] at h
  obtain ⟨⟨k1, k2, k3, k4⟩, hall⟩ := h
  refine ⟨by omega, by omega, k3, k4, fun z hz => ?_⟩
  have := List.all_eq_true.1 hall z hz
  simpa using this
theorem ok_of_parts {N : Nat} {zs : List Int} (h : 1 ≤ N ∧ N ≤ 1000 ∧ 1 ≤ zs.length ∧ zs.length ≤ 60 ∧ ∀ z ∈ zs, 0 ≤ z ∧ z < (N : Int)) : okLine (N : Int) zs = true := by
  obtain ⟨h1, h2, h3, h4, h5⟩ := h
  unfold okLine
  rw [Bool.and_eq_true, decide_eq_true_iff, List.all_eq_true]
  exact ⟨⟨by omega, by omega, h3, h4⟩, fun z hz => by have := h5 z hz; simpa using this⟩
def mirL (N : Nat) (L : List Int) : List Int := L.map fun z => (N : Int) - 1 - z
theorem mirL_len (N : Nat) (L : List Int) : (mirL N L).length = L.length := by simp [mirL]
theorem mirL_push {N : Nat} {L : List Int} {k : Nat} (h : k < L.length) : mirL N (L.take (k + 1)) = mirL N (L.take k) ++ [(N : Int) - 1 - L.getD k 0] := by
  rw [takez h]; simp [mirL]
theorem mirL_ok {N : Nat} {L : List Int} (h : okLine (N : Int) L = true) : okLine (N : Int) (mirL N L) = true := by
  obtain ⟨h1, h2, h3, h4, h5⟩ := ok_parts h
  refine ok_of_parts ⟨h1, h2, by rw [mirL_len]; exact h3, by rw [mirL_len]; exact h4, fun z hz => ?_⟩
  obtain ⟨y, hy, rfl⟩ := List.mem_map.1 hz
  have := h5 y hy
  omega
theorem below_mir (N t : Nat) (ht : t ≤ N) : ∀ L : List Int, belowC (mirL N L) t + belowC L (N - t) = L.length
  | [] => rfl
  | z :: L => by
    have ih := below_mir N t ht L
    unfold belowC mirL at *
    rw [List.map_cons, List.filter_cons, List.filter_cons, List.length_cons]
    by_cases h : (N : Int) - 1 - z < (t : Int)
    · have h' : ¬ z < ((N - t : Nat) : Int) := by omega
      rw [decide_eq_true h, decide_eq_false h']
      simp only [if_true, Bool.false_eq_true, if_false, List.length_cons]; omega
    · have h' : z < ((N - t : Nat) : Int) := by omega
      rw [decide_eq_false h, decide_eq_true h']
      simp only [if_true, Bool.false_eq_true, if_false, List.length_cons]; omega
theorem exc_mir {N t : Nat} {L : List Int} (ht : t ≤ N) : excT N (mirL N L) t = - excT N L (N - t) := by
  have h := below_mir N t ht L
  unfold excT exc
  rw [mirL_len]
  have e1 : ((belowC (mirL N L) t : Nat) : Int) = (L.length : Int) - (belowC L (N - t) : Nat) := by omega
  have e2 : ((N - t : Nat) : Int) = (N : Int) - t := by omega
  rw [e1, e2, Int.sub_mul, Int.sub_mul, Int.mul_comm (L.length : Int) (N : Int)]
  omega
theorem pair_mir {g g' : Nat → Int} {N D s t D' s' t' : Nat} (hg : ∀ t, t ≤ N → g' t = - g (N - t)) (h : pairSpec g N D s t) (h' : pairSpec g' N D' s' t') : D' = D := by
  obtain ⟨a1, a2, a3, a4, _⟩ := h
  obtain ⟨b1, b2, b3, b4, _⟩ := h'
  have c1 := b4 (N - t) (N - s) (by omega) (by omega)
  rw [hg _ (by omega), hg _ (by omega), show N - (N - t) = t by omega, show N - (N - s) = s by omega] at c1
  have c2 := a4 (N - t') (N - s') (by omega) (by omega)
  rw [hg _ (by omega), hg _ (by omega)] at b3
  omega
theorem gaps_mir {N : Nat} {L K K' : List Int} (hok : okLine (N : Int) L = true) (h : GapsOf N L K) (h' : GapsOf N (mirL N L) K') : K = K' := by
  obtain ⟨h1, h2, h3, h4, h5⟩ := ok_parts hok
  have m1 : ∀ x, x < N → (memN L x ↔ memN (mirL N L) (N - 1 - x)) := fun x hx => by
    unfold memN mirL
    rw [List.mem_map]
    constructor
    · intro h; exact ⟨x, h, by omega⟩
    · rintro ⟨y, hy, e⟩
      have := h5 y hy
      have : y = (x : Int) := by omega
      rwa [this] at hy
  have m2 : ∀ x, x < N → (memN (mirL N L) x ↔ memN L (N - 1 - x)) := fun x hx => by
    have := m1 (N - 1 - x) (by omega)
    rw [show N - 1 - (N - 1 - x) = x by omega] at this
    exact this.symm
  refine asc_unique h.1 h'.1 fun z => (h.2 z).trans (Iff.trans ?_ (h'.2 z).symm)
  constructor
  · rintro ⟨d, rfl, hd⟩; exact ⟨d, rfl, isGap_mirror m1 d hd⟩
  · rintro ⟨d, rfl, hd⟩; exact ⟨d, rfl, isGap_mirror m2 d hd⟩
/-- Another order. -/
def reL (L P : List Int) : List Int := P.map fun p => L.getD p.toNat 0
theorem reL_len (L P : List Int) : (reL L P).length = P.length := by simp [reL]
theorem reL_push {L P : List Int} {k : Nat} (h : k < P.length) : reL L (P.take (k + 1)) = reL L (P.take k) ++ [L.getD (P.getD k 0).toNat 0] := by
  rw [takez h]; simp [reL]
theorem reL_perm {L P : List Int} (h : P.Perm (Ord.upTo L.length)) : (reL L P).Perm L := by
  have h1 : (reL L P).Perm (reL L (Ord.upTo L.length)) := h.map _
  have h2 : reL L (Ord.upTo L.length) = L := by
    unfold reL Ord.upTo
    apply List.ext_getElem
    · simp
    · intro i h1 h2
      simp [List.getD_eq_getElem?_getD, List.getElem?_eq_getElem h2]
  rwa [h2] at h1
theorem perm_at {L P : List Int} {k : Nat} (h : P.Perm (Ord.upTo L.length)) (hk : k < P.length) : ∃ q : Nat, q < L.length ∧ P.getD k 0 = (q : Int) := by
  have h1 := h.mem_iff.1 (getz hk)
  unfold Ord.upTo at h1
  obtain ⟨q, hq, e⟩ := List.mem_map.1 h1
  exact ⟨q, List.mem_range.1 hq, e.symm⟩
theorem below_perm {L M : List Int} (h : M.Perm L) (k : Nat) : belowC M k = belowC L k := (h.filter _).length_eq
theorem cnt1_perm {L M : List Int} (h : M.Perm L) (k : Nat) : cnt1 M k = cnt1 L k := (h.filter _).length_eq
theorem ok_perm {N : Nat} {L M : List Int} (h : M.Perm L) (hok : okLine (N : Int) L = true) : okLine (N : Int) M = true := by
  obtain ⟨h1, h2, h3, h4, h5⟩ := ok_parts hok
  exact ok_of_parts ⟨h1, h2, by rw [h.length_eq]; exact h3, by rw [h.length_eq]; exact h4, fun z hz => h5 z (h.mem_iff.1 hz)⟩
theorem exc_perm {N : Nat} {L M : List Int} (h : M.Perm L) : excT N M = excT N L := by
  funext k; unfold excT; rw [below_perm h, h.length_eq]
theorem line_perm {N : Nat} {L M : List Int} (h : M.Perm L) : lineW N M = lineW N L := by
  have hm : mid M N = mid L N := by funext k; unfold mid; rw [below_perm h, cnt1_perm h]
  unfold lineW; rw [hm, h.length_eq]
theorem arg_below {w w' : World} {v : Value} {zs : List Int} (h : ArgInts w v zs) (b : Below w.heap.size w w') : ArgInts w' v zs := by
  rcases h with h | h | ⟨b', o, cap, h1, h2, h3, h4, h5⟩
  · exact .inl h
  · exact .inr (.inl h)
  · exact .inr (.inr ⟨b', o, cap, h1, h2, h3, Nat.lt_of_lt_of_le h4 b.size, fun i hi => cell_below (h5 i hi) b⟩)
theorem apart_ne {a b : Option Nat} (h : ∀ j, a = some j → b ≠ some j) : b = none ∨ b ≠ a := by
  cases b with
  | none => exact .inl rfl
  | some j => exact .inr fun e => h j e.symm rfl
theorem apart_symm {a b : Option Nat} (h : ∀ j, a = some j → b ≠ some j) : ∀ j, b = some j → a ≠ some j := fun j hb ha => h j ha hb
theorem apart_new {a a' b : Option Nat} {M : Nat} (h : ∀ j, a = some j → b ≠ some j) (ha : a' = a ∨ a' = some M) (hb : ∀ j, b = some j → j < M) : ∀ j, a' = some j → b ≠ some j := by
  intro j hj e
  rcases ha with h1 | h1
  · exact h j (h1 ▸ hj) e
  · rw [h1] at hj
    injection hj with hj
    have := hb j e
    omega
end Go.Proofs.Ytifbiamfandjnaa.Mir
