import Derived.Test.YteekigpdiklppaaWRen
import Derived.Test.YteekigpdiklppaaWOrdA
import Derived.Test.YteekigpdiklppaaWIns
set_option linter.unusedSimpArgs false
set_option linter.unusedVariables false
namespace Go.Proofs.Yteekigpdiklppaa
open Go Go.Proofs Go.RowKit Go.Seq Ins
/-! An order of the places, and the graph that it gives. -/
def upTo (n : Nat) : List Int := (List.range n).map fun i : Nat => (i : Int)
theorem insL_perm {P : List Int} {r k : Nat} (h : P.Perm (upTo k)) : (insL P r (k : Int)).Perm (upTo (k + 1)) := by
  unfold insL upTo
  rw [List.range_succ, List.map_append]
  have h1 : (P.take r ++ [(k : Int)] ++ P.drop r).Perm ([(k : Int)] ++ P) := by
    rw [List.append_assoc]
    refine (List.perm_middle (l₁ := P.take r) (a := (k : Int)) (l₂ := P.drop r)).trans ?_
    rw [List.take_append_drop]; exact List.Perm.refl _
  exact h1.trans ((List.perm_append_comm).trans (List.Perm.append_right _ h))
def pOf (P : List Int) (i : Nat) : Nat := (P.getD i 0).toNat
def qOf (P : List Int) (j : Nat) : Nat := ((List.range P.length).find? fun i => P.getD i 0 == (j : Int)).getD 0
theorem upTo_nodup (n : Nat) : (upTo n).Nodup := by
  unfold upTo
  rw [List.Nodup, List.pairwise_map]
  exact (List.nodup_range (n := n)).imp fun {a b} h e => h (by omega)
theorem upTo_mem {n : Nat} {x : Int} : x ∈ upTo n ↔ 0 ≤ x ∧ x < (n : Int) := by
  unfold upTo
  rw [List.mem_map]
  constructor
  · rintro ⟨i, hi, rfl⟩
    have := List.mem_range.1 hi; omega
  · intro h
    exact ⟨x.toNat, List.mem_range.2 (by omega), by omega⟩
theorem getZ_mem {P : List Int} {j : Nat} (h : j < P.length) : P.getD j 0 ∈ P := by
  rw [List.getD_eq_getElem?_getD, List.getElem?_eq_getElem h]; exact List.getElem_mem _
theorem getZ_inj {P : List Int} (hn : P.Nodup) {i j : Nat} (hi : i < P.length) (hj : j < P.length) (h : P.getD i 0 = P.getD j 0) : i = j := by
  rw [List.getD_eq_getElem?_getD, List.getElem?_eq_getElem hi, List.getD_eq_getElem?_getD, List.getElem?_eq_getElem hj] at h
  simp only [Option.getD_some] at h
  have hp := List.pairwise_iff_getElem.1 hn
  rcases Nat.lt_trichotomy i j with h1 | h1 | h1
  · exact absurd h (hp i j hi hj h1)
  · exact h1
  · exact absurd h.symm (hp j i hj hi h1)
section
variable {P : List Int} {N : Nat} (h : P.Perm (upTo N))
include h
theorem perm_len : P.length = N := by rw [h.length_eq]; simp [upTo]
theorem perm_at {i : Nat} (hi : i < N) : 0 ≤ P.getD i 0 ∧ P.getD i 0 < (N : Int) := upTo_mem.1 (h.mem_iff.1 (getZ_mem (by rw [perm_len h]; exact hi)))
theorem pOf_eq {i : Nat} (hi : i < N) : P.getD i 0 = (pOf P i : Int) := by
  have := perm_at h hi
  unfold pOf; omega
theorem pOf_lt {i : Nat} (hi : i < N) : pOf P i < N := by
  have := perm_at h hi
  unfold pOf; omega
theorem pOf_inj {i j : Nat} (hi : i < N) (hj : j < N) (e : pOf P i = pOf P j) : i = j := by
  have hl := perm_len h
  exact getZ_inj (h.nodup_iff.2 (upTo_nodup N)) (by omega) (by omega) (by rw [pOf_eq h hi, pOf_eq h hj, e])
theorem qOf_ok {j : Nat} (hj : j < N) : qOf P j < N ∧ P.getD (qOf P j) 0 = (j : Int) := by
  have hl := perm_len h
  have hm : (j : Int) ∈ P := h.mem_iff.2 (upTo_mem.2 (by omega))
  obtain ⟨i, hi, he⟩ := List.getElem_of_mem hm
  unfold qOf
  cases hx : (List.range P.length).find? fun i => P.getD i 0 == (j : Int) with
  | none =>
    have := List.find?_eq_none.1 hx i (List.mem_range.2 hi)
    rw [List.getD_eq_getElem?_getD, List.getElem?_eq_getElem hi] at this
    simp [he] at this
  | some k =>
    have h1 := List.find?_some hx
    have h2 := List.mem_range.1 (List.mem_of_find?_eq_some hx)
    simp only [beq_iff_eq] at h1
    exact ⟨by simp only [Option.getD_some]; omega, h1⟩
theorem pq_ok {j : Nat} (hj : j < N) : pOf P (qOf P j) = j := by
  have := (qOf_ok h hj).2
  unfold pOf; omega
theorem qp_ok {i : Nat} (hi : i < N) : qOf P (pOf P i) = i :=
  pOf_inj h (qOf_ok h (pOf_lt h hi)).1 hi (pq_ok h (pOf_lt h hi))
end
def edgeR (p : Nat → Nat) (x : Int × Int) : Int × Int := (min (p x.1.toNat : Int) (p x.2.toNat : Int), max (p x.1.toNat : Int) (p x.2.toNat : Int))
theorem edge_near {N : Nat} {p : Nat → Nat} (inj : ∀ i j, i < N → j < N → p i = p j → i = j) {x : Int × Int} (h0 : 0 ≤ x.1) (h1 : x.1 < x.2) (h2 : x.2 < (N : Int)) {i j : Nat} (hi : i < N) (hj : j < N) :
    (((edgeR p x).1 == ((p i : Nat) : Int) && (edgeR p x).2 == ((p j : Nat) : Int)) || ((edgeR p x).1 == ((p j : Nat) : Int) && (edgeR p x).2 == ((p i : Nat) : Int))) = ((x.1 == (i : Int) && x.2 == (j : Int)) || (x.1 == (j : Int) && x.2 == (i : Int))) := by
  obtain ⟨a, ha⟩ : ∃ a : Nat, x.1 = (a : Int) := ⟨x.1.toNat, by omega⟩
  obtain ⟨b, hb⟩ : ∃ b : Nat, x.2 = (b : Int) := ⟨x.2.toNat, by omega⟩
  unfold edgeR
  rw [ha, hb, Int.toNat_natCast, Int.toNat_natCast]
  have haN : a < N := by omega
  have hbN : b < N := by omega
  have e1 : p a = p i ↔ a = i := ⟨inj a i haN hi, fun e => by rw [e]⟩
  have e2 : p a = p j ↔ a = j := ⟨inj a j haN hj, fun e => by rw [e]⟩
  have e3 : p b = p i ↔ b = i := ⟨inj b i hbN hi, fun e => by rw [e]⟩
  have e4 : p b = p j ↔ b = j := ⟨inj b j hbN hj, fun e => by rw [e]⟩
  generalize p a = A at *
  generalize p b = B at *
  generalize p i = I at *
  generalize p j = J at *
  rw [Bool.eq_iff_iff]
  simp only [Bool.or_eq_true, Bool.and_eq_true, beq_iff_eq]
  rcases Nat.le_total A B with h | h
  · rw [Int.min_eq_left (by omega), Int.max_eq_right (by omega)]; omega
  · rw [Int.min_eq_right (by omega), Int.max_eq_left (by omega)]; omega
theorem adj_map {N : Nat} {p : Nat → Nat} (inj : ∀ i j, i < N → j < N → p i = p j → i = j) {i j : Nat} (hi : i < N) (hj : j < N) : ∀ l : Pts, (∀ x ∈ l, 0 ≤ x.1 ∧ x.1 < x.2 ∧ x.2 < (N : Int)) → adjOf (l.map (edgeR p)) (p i) (p j) = adjOf l i j
  | [], _ => rfl
  | x :: l, hl => by
    obtain ⟨h0, h1, h2⟩ := hl x List.mem_cons_self
    have ih := adj_map inj hi hj l fun y hy => hl y (List.mem_cons_of_mem _ hy)
    unfold adjOf at ih ⊢
    rw [List.map_cons, List.any_cons, List.any_cons, ih, edge_near inj h0 h1 h2 hi hj]
theorem gok_ren {N : Nat} {E : Pts} (hG : GOk N E) {p : Nat → Nat} (pl : ∀ i, i < N → p i < N) (inj : ∀ i j, i < N → j < N → p i = p j → i = j) : GOk N (E.map (edgeR p)) := by
  refine gok_of ⟨hG.gr.n1, hG.gr.n12, fun k hk => ?_⟩
  rw [List.length_map] at hk
  have he := hG.ok.ed k hk
  obtain ⟨x, hx⟩ : ∃ x, E.getD k (0, 0) = x := ⟨_, rfl⟩
  have hg : (E.map (edgeR p)).getD k (0, 0) = edgeR p x := by
    rw [← hx, List.getD_eq_getElem?_getD, List.getElem?_map, List.getD_eq_getElem?_getD, List.getElem?_eq_getElem hk]; rfl
  rw [hx] at he
  rw [hg, ← List.map_take]
  have h0 := he.a0
  have h1 := he.ab
  have h2 := he.bn
  obtain ⟨a, ha⟩ : ∃ a : Nat, x.1.toNat = a := ⟨_, rfl⟩
  obtain ⟨b, hb⟩ : ∃ b : Nat, x.2.toNat = b := ⟨_, rfl⟩
  have haN : a < N := by omega
  have hbN : b < N := by omega
  have hA := pl a haN
  have hB := pl b hbN
  have hne : p a ≠ p b := fun e => by have := inj a b haN hbN e; omega
  have hnew := he.new
  rw [ha, hb] at hnew
  have hm := adj_map inj haN hbN (E.take k) fun y hy => hG.ok.mem (List.mem_of_mem_take hy)
  rw [hnew] at hm
  unfold edgeR at hm ⊢
  rw [ha, hb]
  rcases Nat.lt_or_ge (p a) (p b) with h | h
  · rw [Int.min_eq_left (by omega), Int.max_eq_right (by omega)]
    exact ⟨by simp only; omega, by simp only; omega, by simp only; omega, by simp only; omega, by simp only; omega, by simp only [Int.toNat_natCast]; exact hm⟩
  · rw [Int.min_eq_right (by omega), Int.max_eq_left (by omega)]
    exact ⟨by simp only; omega, by simp only; omega, by simp only; omega, by simp only; omega, by simp only; omega, by simp only [Int.toNat_natCast]; rw [adjOf_symm]; exact hm⟩
theorem ren_ok {N : Nat} {E : Pts} (hG : GOk N E) {P : List Int} (h : P.Perm (upTo N)) : GOk N (E.map (edgeR (pOf P))) ∧ Ren N (pOf P) (qOf P) (adjOf E) (adjOf (E.map (edgeR (pOf P)))) := by
  have h1 := gok_ren hG (fun i hi => pOf_lt h hi) (fun i j hi hj e => pOf_inj h hi hj e)
  exact ⟨h1, hG.n12, fun i hi => pOf_lt h hi, fun i hi => (qOf_ok h hi).1, fun i hi => qp_ok h hi, fun i hi => pq_ok h hi, fun i j e => hG.adj e, fun i j e => h1.adj e, fun i j hi hj => adj_map (fun i j hi hj e => pOf_inj h hi hj e) hi hj E fun y hy => hG.ok.mem hy⟩
/-- The set of what a list's places become. -/
def tTo (p : Nat → Nat) (l : List Nat) (j : Nat) : Bool := l.any fun u => p u == j
theorem tTo_step {p : Nat → Nat} {l : List Nat} {k : Nat} (hk : k < l.length) (h12 : p (l.getD k 0) < 12) : num (tTo p (l.take (k + 1))) = num (tTo p (l.take k)) ||| 2 ^ p (l.getD k 0) := by
  rw [num_or _ _ h12]
  refine num_ext fun j hj => ?_
  have e : l.take (k + 1) = l.take k ++ [l.getD k 0] := by
    rw [List.take_add_one, List.getElem?_eq_getElem hk, List.getD_eq_getElem?_getD, List.getElem?_eq_getElem hk]; rfl
  rw [e]
  unfold tTo adds
  rw [List.any_append, List.any_cons, List.any_nil, Bool.or_false]
  by_cases hj2 : j = p (l.getD k 0)
  · rw [if_pos hj2, ← hj2]; simp
  · rw [if_neg hj2]
    have : (p (l.getD k 0) == j) = false := by rw [beq_eq_false_iff_ne]; exact fun e => hj2 e.symm
    rw [this, Bool.or_false]
theorem tTo_all {N : Nat} {P : List Int} (h : P.Perm (upTo N)) (hN : N ≤ 12) {S : Nat → Bool} (hS : InN N S) : Eqv (tTo (pOf P) (vsTo S 12)) (ren N (qOf P) S) := fun j hj => by
  unfold tTo ren
  rw [Bool.eq_iff_iff, List.any_eq_true]
  simp only [Bool.and_eq_true, decide_eq_true_eq, beq_iff_eq]
  constructor
  · rintro ⟨u, hu, rfl⟩
    unfold vsTo at hu
    rw [List.mem_filter, List.mem_range] at hu
    have huN : u < N := by
      rcases Nat.lt_or_ge u N with h' | h'
      · exact h'
      · rw [hS u h' hu.1] at hu; exact absurd hu.2 (by simp)
    exact ⟨pOf_lt h huN, by rw [qp_ok h huN]; exact hu.2⟩
  · rintro ⟨hjN, hs⟩
    have := (qOf_ok h hjN).1
    exact ⟨qOf P j, by unfold vsTo; rw [List.mem_filter, List.mem_range]; exact ⟨by omega, hs⟩, pq_ok h hjN⟩
/-! What the law asks at the end. -/
theorem least_ren {N : Nat} {E E' : Pts} {p q : Nat → Nat} (hG : GOk N E) (hG' : GOk N E') (h : Ren N p q (adjOf E) (adjOf E')) : sz (leastOf N (forcing N E)) = sz (leastOf N (forcing N E')) :=
  min_sz hG.n12 h (fun s t e => forcing_cg e) (fun s e => forcing_ne hG e) (forcing_all hG) (fun s t e => forcing_cg e) (fun s e => forcing_ne hG' e) (forcing_all hG')
    (fun s hs e => (wets_ren h (renR_force h) hs).trans e) (fun s hs e => (wets_ren h.symm (renR_force h.symm) hs).trans e)
theorem fewest_ren {N : Nat} {E E' : Pts} {p q : Nat → Nat} (hG : GOk N E) (hG' : GOk N E') (h : Ren N p q (adjOf E) (adjOf E')) {r : Int} (hr : 1 ≤ r) : sz (leastOf N (soaking N E r)) = sz (leastOf N (soaking N E' r)) :=
  min_sz hG.n12 h (fun s t e => soaking_cg e) (fun s e => soaking_ne hG hr e) (soaking_all hG r) (fun s t e => soaking_cg e) (fun s e => soaking_ne hG' hr e) (soaking_all hG' r)
    (fun s hs e => (wets_ren h (renR_soak h r) hs).trans e) (fun s hs e => (wets_ren h.symm (renR_soak h.symm r) hs).trans e)
end Go.Proofs.Yteekigpdiklppaa
