import Derived.Test.YteekigpdiklppaaWUn
set_option linter.unusedSimpArgs false
set_option linter.unusedVariables false
namespace Go.Proofs.Yteekigpdiklppaa
open Go Go.Proofs Go.RowKit Go.Seq
attribute [local go_sem] Oper.semAt_some
/-- The lists that a law holds. -/
def Fa (W : World) (ve : Value) (E : Pts) (l : List (Value × (Nat → Bool))) : Prop := PairsOf W ve E ∧ ∀ x ∈ l, IntsO W x.1 (zsOf x.2)
theorem Fa.after {W W' : World} {ve : Value} {E : Pts} {l : List (Value × (Nat → Bool))} (h : Fa W ve E l) (hb : Below W.heap.size W W') : Fa W' ve E l := ⟨pairsOf_below h.1 hb, fun x hx => intsO_below (h.2 x hx) hb⟩
theorem Fa.add {W : World} {ve : Value} {E : Pts} {l : List (Value × (Nat → Bool))} (h : Fa W ve E l) {v : Value} {s : Nat → Bool} (hv : IntsO W v (zsOf s)) : Fa W ve E ((v, s) :: l) := ⟨h.1, fun x hx => by
  rcases List.mem_cons.1 hx with rfl | hx
  · exact hv
  · exact h.2 x hx⟩
theorem pairsO_below {w w' : World} {v : Value} {l : Pts} (h : PairsO w v l) (b : Below w.heap.size w w') : PairsO w' v l := by
  obtain ⟨A, cap, hv, hc⟩ := h
  refine ⟨A, cap, hv, fun k hk => ?_⟩
  obtain ⟨g, o, hA, h1, h2⟩ := hc k hk
  exact ⟨g, o, hA, cell_below h1 b, cell_below h2 b⟩
theorem tame_gok (n0 : Int) (ps : Pts) : GOk (1 + modN n0 12) (tameE (1 + modN n0 12) ps) := by
  have h := modN_lt n0 (m := 12) (by omega)
  exact ⟨by omega, by omega, tameE_ok (by omega) (by omega) ps⟩
theorem adds_inN {N : Nat} {s : Nat → Bool} (h : InN N s) {u : Nat} (hu : u < N) : InN N (adds s u) := fun j h1 h2 => by
  unfold adds
  rw [if_neg (by omega)]; exact h j h1 h2
theorem Fa.step {w W W' : World} {ve : Value} {E : Pts} {l : List (Value × (Nat → Bool))} (h : Fa W ve E l ∧ Below w.heap.size w W) (hb : Below W.heap.size W W') {v : Value} {s : Nat → Bool} (hv : IntsO W' v (zsOf s)) : Fa W' ve E ((v, s) :: l) ∧ Below w.heap.size w W' := ⟨(h.1.after hb).add hv, h.2.trans (hb.mono h.2.size)⟩
theorem Fa.step0 {w W W' : World} {ve : Value} {E : Pts} {l : List (Value × (Nat → Bool))} (h : Fa W ve E l ∧ Below w.heap.size w W) (hb : Below W.heap.size W W') : Fa W' ve E l ∧ Below w.heap.size w W' := ⟨h.1.after hb, h.2.trans (hb.mono h.2.size)⟩
theorem set_n {s : Nat → Bool} {n : Nat} (hn : num s = n) : ∀ (W : World) (v : Value), IntsO W v (zsOf s) → Calls Try.prog 26 #[v] W fun e w' => e = .returned (.int .i64 (n : Nat)) ∧ w' = W := fun W v h => by
  have := set_of h
  rw [hn] at this
  exact this
theorem sub_zero {s t : Nat → Bool} {n m : Nat} (hn : num s = n) (hm : num t = m) (h : ∀ j, j < 12 → s j = true → t j = true) : bits .andNot .i64 (n : Int) (m : Int) = 0 := by
  rw [← hn, ← hm, num_diff, num_sub.2 h]; rfl
/-- What a law holds: lists, its own variable, and that all below is as it was. -/
def Fb (w : World) (W : World) (x : Obj) (ve : Value) (E : Pts) (l : List (Value × (Nat → Bool))) : Prop := Fa W ve E l ∧ W.heap[w.heap.size]? = some x ∧ Below w.heap.size w W
theorem Fb.keep {w W W' : World} {x : Obj} {ve : Value} {E : Pts} {l : List (Value × (Nat → Bool))} (h : Fb w W x ve E l) (hb : Below W.heap.size W W') : Fb w W' x ve E l := ⟨h.1.after hb, (hb.block _ (Array.getElem?_eq_some_iff.1 h.2.1).1).trans h.2.1, h.2.2.trans (hb.mono h.2.2.size)⟩
theorem Fb.put {w W W' : World} {x : Obj} {ve : Value} {E : Pts} {l : List (Value × (Nat → Bool))} (h : Fb w W x ve E l) (hb : Below W.heap.size W W') {v : Value} {s : Nat → Bool} (hv : IntsO W' v (zsOf s)) : Fb w W' x ve E ((v, s) :: l) := ⟨(h.keep hb).1.add hv, (h.keep hb).2⟩
theorem Fb.ps {w W : World} {x : Obj} {ve : Value} {E : Pts} {l : List (Value × (Nat → Bool))} (h : Fb w W x ve E l) : PairsOf W ve E := h.1.1
theorem Fb.at {w W : World} {x : Obj} {ve : Value} {E : Pts} {l : List (Value × (Nat → Bool))} (h : Fb w W x ve E l) {v : Value} {s : Nat → Bool} (hm : (v, s) ∈ l) : IntsO W v (zsOf s) := h.1.2 (v, s) hm
theorem oForts {N : Nat} {E : Pts} {ve : Value} {w : World} (h : GOk N E) (he : PairsOf w ve E) {L : List (Nat → Bool)} (hL : fortsOf N (adjOf E) = L) {M : Nat} (hM : L.length = M) {ia ib : Nat} (hia : ia < M) {A B : Nat → Bool} (hA : L[ia]? = some A) (hB : L[ib]? = some B) :
    Calls Try.prog 35 #[.int .i64 N, ve] w fun e w' => ∃ g cap XA la cA XB lb cB, e = .returned (.tuple #[.slice (some ⟨g, 0, none⟩) M cap, .int .i64 0]) ∧ (w'.cell? ⟨g, ia, none⟩ = some (.slice XA la cA) ∧ w'.cell? ⟨g, ib, none⟩ = some (.slice XB lb cB)) ∧ (IntsO w' (.slice XA la cA) (zsOf A) ∧ IntsO w' (.slice XB lb cB) (zsOf B)) ∧ Below w.heap.size w w' := by
  refine (Forts_yes he h.gr h.len).mono ?_
  rintro e w' ⟨lv, svs, rfl, h1, h2⟩
  rw [hL] at h1
  obtain ⟨X, cap, rfl, hc⟩ := h1.lists
  obtain ⟨ha, rfl⟩ := List.getElem?_eq_some_iff.1 hA
  obtain ⟨hb, rfl⟩ := List.getElem?_eq_some_iff.1 hB
  obtain ⟨g, XA, la, cA, rfl, a1, a2⟩ := hc ia ha
  obtain ⟨g', XB, lb, cB, hg, b1, b2⟩ := hc ib hb
  cases hg
  exact ⟨g, cap, XA, la, cA, XB, lb, cB, by rw [hM], ⟨a1, b1⟩, ⟨a2, b2⟩, h2⟩
theorem oList {N : Nat} {s : Nat → Bool} {n : Nat} (hn : num s = n) (W : World) : Calls Try.prog 28 #[.int .i64 (n : Nat)] W fun e w' => ∃ lv, e = .returned lv ∧ IntsO w' lv (zsOf s) ∧ Below W.heap.size W w' := by
  have h := List_any n (by rw [← hn]; exact num_lt s) W
  rw [vsTo_cg (s := setN n) (t := s) 12 (fun j hj => by show n.testBit j = s j; rw [← hn, num_bit]; simp [hj])] at h
  exact h.mono fun e w' ⟨lv, h1, h2, h3⟩ => ⟨lv, h1, ints_list h2, h3⟩
theorem oSome {N : Nat} (hN : N ≤ 12) (x : Int) (W : World) : Calls Try.prog 51 #[.int .i64 N, .int .i64 x] W fun e w' => ∃ lv, e = .returned lv ∧ IntsO w' lv (zsOf (someS N x)) ∧ Below W.heap.size W w' :=
  (some_any hN x W).mono fun e w' ⟨lv, h1, h2, h3⟩ => ⟨lv, h1, ints_list h2, h3⟩
theorem forts_len {N : Nat} (hN : N ≤ 12) (adj : Nat → Nat → Bool) : (fortsOf N adj).length ≤ 4095 := Nat.le_trans (stF_len N adj _) (setsTo_le hN)
end Go.Proofs.Yteekigpdiklppaa
