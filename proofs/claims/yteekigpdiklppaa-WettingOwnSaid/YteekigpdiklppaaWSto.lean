import Derived.Test.YteekigpdiklppaaWG
set_option linter.unusedSimpArgs false
set_option linter.unusedVariables false
namespace Go.Proofs.Yteekigpdiklppaa
open Go Go.Proofs Go.RowKit Go.Seq
attribute [local go_sem] Oper.semAt_some
/-! New lists, into which a law stores. -/
def StB (W : World) (B : Nat) (v : Value) (n : Nat) : Prop := ∃ A cap, v = .slice A n cap ∧ (n = 0 ∨ ∃ g cs, A = some ⟨g, 0, none⟩ ∧ B ≤ g ∧ W.heap[g]? = some (.cells cs 3 (0, 0)) ∧ n ≤ cs.size)
theorem StB.row {W : World} {B B' : Nat} {v : Value} {n : Nat} {xs : List Value} (h : W.ownsRow B 3 1 v n xs) (hB : B' ≤ B) : StB W B' v n := by
  obtain ⟨h1, h2⟩ := h
  rcases h2 with ⟨rfl, h0⟩ | ⟨g, cap, cur, rfl, hg, hh, hn, hcap, hsz, htake⟩
  · exact ⟨none, 0, by rw [h0], .inl h0⟩
  · exact ⟨_, cap, rfl, .inr ⟨g, cur, rfl, by omega, hh, by omega⟩⟩
theorem StB.nums {W : World} {B R N : Nat} {f : Nat → Int} (h : NumsI W R N f) (hB : B ≤ R) : StB W B (.slice (some ⟨R, 0, none⟩) N N) N := by
  obtain ⟨cs, h1, h2, _⟩ := h
  exact ⟨_, N, rfl, .inr ⟨R, cs, rfl, hB, h1, by omega⟩⟩
theorem StB.keep {W W' : World} {B : Nat} {v : Value} {n : Nat} (h : StB W B v n) (hb : Below W.heap.size W W') : StB W' B v n := by
  obtain ⟨A, cap, rfl, h⟩ := h
  refine ⟨A, cap, rfl, ?_⟩
  rcases h with h | ⟨g, cs, h1, h2, h3, h4⟩
  · exact .inl h
  · exact .inr ⟨g, cs, h1, h2, (hb.block g (Array.getElem?_eq_some_iff.1 h3).1).trans h3, h4⟩
theorem StB.set {W : World} {B : Nat} {v : Value} {n : Nat} (h : StB W B v n) {g' k : Nat} {u : Value} : StB (W.setCell ⟨g', k, none⟩ u) B v n := by
  obtain ⟨A, cap, rfl, h⟩ := h
  refine ⟨A, cap, rfl, ?_⟩
  rcases h with h | ⟨g, cs, h1, h2, h3, h4⟩
  · exact .inl h
  · by_cases e : g = g'
    · subst e
      exact .inr ⟨g, _, h1, h2, heap_set h3 u, by simpa using h4⟩
    · exact .inr ⟨g, cs, h1, h2, (Below.heap_setCell W ⟨g', k, none⟩ u g (by show g ≠ g'; exact e)).trans h3, h4⟩
theorem StB.mono {W : World} {B B' : Nat} {v : Value} {n : Nat} (h : StB W B v n) (hB : B' ≤ B) : StB W B' v n := by
  obtain ⟨A, cap, rfl, h⟩ := h
  refine ⟨A, cap, rfl, ?_⟩
  rcases h with h | ⟨g, cs, h1, h2, h3, h4⟩
  · exact .inl h
  · exact .inr ⟨g, cs, h1, by omega, h3, h4⟩
theorem StB.at {W : World} {B : Nat} {A : Option Addr} {cap n : Nat} (h : StB W B (.slice A n cap) n) {k : Nat} (hk : k < n) : ∃ g u, A = some ⟨g, 0, none⟩ ∧ B ≤ g ∧ W.cell? ⟨g, k, none⟩ = some u ∧ W.frozen? ⟨g, k, none⟩ = false ∧ ∃ cs, W.heap[g]? = some (.cells cs 3 (0, 0)) := by
  obtain ⟨A', cap', hv, h⟩ := h
  injection hv with h1 h2 h3
  subst h1
  rcases h with h | ⟨g, cs, h1, h2, h3, h4⟩
  · omega
  · exact ⟨g, cs[k]'(by omega), h1, h2, by simp [World.cell?, h3, show k < cs.size by omega], by simp [World.frozen?, h3], cs, h3⟩
def LsB (W : World) (B : Nat) (g M : Nat) : Prop := ∃ cs : Array Value, W.heap[g]? = some (.cells cs 23 (0, 0)) ∧ ∀ i, i < M → ∃ X m c, cs[i]? = some (.slice X m c) ∧ m ≤ 12 ∧ StB W B (.slice X m c) m
theorem LsB.of {W : World} {B B' : Nat} {v : Value} {L : List (Nat → Bool)} {svs : List Value} (h : ListsV B W v L svs) (hB : B' ≤ B) (hL : 1 ≤ L.length) : ∃ g cap, v = .slice (some ⟨g, 0, none⟩) L.length cap ∧ LsB W B' g L.length := by
  obtain ⟨h1, h2⟩ := h.row
  rcases h2 with ⟨rfl, h0⟩ | ⟨g, cap, cur, rfl, hg, hh, hn, hcap, hsz, htake⟩
  · omega
  · refine ⟨g, cap, rfl, cur, hh, fun i hi => ?_⟩
    have hi2 : i < svs.length := by rw [h.len]; exact hi
    have hsv : svs[i]? = some svs[i] := List.getElem?_eq_getElem hi2
    have hrow := h.el i hi _ hsv
    have hI := ints_list hrow
    obtain ⟨X, c, hx⟩ := intsO_slice' hI
    have e : (cur.toList.take (L.length * 1))[i]? = svs[i]? := by rw [htake]
    rw [List.getElem?_take_of_lt (by omega), Array.getElem?_toList, hsv, hx] at e
    have hl : (zsOf L[i]).length = (vsTo L[i] 12).length := zsOf_len _
    refine ⟨X, _, c, e, by rw [hl]; exact vsTo_len _ _, ?_⟩
    rw [hx, ← hl] at hrow
    exact StB.row hrow hB
theorem LsB.keep {W W' : World} {B g M : Nat} (h : LsB W B g M) (hb : Below W.heap.size W W') : LsB W' B g M := by
  obtain ⟨cs, h1, h2⟩ := h
  exact ⟨cs, (hb.block g (Array.getElem?_eq_some_iff.1 h1).1).trans h1, fun i hi => by
    obtain ⟨X, m, c, e1, e2, e3⟩ := h2 i hi
    exact ⟨X, m, c, e1, e2, e3.keep hb⟩⟩
theorem LsB.set {W : World} {B g M : Nat} (h : LsB W B g M) {g' k : Nat} {u : Value} {cs' : Array Value} (hg : W.heap[g']? = some (.cells cs' 3 (0, 0))) : LsB (W.setCell ⟨g', k, none⟩ u) B g M := by
  obtain ⟨cs, h1, h2⟩ := h
  have hne : g ≠ g' := fun e => by subst e; rw [h1] at hg; injection hg with hg; injection hg with _ hg; cases hg
  exact ⟨cs, (Below.heap_setCell W ⟨g', k, none⟩ u g (by show g ≠ g'; exact hne)).trans h1, fun i hi => by
    obtain ⟨X, m, c, e1, e2, e3⟩ := h2 i hi
    exact ⟨X, m, c, e1, e2, e3.set⟩⟩
theorem LsB.cell_set {W : World} {B g M : Nat} (h : LsB W B g M) {g' k : Nat} {u : Value} {cs' : Array Value} (hg : W.heap[g']? = some (.cells cs' 3 (0, 0))) (i : Nat) : (W.setCell ⟨g', k, none⟩ u).cell? ⟨g, i, none⟩ = W.cell? ⟨g, i, none⟩ := by
  obtain ⟨cs, h1, h2⟩ := h
  have hne : g ≠ g' := fun e => by subst e; rw [h1] at hg; injection hg with hg; injection hg with _ hg; cases hg
  exact World.cell?_of_block (a := ⟨g, i, none⟩) (Below.heap_setCell W ⟨g', k, none⟩ u g (by show g ≠ g'; exact hne))
theorem LsB.mono {W : World} {B B' g M : Nat} (h : LsB W B g M) (hB : B' ≤ B) : LsB W B' g M := by
  obtain ⟨cs, h1, h2⟩ := h
  exact ⟨cs, h1, fun i hi => by
    obtain ⟨X, m, c, e1, e2, e3⟩ := h2 i hi
    exact ⟨X, m, c, e1, e2, e3.mono hB⟩⟩
theorem LsB.at {W : World} {B g M : Nat} (h : LsB W B g M) {i : Nat} (hi : i < M) : ∃ X m c, W.cell? ⟨g, i, none⟩ = some (.slice X m c) ∧ m ≤ 12 ∧ StB W B (.slice X m c) m := by
  obtain ⟨cs, h1, h2⟩ := h
  obtain ⟨X, m, c, e1, e2, e3⟩ := h2 i hi
  exact ⟨X, m, c, by simp [World.cell?, h1, e1], e2, e3⟩
/-- What the law holds while it stores. -/
structure OwI (w4 : World) (B : Nat) (a : Value) (na g M : Nat) (b : Value) (nb : Nat) (W : World) : Prop where
  sa : StB W B a na
  lx : LsB W B g M
  sb : StB W B b nb
  bw : Below B w4 W
theorem OwI.keep {w4 W W' : World} {B na g M nb : Nat} {a b : Value} (h : OwI w4 B a na g M b nb W) (hB : B ≤ W.heap.size) (hb : Below W.heap.size W W') : OwI w4 B a na g M b nb W' := ⟨h.sa.keep hb, h.lx.keep hb, h.sb.keep hb, h.bw.trans (hb.mono hB)⟩
theorem OwI.set {w4 W : World} {B na g M nb : Nat} {a b : Value} (h : OwI w4 B a na g M b nb W) {g' k : Nat} {u : Value} (hB : B ≤ g') {cs' : Array Value} (hg : W.heap[g']? = some (.cells cs' 3 (0, 0))) : OwI w4 B a na g M b nb (W.setCell ⟨g', k, none⟩ u) :=
  ⟨h.sa.set, h.lx.set hg, h.sb.set, h.bw.setCell (p := ⟨g', k, none⟩) hB _⟩
theorem edges_le {N : Nat} {E : Pts} (h : TOk N E) (hN : N ≤ 12) : E.length ≤ 80 := by
  refine Nat.le_trans h.len (Nat.le_trans (vsTo_mono (s := codeF E) (t := fun c => decide (c / 12 < c % 12)) (fun c hc => ?_) 144).1 (by decide))
  unfold codeF at hc
  rw [List.any_eq_true] at hc
  obtain ⟨p, hp, he⟩ := hc
  obtain ⟨h0, h1, h2⟩ := h.mem hp
  rw [decide_eq_true_eq] at he ⊢
  omega
theorem row_zs {w : World} {B : Nat} {v : Value} {s : Nat → Bool} (h : w.ownsRow B 3 1 v (vsTo s 12).length ((vsTo s 12).map ik)) : w.ownsRow B 3 1 v (zsOf s).length ((zsOf s).map vz) := by
  rw [zsOf_len]
  unfold zsOf
  rw [List.map_map]
  exact h
end Go.Proofs.Yteekigpdiklppaa
