import Derived.Test.YtioaaigbpfdjmaaDoorFew
import Derived.Test.YtioaaigbpfdjmaaDoorCardPointsNo
import Derived.Test.YtioaaigbpfdjmaaDoorTurnYes
set_option linter.unusedSimpArgs false
set_option linter.unusedVariables false
namespace Go.Proofs.YtioaaigbpfdjmaaDoor
open Go Go.Proofs Go.RowKit
/-- A cube of n digits. -/
def okN (n : Nat) (c : ByteArray) : Bool := okCube c && decide (c.size = n)
theorem results_cell_tmp2 {fn : Func} {p u v : Tmp} {ty : TypeId} (h : fn.results = #[.cell p ty, .tmp u, .tmp v]) (tmps : Array Value) (P : Program) (w : World) :
    (results fn tmps).run P w =
      ((asAddr (tmps.getD p undef)).run P w).andThen fun a w₁ => ((loadVar ty a).run P w₁).andThen fun x w₂ => .ok (.tuple #[x, tmps.getD u undef, tmps.getD v undef]) w₂ := by
  simp only [results, h]
  simp [Sem.run_bind, Result.andThen]
set_option maxRecDepth 100000 in
theorem read_two (s : ByteArray) (n : Nat) (h5 : n ≤ 5) (h40 : s.size ≤ 40) (w : World) :
    Calls Tryd.prog 91 #[.string s, .int .i64 n] w fun e w' => (∃ F V : Nat, e = .returned (.tuple #[.agg #[.int .i64 F, .int .i64 V], .bool (okN n s)]) ∧ (okN n s = true → F < 32 ∧ V < 32 ∧ fixB s F s.size ∧ valB s V s.size)) ∧ Below w.heap.size w w' := by
  by_cases hs : s.size = n
  · subst hs
    refine (read_any s h5 w).mono ?_
    rintro e w' ⟨⟨F, V, rfl, h⟩, hb⟩
    have e : okN s.size s = okCube s := by simp [okN]
    rw [e]
    exact ⟨⟨F, V, rfl, h⟩, hb⟩
  · have hne : ((s.size : Int) != (n : Int)) = true := by simp; omega
    have e0 : okN n s = false := by simp [okN, hs]
    rw [e0]
    clear hs e0
    go_enter Tryd.func91, Tryd.ntmps91
    go_wp2
    refine bodyPost_ret (v := .tuple #[.agg #[.int .i64 (0 : Nat), .int .i64 (0 : Nat)], .bool false]) (by rw [results_cell_tmp rfl]; go_simp) rfl ?_
    exact ⟨⟨0, 0, rfl, fun h => by cases h⟩, (Below.refl _ _).alloc (Nat.le_refl _) _⟩
/-- Sets in the cells of a block of their own. -/
def URow (w : World) (G N : Nat) (f : Nat → Nat) : Prop := ∀ j, j < N → w.cell? ⟨G, j, none⟩ = some (.int .u32 (f j : Nat)) ∧ w.frozen? ⟨G, j, none⟩ = false
theorem row_cells32 {w : World} {B G n : Nat} {xs : List Value} (h : w.ownsRow B 77 1 (.slice (some ⟨G, 0, none⟩) n n) n xs) (hl : xs.length = n) :
    ∀ j (hj : j < xs.length), w.cell? ⟨G, j, none⟩ = some xs[j] ∧ w.frozen? ⟨G, j, none⟩ = false := by
  intro j hj
  obtain ⟨h1, h2⟩ := h
  rcases h2 with ⟨h3, _⟩ | ⟨g, cap, cur, hv, hg, hh, hn, hcap, hsz, htake⟩
  · cases h3
  · injection hv with hv1 hv2 hv3
    injection hv1 with hv1
    injection hv1 with hv1
    subst hv1
    have : cur[j]? = some xs[j] := by
      have e : (cur.toList.take (n * 1))[j]? = xs[j]? := by rw [htake]
      rw [List.getElem?_take_of_lt (by omega), List.getElem?_eq_getElem hj] at e
      rw [← Array.getElem?_toList, e]
    constructor
    · simp [World.cell?, hh, this]
    · simp [World.frozen?, hh]
theorem made_zero32 (n : Nat) : (madeCells (Value.int .u32 0).cells (n * 1)).toList.length = n ∧ ∀ j (hj : j < (madeCells (Value.int .u32 0).cells (n * 1)).toList.length), (madeCells (Value.int .u32 0).cells (n * 1)).toList[j] = .int .u32 0 := by
  have e : (Value.int .u32 0).cells = #[.int .u32 0] := rfl
  rw [e]
  refine ⟨by simp [size_madeCells], fun j hj => ?_⟩
  simp [madeCells, Nat.mod_one]
theorem urow_start {w : World} {B G n : Nat} (h : w.ownsRow B 77 1 (.slice (some ⟨G, 0, none⟩) n n) n (madeCells (Value.int .u32 0).cells (n * 1)).toList) : URow w G n (fun _ => 0) := by
  intro j hj
  obtain ⟨m1, m2⟩ := made_zero32 n
  have hj' : j < (madeCells (Value.int .u32 0).cells (n * 1)).toList.length := by omega
  obtain ⟨c1, c2⟩ := row_cells32 h m1 j hj'
  rw [m2 j hj'] at c1
  exact ⟨by rw [c1]; rfl, c2⟩
theorem urow_below {w w' : World} {G N : Nat} {f : Nat → Nat} (h : URow w G N f) (b : Below w.heap.size w w') : URow w' G N f := by
  intro j hj
  obtain ⟨c1, c2⟩ := h j hj
  have h1 : G < w.heap.size := by
    rcases Nat.lt_or_ge G w.heap.size with h' | h'
    · exact h'
    · simp [World.cell?, Array.getElem?_eq_none h'] at c1
  exact ⟨by rw [b.cell (p := ⟨G, j, none⟩) h1]; exact c1, by rw [b.frozen (p := ⟨G, j, none⟩) h1]; exact c2⟩
theorem urow_set {w : World} {G N p : Nat} {f g : Nat → Nat} (h : URow w G N f) (hp : p < N) {z : Nat} (hz : g p = z) (hg : ∀ j, j < N → j ≠ p → g j = f j) : URow (w.setCell ⟨G, p, none⟩ (.int .u32 z)) G N g := by
  intro j hj
  obtain ⟨c1, c2⟩ := h j hj
  obtain ⟨d1, d2⟩ := h p hp
  by_cases hjp : j = p
  · subst hjp
    rw [hz]
    exact ⟨by go_simp, by go_simp⟩
  · rw [hg j hj hjp]
    have hne : ¬ p = j := fun h => hjp h.symm
    generalize f j = y at c1 ⊢
    clear hz
    exact ⟨by go_simp, by go_simp⟩
theorem urow_other {w : World} {G G' N p : Nat} {f : Nat → Nat} (h : URow w G N f) (hne : G ≠ G') (u : Value) : URow (w.setCell ⟨G', p, none⟩ u) G N f := by
  intro j hj
  obtain ⟨c1, c2⟩ := h j hj
  have e := Below.heap_setCell w ⟨G', p, none⟩ u G hne
  exact ⟨(World.cell?_of_block (a := ⟨G, j, none⟩) e).trans c1, (World.frozen?_of_block (a := ⟨G, j, none⟩) e).trans c2⟩
/-- Three cells of a variable. -/
def Three (w : World) (G : Nat) (x y z : Value) : Prop :=
  w.cell? ⟨G, 0, none⟩ = some x ∧ w.cell? ⟨G, 1, none⟩ = some y ∧ w.cell? ⟨G, 2, none⟩ = some z ∧ w.frozen? ⟨G, 0, none⟩ = false ∧ w.frozen? ⟨G, 1, none⟩ = false ∧ w.frozen? ⟨G, 2, none⟩ = false
theorem three_below {w w' : World} {G : Nat} {x y z : Value} (h : Three w G x y z) (b : Below w.heap.size w w') : Three w' G x y z := by
  obtain ⟨a1, a2, a3, a4, a5, a6⟩ := h
  have h1 : G < w.heap.size := by
    rcases Nat.lt_or_ge G w.heap.size with h' | h'
    · exact h'
    · simp [World.cell?, Array.getElem?_eq_none h'] at a1
  exact ⟨by rw [b.cell (p := ⟨G, 0, none⟩) h1]; exact a1, by rw [b.cell (p := ⟨G, 1, none⟩) h1]; exact a2, by rw [b.cell (p := ⟨G, 2, none⟩) h1]; exact a3,
    by rw [b.frozen (p := ⟨G, 0, none⟩) h1]; exact a4, by rw [b.frozen (p := ⟨G, 1, none⟩) h1]; exact a5, by rw [b.frozen (p := ⟨G, 2, none⟩) h1]; exact a6⟩
theorem three_lt {w : World} {G : Nat} {x y z : Value} (h : Three w G x y z) : G < w.heap.size := by
  have a1 := h.1
  rcases Nat.lt_or_ge G w.heap.size with h' | h'
  · exact h'
  · simp [World.cell?, Array.getElem?_eq_none h'] at a1
theorem three_set {w : World} {G G' p : Nat} {x y z : Value} (h : Three w G x y z) (hne : G ≠ G') (u : Value) : Three (w.setCell ⟨G', p, none⟩ u) G x y z := by
  obtain ⟨a1, a2, a3, a4, a5, a6⟩ := h
  have e := Below.heap_setCell w ⟨G', p, none⟩ u G hne
  exact ⟨(World.cell?_of_block (a := ⟨G, 0, none⟩) e).trans a1, (World.cell?_of_block (a := ⟨G, 1, none⟩) e).trans a2, (World.cell?_of_block (a := ⟨G, 2, none⟩) e).trans a3,
    (World.frozen?_of_block (a := ⟨G, 0, none⟩) e).trans a4, (World.frozen?_of_block (a := ⟨G, 1, none⟩) e).trans a5, (World.frozen?_of_block (a := ⟨G, 2, none⟩) e).trans a6⟩
/-- The two tests of a cover, by sets. -/
theorem cov_bits {f : ByteArray} {ls : List ByteArray} {U O Z c : Nat} (hU : ∀ p, U.testBit p = (decide (p < f.size) && inAny ls p)) (hO : charB f 49 O f.size) (hZ : charB f 48 Z f.size) (hc : ∀ q, c.testBit q = (O.testBit q && !U.testBit q)) :
    covB f ls = (((U &&& Z) == 0) && (c == 0)) := by
  rw [Bool.eq_iff_iff, Bool.and_eq_true, beq_iff_eq, beq_iff_eq]
  unfold covB
  rw [List.all_eq_true]
  constructor
  · intro h
    constructor
    · apply Nat.eq_of_testBit_eq
      intro p
      rw [Nat.zero_testBit, Nat.testBit_and, hU, hZ]
      by_cases hp : p < f.size
      · have := h p (List.mem_range.2 hp)
        unfold covAt at this
        generalize f.data.toList.getD p 0 = b at this ⊢
        cases h1 : (b == 48) <;> cases h2 : inAny ls p <;> simp_all
      · simp [hp]
    · apply Nat.eq_of_testBit_eq
      intro p
      rw [Nat.zero_testBit, hc, hU, hO]
      by_cases hp : p < f.size
      · have := h p (List.mem_range.2 hp)
        unfold covAt at this
        generalize f.data.toList.getD p 0 = b at this ⊢
        cases h1 : (b == 49) <;> cases h2 : inAny ls p <;> simp_all
      · simp [hp]
  · rintro ⟨h1, h2⟩ p hp
    rw [List.mem_range] at hp
    have a1 : (U &&& Z).testBit p = false := by rw [h1]; exact Nat.zero_testBit p
    have a2 : c.testBit p = false := by rw [h2]; exact Nat.zero_testBit p
    rw [Nat.testBit_and, hU, hZ] at a1
    rw [hc, hU, hO] at a2
    unfold covAt
    generalize f.data.toList.getD p 0 = b at a1 a2 ⊢
    cases h1 : (b == 48) <;> cases h3 : (b == 49) <;> cases h2 : inAny ls p <;> simp_all
end Go.Proofs.YtioaaigbpfdjmaaDoor
