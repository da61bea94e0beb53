import Derived.Test.YteekigpdiklppaaWRFort
set_option linter.unusedSimpArgs false
set_option linter.unusedVariables false
namespace Go.Proofs.Yteekigpdiklppaa
open Go Go.Proofs Go.RowKit Go.Seq
attribute [local go_sem] Oper.semAt_some
namespace Ins
theorem wpList_append_zero {P : Program} (w : World) {ops : Array Oper} {rest : List Oper} {o : Oper} {a : Act} {Q : Exit → Act → World → Prop}
    (hg : o.guard = none) (s x : Operand) (t : TypeId) (hop : o.op = Op.call { callee := Callee.builtin Builtin.append, args := #[s, x], argTypes := #[t, t] })
    (e : TypeId) (i : TypeInfo) (h1 : P.underlying t = some (.slice e)) (h2 : P.info? e = some i) (b : Addr) (n cap c : Nat) (hs : a.eval s = .slice (some b) n cap) (hx : a.eval x = .slice none 0 c) (hcap : n ≤ cap)
    (hK : wpList P ops Q rest (a.put o.dst (.slice (some b) n cap)) w) : wpList P ops Q (o :: rest) a w := by
  refine wpList_plain hg fun K hK' => ?_
  have hrun : (Builtin.append_ #[t, t] o.type #[.slice (some b) n cap, .slice none 0 c]).run P w = .ok (.slice (some b) n cap) w := by
    simp [Builtin.append_, run_underlying h1, sizeOf, typeInfo, zeroValue, h2, Builtin.lenOf, hcap, run_firstCells_none, storeCells]
  unfold Oper.wp
  simp [execOp, hop, resolve, invoke, builtin, hs, hx, hrun, Result.andThen]
  exact hK' _ _ hK
/-- A list of ints at the start of a block that it may be cut from. -/
def RowAt (W : World) (v : Value) (P : List Int) : Prop :=
  ∃ g cap, v = .slice (some ⟨g, 0, none⟩) P.length cap ∧ P.length ≤ cap ∧ cap ≤ maxLen ∧ g < W.heap.size ∧ ∀ i, i < P.length → W.cell? ⟨g, 0 + i, none⟩ = some (vz (P.getD i 0))
theorem row_own {w : World} {B : Nat} {v : Value} {l : List Int} (h : w.ownsRow B 3 1 v l.length (l.map vz)) (hl : 1 ≤ l.length) : RowAt w v l := by
  obtain ⟨h1, h2⟩ := h
  rcases h2 with ⟨rfl, h0⟩ | ⟨g, cap, cur, rfl, hg, hh, hn, hcap, hsz, htake⟩
  · omega
  · refine ⟨g, cap, rfl, hn, hcap, ?_, fun k hk => ?_⟩
    · rcases Nat.lt_or_ge g w.heap.size with h' | h'
      · exact h'
      · rw [Array.getElem?_eq_none h'] at hh; cases hh
    have : cur[k]? = some (.int .i64 (l.getD k 0)) := by
      have e : (cur.toList.take (l.length * 1))[k]? = (l.map vz)[k]? := by rw [htake]
      rw [List.getElem?_take_of_lt (by omega), List.getElem?_map, List.getElem?_eq_getElem hk] at e
      rw [← Array.getElem?_toList, e]
      simp [vz, List.getD, hk]
    simp [World.cell?, hh, this, vz]
theorem row_below {w w' : World} {v : Value} {l : List Int} (h : RowAt w v l) (b : Below w.heap.size w w') : RowAt w' v l := by
  obtain ⟨g, cap, hv, h1, h2, h3, hc⟩ := h
  exact ⟨g, cap, hv, h1, h2, Nat.lt_of_lt_of_le h3 b.size, fun i hi => cell_below (hc i hi) b⟩
theorem row_ints {w : World} {v : Value} {l : List Int} (h : RowAt w v l) : IntsO w v l := by
  obtain ⟨g, cap, hv, h1, h2, h3, hc⟩ := h
  exact ⟨_, cap, hv, fun k hk => ⟨g, 0, rfl, hc k hk⟩⟩
theorem cells_of_drop {w : World} {b m : Nat} {zs : List Int} (hc : ∀ i, i < zs.length → w.cell? ⟨b, 0 + i, none⟩ = some (vz (zs.getD i 0))) :
    ∀ j u, ((zs.drop m).map vz)[j]? = some u → w.cell? ((⟨b, m, none⟩ : Addr).add j) = some u := by
  intro j u hj
  have hjl : j < (zs.drop m).length := by
    have := (List.getElem?_eq_some_iff.1 hj).1
    simpa using this
  have hplain : (⟨b, m, none⟩ : Addr).add j = ⟨b, 0 + (m + j), none⟩ := by unfold Addr.add; split <;> simp_all
  rw [List.length_drop] at hjl
  rw [hplain, hc (m + j) (by omega), ← hj, List.getElem?_map, List.getElem?_drop, List.getElem?_eq_getElem (show m + j < zs.length by omega), List.getD_eq_getElem?_getD, List.getElem?_eq_getElem (show m + j < zs.length by omega)]
  rfl
/-- The rest of a list, cut from its row: where it starts. -/
theorem src_of {w : World} {g r cap : Nat} {P : List Int} (hc : ∀ i, i < P.length → w.cell? ⟨g, 0 + i, none⟩ = some (vz (P.getD i 0))) (hcap : P.length ≤ cap) :
    ∃ ad : Addr, (if cap = r then some (⟨g, 0, none⟩ : Addr) else some ⟨g, r, none⟩) = some ad ∧ ∀ j u, ((P.drop r).map vz)[j]? = some u → w.cell? (ad.add j) = some u := by
  by_cases h : cap = r
  · refine ⟨⟨g, 0, none⟩, by rw [if_pos h], fun j u hj => ?_⟩
    have := (List.getElem?_eq_some_iff.1 hj).1
    rw [List.length_map, List.length_drop] at this
    omega
  · exact ⟨⟨g, r, none⟩, by rw [if_neg h], cells_of_drop hc⟩
theorem one_cells (l : List Int) : ∀ u ∈ l.map vz, u.oneCell' = true := by
  intro u hu
  obtain ⟨z, _, rfl⟩ := List.mem_map.1 hu
  rfl
theorem wpList_append_nil {P : Program} (w : World) {ops : Array Oper} {rest : List Oper} {o : Oper} {a : Act} {Q : Exit → Act → World → Prop}
    (hg : o.guard = none) (s x : Operand) (t : TypeId) (hop : o.op = Op.call { callee := Callee.builtin Builtin.append, args := #[s, x], argTypes := #[t, t] })
    (e : TypeId) (i : TypeInfo) (h1 : P.underlying t = some (.slice e)) (h2 : P.info? e = some i) (hs : a.eval s = .slice none 0 0) (hx : a.eval x = .slice none 0 0)
    (hK : wpList P ops Q rest (a.put o.dst (.slice none 0 0)) w) : wpList P ops Q (o :: rest) a w := by
  refine wpList_plain hg fun K hK' => ?_
  have hrun : (Builtin.append_ #[t, t] o.type #[.slice none 0 0, .slice none 0 0]).run P w = .ok (.slice none 0 0) w := by
    simp [Builtin.append_, run_underlying h1, sizeOf, typeInfo, zeroValue, h2, Builtin.lenOf, run_firstCells_none, storeCells]
  unfold Oper.wp
  simp [execOp, hop, resolve, invoke, builtin, hs, hx, hrun, Result.andThen]
  exact hK' _ _ hK
def insL (P : List Int) (r : Nat) (x : Int) : List Int := P.take r ++ [x] ++ P.drop r
theorem insL_len {P : List Int} {r m : Nat} {x : Int} (h : P.length = m) (hr : r ≤ m) : (insL P r x).length = m + 1 := by
  unfold insL; simp; omega
theorem insL_row {w : World} {B : Nat} {v : Value} {P : List Int} {r m : Nat} {x : Int} (hP : P.length = m) (hr : r ≤ m) (h : w.ownsRow B 3 1 v (0 + r + 1 + (m - r)) ([] ++ (P.take r).map vz ++ [.int .i64 x] ++ (P.drop r).map vz)) : RowAt w v (insL P r x) := by
  refine row_own (B := B) ?_ (by rw [insL_len hP hr]; omega)
  rw [insL_len hP hr, show m + 1 = 0 + r + 1 + (m - r) by omega]
  unfold insL
  rw [List.map_append, List.map_append]
  exact h
theorem cells_take {w : World} {b m : Nat} {zs : List Int} (hm : m ≤ zs.length) (hc : ∀ i, i < zs.length → w.cell? ⟨b, 0 + i, none⟩ = some (vz (zs.getD i 0))) : ∀ j u, ((zs.take m).map vz)[j]? = some u → w.cell? ((⟨b, 0, none⟩ : Addr).add j) = some u := cellsZ hm hc
theorem cells_drop0 {w : World} {b r : Nat} {zs : List Int} (hc : ∀ i, i < zs.length → w.cell? ⟨b, 0 + i, none⟩ = some (vz (zs.getD i 0))) : ∀ j u, ((zs.drop r).map vz)[j]? = some u → w.cell? ((⟨b, r, none⟩ : Addr).add j) = some u := cells_of_drop hc
end Ins
open Ins
def toI (out : List Nat) : List Int := out.map fun (u : Nat) => (u : Int)
theorem toI_len (out : List Nat) : (toI out).length = out.length := by simp [toI]
theorem toI_ins (out : List Nat) (r x : Nat) : insL (toI out) r (x : Int) = toI (out.take r ++ x :: out.drop r) := by
  unfold insL toI
  rw [List.map_append, List.map_cons, List.map_take, List.map_drop, List.append_assoc]
  rfl
theorem toI_at {out : List Nat} {j : Nat} (h : j < out.length) : (toI out).getD j 0 = ((out.getD j 0 : Nat) : Int) := by
  unfold toI
  rw [List.getD_eq_getElem?_getD, List.getElem?_map, List.getD_eq_getElem?_getD, List.getElem?_eq_getElem h]; rfl
end Go.Proofs.Yteekigpdiklppaa
