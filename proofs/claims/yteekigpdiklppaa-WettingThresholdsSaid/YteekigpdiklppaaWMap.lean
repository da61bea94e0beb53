import Derived.Test.YteekigpdiklppaaWSoak
import Derived.Maps.Own
import Derived.Maps.OwnOps
import Derived.Maps.OwnSet
import Derived.Maps.OwnIn
import Derived.Maps.Views
import Derived.DeepKeys4
set_option linter.unusedSimpArgs false
set_option linter.unusedVariables false
namespace Go.Proofs.Yteekigpdiklppaa
open Go Go.Proofs Go.RowKit Go.Seq
attribute [local go_sem] Oper.semAt_some
theorem laid79 : laidOutB Try.prog = true := by kernel_rfl
theorem row79 : (79 : TypeId) < Try.prog.types.size := of_decide_eq_true (by kernel_rfl)
theorem wide79 : (match Try.prog.underlying 79 with | some (.array _ _) | some (.struct _) => true | _ => false) = true := by rw [Try.underlying79]
set_option maxRecDepth 100000 in
theorem keylaw79 : WideMaps.KeyLaw Try.prog 79 := deep_law_laid laid79 (m := 2) (by omega) row79 (by kernel_rfl) wide79
theorem law79 : Maps.Keyed Try.prog 79 := Maps.Keyed.of_law keylaw79
theorem zero4 (w : World) : (zeroValue 4).run Try.prog w = .ok (.bool false) w := by kernel_rfl
theorem ty119 : Try.prog.underlying 119 = some (.map 79 4) := by kernel_rfl
def keyS (s : Nat → Bool) : Lit := .string (keyBytes [.bool (s 0), .bool (s 1), .bool (s 2), .bool (s 3), .bool (s 4), .bool (s 5), .bool (s 6), .bool (s 7), .bool (s 8), .bool (s 9), .bool (s 10), .bool (s 11)])
theorem cells79 : Try.prog.cellsOf 79 = 12 := by kernel_rfl
theorem cells4' : Try.prog.cellsOf 4 = 1 := by kernel_rfl
set_option maxHeartbeats 1000000 in
set_option maxRecDepth 100000 in
theorem key79 (s : Nat → Bool) : keyOf Try.prog 79 (setV s) = some (keyS s) := by
  have hk : Try.prog.keyType 79 = true := by kernel_rfl
  have hf : (setV s).formed Try.prog 79 = true := by unfold setV sc; simp [Value.formed, Try.underlying79, cells79]
  obtain ⟨m, hm⟩ : ∃ m, Try.prog.types.size = m + 1 := ⟨Try.prog.types.size - 1, by have h : (79 : Nat) < Try.prog.types.size := row79; omega⟩
  have h4 : ∀ x : Bool, Try.prog.keyLits (m + 1) 4 [.bool x] = some [.bool x] := fun x => by
    unfold Program.keyLits
    rw [Try.underlying4]
  unfold keyOf
  rw [Try.underlying79]
  simp only [hk, hf, Bool.and_self, if_true]
  rw [hm]
  unfold Program.keyLits
  rw [Try.underlying79]
  simp [setV, sc, Value.cells, cells79, cells4', h4, keyS, List.range_succ]
theorem keyS_ext {s t : Nat → Bool} (h : ∀ j, j < 12 → s j = t j) : keyS s = keyS t := by
  unfold keyS
  rw [h 0 (by omega), h 1 (by omega), h 2 (by omega), h 3 (by omega), h 4 (by omega), h 5 (by omega), h 6 (by omega), h 7 (by omega), h 8 (by omega), h 9 (by omega), h 10 (by omega), h 11 (by omega)]
theorem keyS_inj {s t : Nat → Bool} (h : keyS s = keyS t) : eqb s t = true := by
  have k1 := key79 s
  have k2 := key79 t
  rw [h] at k1
  have e := keylaw79.inj k1 k2
  unfold setV sc at e
  simp only [Value.agg.injEq, Array.mk.injEq, List.cons.injEq, Value.bool.injEq, and_true] at e
  obtain ⟨e0, e1, e2, e3, e4, e5, e6, e7, e8, e9, e10, e11⟩ := e
  unfold eqb
  rw [List.all_eq_true]
  intro j hj
  have hj : j < 12 := by simpa using hj
  match j, hj with
  | 0, _ => simp [e0]
  | 1, _ => simp [e1]
  | 2, _ => simp [e2]
  | 3, _ => simp [e3]
  | 4, _ => simp [e4]
  | 5, _ => simp [e5]
  | 6, _ => simp [e6]
  | 7, _ => simp [e7]
  | 8, _ => simp [e8]
  | 9, _ => simp [e9]
  | 10, _ => simp [e10]
  | 11, _ => simp [e11]
theorem eqb_iff {s t : Nat → Bool} : eqb s t = true ↔ ∀ j, j < 12 → s j = t j := by
  unfold eqb
  rw [List.all_eq_true]
  constructor
  · intro h j hj
    have := h j (by simpa using hj)
    simpa using this
  · intro h j hj
    have hj : j < 12 := by simpa using hj
    simp [h j hj]
theorem keyS_key (s : Nat → Bool) : WideAt.IsKeyLit (keyS s) := law79.key (key79 s)
abbrev DU := DataW Unit
/-- A map whose keys are sets, as the function that it is. -/
def HoldsAt (W : World) (M k : Nat) (h : (Nat → Bool) → Bool) : Prop :=
  ∃ D : DU, W.ownsMap Try.prog 79 (plainElem Try.prog 4) M k D ∧ ∀ s, D.atKey (keyS s) (.lit (.bool false)) = .lit (.bool (h s))
theorem HoldsAt.made (W : World) : HoldsAt (W.alloc (.map #[] 0)) W.heap.size 0 (fun _ => false) :=
  ⟨.map [], World.ownsMap_made _ _ _ _, fun s => rfl⟩
theorem HoldsAt.same {W W' : World} {M k : Nat} {h : (Nat → Bool) → Bool} (hh : HoldsAt W M k h) (e : W'.heap[M]? = W.heap[M]?) : HoldsAt W' M k h := by
  obtain ⟨D, ⟨es, clock, hb, r⟩, h2⟩ := hh
  exact ⟨D, ⟨es, clock, e.trans hb, r⟩, h2⟩
theorem HoldsAt.lt {W : World} {M k : Nat} {h : (Nat → Bool) → Bool} (hh : HoldsAt W M k h) : M < W.heap.size := by
  obtain ⟨D, ⟨es, clock, hb, r⟩, h2⟩ := hh
  exact (Array.getElem?_eq_some_iff.1 hb).1
theorem plainElem_bool_inv {v : Value} {x : Bool} {ps : List MemPlace} (h : plainElem (H := Unit) Try.prog 4 v = some (.lit (.bool x), ps)) : v = .bool x := by
  unfold plainElem at h
  have hu := Try.underlying4
  generalize Try.prog.underlying 4 = U at h hu
  subst hu
  cases v <;> simp at h
  rw [h.1]
set_option maxRecDepth 100000 in
theorem HoldsAt.look {W : World} {M k : Nat} {h : (Nat → Bool) → Bool} (hh : HoldsAt W M k h) (s : Nat → Bool) : (Instr.lookup 119 (.map (some M)) (setV s) false).run Try.prog W = .ok (.bool (h s)) W := by
  obtain ⟨D, ho, h2⟩ := hh
  obtain ⟨v, ps, hrun, hv⟩ := ho.lookup law79 ty119 (zero4 W) (zd := .lit (.bool false)) (zp := []) (plainElem_bool Try.underlying4 false) (key79 s)
  rw [h2 s] at hv
  rw [hrun, plainElem_bool_inv hv]
def addH (h : (Nat → Bool) → Bool) (s t : Nat → Bool) : Bool := eqb t s || h t
set_option maxRecDepth 100000 in
theorem HoldsAt.put {W : World} {M k : Nat} {h : (Nat → Bool) → Bool} {F : Fence} {nF : Nat} {ops : Array Oper} {rest : List Oper} {o : Oper} {a : Act} {Q : Exit → Act → World → Prop} (hh : HoldsAt W M k h) (hk : k < 100000) (s : Nat → Bool)
    (hg : o.guard = none) (m x v : Operand) (hop : o.op = Op.mapUpdate 119 m x v) (hm : a.eval m = .map (some M)) (hx : a.eval x = setV s) (hv : a.eval v = .bool true)
    (hK : ∀ W', HoldsAt W' M (k + 1) (addH h s) → W.grownBy W' (some M) → wpListIn F nF Try.prog ops Q rest (a.put o.dst undef) W') :
    wpListIn F nF Try.prog ops Q (o :: rest) a W := by
  obtain ⟨D, ho, h2⟩ := hh
  refine wpListIn_mapUpdate_own _ hg m x v 119 hop 79 4 law79 ty119 _ M k D hm ho (by unfold maxLen; omega) _ _ (keyS s) hx hv (key79 s) (.lit (.bool true)) [] (plainElem_bool Try.underlying4 true) ?_
  intro W' ho' hgr
  refine hK W' ⟨_, ho', fun t => ?_⟩ hgr
  unfold addH
  by_cases e : keyS t = keyS s
  · rw [e, keyS_inj e, Maps.atKey_put_same (ho.isMap) (keyS_key s)]
    rfl
  · rw [Maps.atKey_put_other e, h2 t]
    have : eqb t s = false := by
      rw [Bool.eq_false_iff]
      intro h; exact e (keyS_ext (eqb_iff.1 h))
    rw [this]; rfl
end Go.Proofs.Yteekigpdiklppaa
