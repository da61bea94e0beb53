import Derived.Test.YtbmfipjnfbnjgaaArrays
import Derived.Test.YtbmfipjnfbnjgaaOpenArgs
import Derived.Laws.IdiomArrays
set_option linter.unusedSimpArgs false
set_option linter.unusedVariables false
namespace Go.Proofs.Ytbmfipjnfbnjgaa
open Go Go.Proofs Go.RowKit Go.ChangeShapes Go.WideShapes Go.ChangeAt Go.Joins
set_option maxRecDepth 100000 in
theorem und61 : Try.prog.underlying 61 = some (.array 3 3) := by kernel_rfl
set_option maxRecDepth 100000 in
theorem cells3' : Try.prog.cellsOf 3 = 1 := by kernel_rfl
set_option maxRecDepth 100000 in
theorem arg3w {H : Type} {enc : TypeId × Value → H} {W : World} {r : Reach} {b0 : Nat} {v : Value} {d : DataW H} {ps : List MemPlace} (hval : Value.okWide Try.prog W r b0 61 v)
    (hd : DataW.Trod enc Try.prog W 0 (fun _ => true) true 61 v d ps) : ∃ a b c : Int, v = .agg #[.int .i64 a, .int .i64 b, .int .i64 c] ∧ In64 a ∧ In64 b ∧ In64 c := by
  obtain ⟨a, b, c, rfl⟩ := arg3 hval
  obtain ⟨fuel, hf⟩ := hd
  have hf' : DataW.trod enc Try.prog W 0 (fun _ => true) true fuel 61 [.int .i64 a, .int .i64 b, .int .i64 c] = some (d, ps) := by simpa [Value.cells] using hf
  obtain ⟨y0, y1, y2, m, hx, h0, h1, h2⟩ := trod_array3 und61 cells3' hf'
  obtain ⟨k0, e0, _, w0⟩ := DataW.trod_int Try.underlying3 h0
  obtain ⟨k1, e1, _, w1⟩ := DataW.trod_int Try.underlying3 h1
  obtain ⟨k2, e2, _, w2⟩ := DataW.trod_int Try.underlying3 h2
  simp only [List.cons.injEq, Value.int.injEq, true_and, and_true] at e0 e1 e2
  subst e0 e1 e2
  exact ⟨_, _, _, rfl, wf64 w0, wf64 w1, wf64 w2⟩
end Go.Proofs.Ytbmfipjnfbnjgaa
