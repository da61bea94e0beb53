import Derived.Test.YteekigpdiklppaaLawChecks
import Derived.OpenShut
import Derived.Lib.SmallJoins
set_option linter.unusedSimpArgs false
set_option linter.unusedVariables false
namespace Go.Proofs.Yteekigpdiklppaa
open Go Go.Proofs Go.RowKit Go.ChangeShapes Go.WideShapes Go.ChangeAt Go.Joins
theorem ty62 : Try.prog.underlying 62 = some (.array 2 22) := by kernel_rfl
theorem cells22 : Try.prog.cellsOf 22 = 1 := by kernel_rfl
theorem cells62 : Try.prog.cellsOf 62 = 2 := by kernel_rfl
set_option maxRecDepth 100000 in
theorem arg62 {H : Type} {enc : TypeId × Value → H} {W : World} {r : Reach} {b0 : Nat} {v : Value} {d : DataW H} {ps : List MemPlace} (hval : Value.okWide Try.prog W r b0 62 v)
    (hd : DataW.Trod enc Try.prog W 0 (fun _ => true) true 62 v d ps) : ∃ A0 l0 c0 p0 A1 l1 c1 p1, v = .agg #[.slice A0 l0 c0, .slice A1 l1 c1] ∧ ArgP W (.slice A0 l0 c0) p0 ∧ ArgP W (.slice A1 l1 c1) p1 := by
  have hv := hval
  unfold Value.okWide at hv
  rw [ty62] at hv
  obtain ⟨cs, rfl, hsz, ts, hts, _, hall⟩ := hv
  rw [show Try.prog.cellTypes Try.prog.depth 62 = some [22, 22] by kernel_rfl] at hts
  obtain rfl := Option.some.inj hts
  rw [cells62] at hsz
  have each : ∀ i, i < 2 → ∃ c, cs[i]? = some c ∧ Value.okWide Try.prog W r b0 22 c := fun i hi => by
    have hlt : i < cs.size := by rw [hsz]; exact hi
    refine ⟨cs[i]'hlt, Array.getElem?_eq_getElem hlt, ?_⟩
    obtain ⟨u, hu1, hu2⟩ := hall i (cs[i]'hlt) (Array.getElem?_eq_getElem hlt)
    have hu3 : u = 22 := by
      have : i = 0 ∨ i = 1 := by omega
      rcases this with rfl | rfl <;> simpa using hu1.symm
    rw [hu3] at hu2
    unfold Value.okWide
    rw [ty22]
    exact hu2
  obtain ⟨s0, h0, k0⟩ := each 0 (by omega)
  obtain ⟨s1, h1, k1⟩ := each 1 (by omega)
  obtain ⟨A0, l0, c0, rfl⟩ := okWide_slice ty22 k0
  obtain ⟨A1, l1, c1, rfl⟩ := okWide_slice ty22 k1
  have hcs : cs = #[.slice A0 l0 c0, .slice A1 l1 c1] := by
    apply Array.ext_getElem?
    intro i
    match i with
    | 0 => rw [h0]; rfl
    | 1 => rw [h1]; rfl
    | i + 2 => rw [Array.getElem?_eq_none (by omega)]; simp
  subst hcs
  obtain ⟨fuel, hf⟩ := hd
  obtain ⟨xs, m, _, _, _, hxl, hxe⟩ := DataW.trod_array ty62 hf
  have e0 := hxe 0 (by omega)
  have e1 := hxe 1 (by omega)
  rw [cells22, List.getElem?_eq_getElem (show 0 < xs.length by omega)] at e0
  rw [cells22, List.getElem?_eq_getElem (show 1 < xs.length by omega)] at e1
  obtain ⟨p0, hp0⟩ := arg_argP (enc := enc) (d := (xs[0]'(by omega)).1) (ps := (xs[0]'(by omega)).2) k0 ⟨m, by simpa [Value.cells] using e0⟩
  obtain ⟨p1, hp1⟩ := arg_argP (enc := enc) (d := (xs[1]'(by omega)).1) (ps := (xs[1]'(by omega)).2) k1 ⟨m, by simpa [Value.cells] using e1⟩
  exact ⟨A0, l0, c0, p0, A1, l1, c1, p1, rfl, hp0, hp1⟩
end Go.Proofs.Yteekigpdiklppaa
