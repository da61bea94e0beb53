/- The law SharesAwards holds for every input: its row's contract, out of the walk. -/
import Derived.Test.YtbocmbhinjkjlaaRows
import Derived.Test.YtbocmbhinjkjlaaLawAwards
import Derived.Test.YtbocmbhinjkjlaaRunS
import Derived.WalkKit
import Derived.ProofKit
import Derived.OpenShut
import Derived.Deep.DeepHandedRow
import Derived.Lib.SmallJoins
set_option linter.unusedSimpArgs false
set_option linter.unusedVariables false
namespace Go.Proofs.Ytbocmbhinjkjlaa.sharesAwards
open Go.ChangeShapes Go.WideShapes Go.ChangeAt Go.RowKit Go.CRun
open Go.ChangeMaps (open_string shut_string)
theorem own : ownKnob Try.prog.godebug = none := by kernel_rfl
theorem params : Try.f3.params = #[22, 23, 24] := by kernel_rfl
theorem und3 : Try.prog.underlying 3 = some (.int .i64) := by kernel_rfl
theorem full : ∀ t e, t < Try.prog.types.size → Try.prog.underlying t = some (.slice e) → 0 < Try.prog.cellsOf e := slices_full_of Try.prog (by kernel_rfl)
theorem kids : Kids Try.prog (· < Try.prog.types.size) := kids_rows (by kernel_rfl) (by kernel_rfl)
set_option maxRecDepth 100000 in
theorem contract (H : Type) (enc : TypeId × Value → H) (W : World) (base : Nat) (args : Array Value) (ds gs : List (DataW H)) (before : List MemPlace)
    (hval : ∀ (j : Nat) t v, Try.f3.params[j]? = some t → args[j]? = some v → Value.okWide Try.prog W .any base t v)
    (hW : DataW.Whole enc Try.prog Try.f3.params.toList Rows.sharesAwardsSpec.vars false W args.toList ds gs before) :
    Calls Try.prog 3 args W fun e W' => ∃ v, e = .returned v ∧ Rows.sharesAwardsSpec.post enc Try.prog Try.f3 false true false false W args v W' := by
  have hW' := hW
  have hps : ∀ t ∈ Try.f3.params.toList, t < Try.prog.types.size := by rw [params]; exact of_decide_eq_true (by kernel_rfl)
  obtain ⟨p, q, hA0, hV, rfl, hfz, hnd⟩ := hW
  have hA : DataW.TrodAll enc Try.prog W 0 (fun _ => true) true Try.f3.params.toList args.toList ds p := hA0
  rw [params] at hA hval
  obtain ⟨v0, vs0, d0, ds0, p0, q0, hargs, rfl, rfl, h0, r0⟩ := trodAll_cons hA
  obtain ⟨v1, vs1, d1, ds1, p1, q1, rfl, rfl, rfl, h1, r1⟩ := trodAll_cons r0
  obtain ⟨v2, vs2, d2, ds2, p2, q2, rfl, rfl, rfl, h2, r2⟩ := trodAll_cons r1
  obtain ⟨rfl, rfl, rfl⟩ := trodAll_nil r2
  obtain rfl : args = #[v0, v1, v2] := by apply Array.ext'; simpa using hargs
  have hfn : (Rows.sharesAwardsSpec.fn H [d0, d1, d2]).results = [.lit (.bool true)] ∧ (Rows.sharesAwardsSpec.fn H [d0, d1, d2]).args = [d0, d1, d2] ∧ (Rows.sharesAwardsSpec.fn H [d0, d1, d2]).vars = [] := ⟨rfl, rfl, rfl⟩
  clear hA0
  obtain ⟨R, E, rfl⟩ := arg2 (hval 0 22 v0 rfl rfl)
  obtain ⟨zs, hz⟩ := arg_ints (hval 1 23 v1 rfl rfl) h1
  obtain ⟨ls, hl, hlw⟩ := arg_fracs (hval 2 24 v2 rfl rfl) h2
  have walk : Calls Try.prog 3 #[.agg #[.int .i64 R, .int .i64 E], v1, v2] W fun e W' => e = .returned (.bool true) ∧ Below W.heap.size W W' := awardsLaw_any hz hl
  refine walk.mono fun e W' ⟨he, hg⟩ => ?_
  subst he
  exact ⟨_, rfl, post_of_below kids full hps rfl (by kernel_rfl) Try.underlying4 hfn hW' hg⟩
set_option maxRecDepth 100000 in
theorem lifted (os : Os) (started : os.Started) (H : Type) (enc : TypeId × Value → H) :
    ReturnsInHanded {} Try.checked os 3 .any (Rows.sharesAwardsSpec.pre6 enc Try.prog Try.f3 Rows.sharesAwardsRow.domain false) (Rows.sharesAwardsSpec.post enc Try.prog Try.f3 false true false false) := by
  refine returnsInHanded_of_change (C := Try.checked) own started (by kernel_rfl) Try.func3
    (ChangeSpec.witness6 (enc := enc) (C := Try.checked) false ⟨#[], #[.agg #[.int .i64 0, .int .i64 0], .slice none 0 0, .slice none 0 0], []⟩ 8 (by kernel_rfl) (by kernel_rfl) (by kernel_rfl) (by kernel_rfl)) ?_
  intro W base args ds gs before hval0 hW hcnd _
  exact contract H enc W base args ds gs before hval0 hW
theorem said : Rows.SharesAwardsSaid :=
  OpenClaim.holds_of_wide 3 Try.f3 rfl rfl rfl rfl rfl rfl rfl ⟨rfl, rfl, rfl, rfl, rfl⟩ rfl rfl rfl rfl rfl (by kernel_rfl) Try.func3 (by kernel_rfl)
    (of_decide_eq_true (by kernel_rfl)) (by unfold Func.isWrapper; first | (rw [if_pos (by decide +kernel)]; kernel_rfl) | (rw [if_neg (by decide +kernel)]; exact ⟨rfl, rfl⟩))
    (fun os started H enc _ => lifted os started H enc)
end Go.Proofs.Ytbocmbhinjkjlaa.sharesAwards
