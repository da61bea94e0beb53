/-
  The awake of package shares, computed by the kernel.
-/
import Derived.Test.YtbocmbhinjkjlaaRunR
import Derived.Test.YtbocmbhinjkjlaaProg
set_option linter.unusedSimpArgs false
set_option linter.unusedVariables false
namespace Go.Proofs.Ytbocmbhinjkjlaa
open Go Go.CRun Go.Proofs Go.RowKit
set_option maxRecDepth 1000000
theorem names_ok : namesOK Try.prog = true := by kernel_rfl
theorem mixed_ok : Try.prog.follows .mixedOrders = true := by kernel_rfl
theorem codes_ok : codesOK Try.prog = true := by kernel_rfl
theorem prog_ok : ProgOK Try.prog := progOK_of names_ok mixed_ok codes_ok
noncomputable def X0 : Known := tabs [] []
theorem x0_ok (N : Nat) : KnownOK Try.prog [] N X0 := knownOK_of prog_ok (by kernel_rfl) (by simp)
theorem glob_nil {w : World} : GlobOK [] 0 w := by intro g vs h; cases h
theorem r25 : runF Try.prog [] X0 5000 25 [] (isRes ⟨false, [.flat (.bool true)]⟩) = true := by kernel_rfl
theorem awake_any (w : World) : Calls Try.prog 25 #[] w fun e w' => e = .returned (.bool true) ∧ Below w.heap.size w w' :=
  true_of_sum (sum_of_run prog_ok (x0_ok 0) r25 rfl) glob_nil (Nat.zero_le _)
end Go.Proofs.Ytbocmbhinjkjlaa
