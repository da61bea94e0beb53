import Derived.Test.YtifbiamfandjnaaRunR
import Derived.Test.YtifbiamfandjnaaProg
set_option linter.unusedSimpArgs false
set_option linter.unusedVariables false
namespace Go.Proofs.Ytifbiamfandjnaa
open Go Go.CRun Go.Proofs Go.RowKit
set_option maxRecDepth 1000000
theorem names_ok : namesOK Try.prog = true := by kernel_rfl
theorem mixed_ok : Try.prog.follows .mixedOrders = true := by kernel_rfl
theorem codes_ok : codesOK Try.prog = true := by kernel_rfl
theorem prog_ok : ProgOK Try.prog := progOK_of names_ok mixed_ok codes_ok
noncomputable def X0 : Known := tabs [] []
theorem x0_ok (N : Nat) : KnownOK Try.prog [] N X0 := knownOK_of prog_ok (by kernel_rfl) (by simp)
theorem glob_nil {w : World} : GlobOK [] 0 w := by intro g vs h; cases h
theorem r34 : runF Try.prog [] X0 5000 34 [.int .i64 2, .int .i64 6] (isRes ⟨true, [.flat (.agg #[.int .i64 3, .int .i64 8]), .flat (.int .i64 0)]⟩) = true := by kernel_rfl
theorem r44 : runF Try.prog [] X0 5000 44 [.int .i64 2] (isRes ⟨true, [.flat (.agg #[.int .i64 1, .int .i64 4]), .sl [.int .i64 1, .int .i64 3] 3 1 2 2, .flat (.int .i64 0)]⟩) = true := by kernel_rfl
theorem r40 : runF Try.prog [] X0 5000 40 [.int .i64 2, .int .i64 3, .int .i64 8] (isRes ⟨true, [.sl [.int .i64 0, .int .i64 4, .int .i64 2, .int .i64 6, .int .i64 1, .int .i64 5, .int .i64 3, .int .i64 7] 3 1 8 8, .flat (.int .i64 0)]⟩) = true := by kernel_rfl
end Go.Proofs.Ytifbiamfandjnaa
