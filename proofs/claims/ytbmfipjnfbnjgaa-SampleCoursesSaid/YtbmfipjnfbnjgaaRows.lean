/-
  No cell of these rows narrows 'for every input' (looked for: loops, veiled, ifaces, maps, wideKeys, modest, calm, conditions, laid).
  DERIVED. THE GIVEN ROWS OF THIS SEAT. 14 by the template 'for every input the law returns true; each argument reads behind the call as it read before'; 0 by the template 'total and deterministic' (their statements: YtbmfipjnfbnjgaaTotals.lean).
  GIVEN WITH THE SEED: the statements are not yours to turn. If you find one false, say at which input.
  Laid BY PROGRAM, IN A SANDBOX (cutbox-rows.mjs): the forced cells as the released guide's own fill.sh prints them over the translation 15e1a23672fec90a… (all of the seat's roots in one cut). By AI agents, Wed Nov 11 2026. No macro, syntax, notation, axiom, sorry.
-/
import Derived.Test.YtbmfipjnfbnjgaaChecked
import GoSem.Claim
import GoSem.ClaimJoined
import GoSem.ClaimMapViews
import Derived.JoinedTies
import Derived.KernelRfl
namespace Go.Proofs.Ytbmfipjnfbnjgaa
/- THE CELL 'sum', in the pinned program and in every row, IS THE sha256 OF THE DUMP (.gsa) THAT YtbmfipjnfbnjgaaProg.lean LOADS. Nothing in Lean hashes anything: it is a label: what it is worth is what the hold of that sum in a sandbox is worth. -/
noncomputable def Try.pinned : Pinned := { name := "ytbmfipjnfbnjgaa", sum := "15e1a23672fec90a66387d65db00be5caa68c2d07039eb5e3c1b5f08008795bd", checked := Try.checked }
namespace Rows
def none {H : Type} : Left H := { results := [], args := [] }

/-- 'numnahlaw05.SampleSingles': WHATEVER THE INPUT: true; the input reads as it did. -/
def sampleSinglesSpec : ChangeSpec := { name := "sampleSingles", fn := fun _ => fun
  | [d1, d2, d3] => { results := [.lit (.bool true)], args := [d1, d2, d3] }
  | _ => none }
def sampleSinglesRow : OpenClaim := { program := "ytbmfipjnfbnjgaa", sum := "15e1a23672fec90a66387d65db00be5caa68c2d07039eb5e3c1b5f08008795bd", func := "numnah/numnahlaw05.SampleSingles", spec := "sampleSingles", unfollowed := true, recurses := true, apart := false }
def SampleSinglesSaid : Prop := sampleSinglesRow.holds Try.pinned (OpenSpec.ofChange sampleSinglesSpec)

/-- ITS FALSE NEIGHBOUR: 'it returns false'. Refute it at one input. -/
def sampleSinglesWrong : ChangeSpec := { name := "sampleSingles", fn := fun _ => fun
  | [d1, d2, d3] => { results := [.lit (.bool false)], args := [d1, d2, d3] }
  | _ => none }
def SampleSinglesWrongFalsely : Prop := sampleSinglesRow.holds Try.pinned (OpenSpec.ofChange sampleSinglesWrong)

/-- 'numnahlaw05.SampleDoubles': WHATEVER THE INPUT: true; the input reads as it did. -/
def sampleDoublesSpec : ChangeSpec := { name := "sampleDoubles", fn := fun _ => fun
  | [d1, d2, d3] => { results := [.lit (.bool true)], args := [d1, d2, d3] }
  | _ => none }
def sampleDoublesRow : OpenClaim := { program := "ytbmfipjnfbnjgaa", sum := "15e1a23672fec90a66387d65db00be5caa68c2d07039eb5e3c1b5f08008795bd", func := "numnah/numnahlaw05.SampleDoubles", spec := "sampleDoubles", unfollowed := true, recurses := true, apart := false }
def SampleDoublesSaid : Prop := sampleDoublesRow.holds Try.pinned (OpenSpec.ofChange sampleDoublesSpec)

/-- ITS FALSE NEIGHBOUR: 'it returns false'. Refute it at one input. -/
def sampleDoublesWrong : ChangeSpec := { name := "sampleDoubles", fn := fun _ => fun
  | [d1, d2, d3] => { results := [.lit (.bool false)], args := [d1, d2, d3] }
  | _ => none }
def SampleDoublesWrongFalsely : Prop := sampleDoublesRow.holds Try.pinned (OpenSpec.ofChange sampleDoublesWrong)

/-- 'numnahlaw05.SampleCourses': WHATEVER THE INPUT: true; the input reads as it did. -/
def sampleCoursesSpec : ChangeSpec := { name := "sampleCourses", fn := fun _ => fun
  | [d1, d2, d3] => { results := [.lit (.bool true)], args := [d1, d2, d3] }
  | _ => none }
def sampleCoursesRow : OpenClaim := { program := "ytbmfipjnfbnjgaa", sum := "15e1a23672fec90a66387d65db00be5caa68c2d07039eb5e3c1b5f08008795bd", func := "numnah/numnahlaw05.SampleCourses", spec := "sampleCourses", unfollowed := true, recurses := true, apart := false }
def SampleCoursesSaid : Prop := sampleCoursesRow.holds Try.pinned (OpenSpec.ofChange sampleCoursesSpec)

/-- ITS FALSE NEIGHBOUR: 'it returns false'. Refute it at one input. -/
def sampleCoursesWrong : ChangeSpec := { name := "sampleCourses", fn := fun _ => fun
  | [d1, d2, d3] => { results := [.lit (.bool false)], args := [d1, d2, d3] }
  | _ => none }
def SampleCoursesWrongFalsely : Prop := sampleCoursesRow.holds Try.pinned (OpenSpec.ofChange sampleCoursesWrong)

/-- 'numnahlaw05.SamplePlans': WHATEVER THE INPUT: true; the input reads as it did. -/
def samplePlansSpec : ChangeSpec := { name := "samplePlans", fn := fun _ => fun
  | [d1, d2, d3] => { results := [.lit (.bool true)], args := [d1, d2, d3] }
  | _ => none }
def samplePlansRow : OpenClaim := { program := "ytbmfipjnfbnjgaa", sum := "15e1a23672fec90a66387d65db00be5caa68c2d07039eb5e3c1b5f08008795bd", func := "numnah/numnahlaw05.SamplePlans", spec := "samplePlans", unfollowed := true, recurses := true, apart := false }
def SamplePlansSaid : Prop := samplePlansRow.holds Try.pinned (OpenSpec.ofChange samplePlansSpec)

/-- ITS FALSE NEIGHBOUR: 'it returns false'. Refute it at one input. -/
def samplePlansWrong : ChangeSpec := { name := "samplePlans", fn := fun _ => fun
  | [d1, d2, d3] => { results := [.lit (.bool false)], args := [d1, d2, d3] }
  | _ => none }
def SamplePlansWrongFalsely : Prop := samplePlansRow.holds Try.pinned (OpenSpec.ofChange samplePlansWrong)

/-- 'numnahlaw05.SampleCurves': WHATEVER THE INPUT: true; the input reads as it did. -/
def sampleCurvesSpec : ChangeSpec := { name := "sampleCurves", fn := fun _ => fun
  | [d1, d2, d3] => { results := [.lit (.bool true)], args := [d1, d2, d3] }
  | _ => none }
def sampleCurvesRow : OpenClaim := { program := "ytbmfipjnfbnjgaa", sum := "15e1a23672fec90a66387d65db00be5caa68c2d07039eb5e3c1b5f08008795bd", func := "numnah/numnahlaw05.SampleCurves", spec := "sampleCurves", unfollowed := true, recurses := true, apart := false }
def SampleCurvesSaid : Prop := sampleCurvesRow.holds Try.pinned (OpenSpec.ofChange sampleCurvesSpec)

/-- ITS FALSE NEIGHBOUR: 'it returns false'. Refute it at one input. -/
def sampleCurvesWrong : ChangeSpec := { name := "sampleCurves", fn := fun _ => fun
  | [d1, d2, d3] => { results := [.lit (.bool false)], args := [d1, d2, d3] }
  | _ => none }
def SampleCurvesWrongFalsely : Prop := sampleCurvesRow.holds Try.pinned (OpenSpec.ofChange sampleCurvesWrong)

/-- 'numnahlaw05.SampleFalls': WHATEVER THE INPUT: true; the input reads as it did. -/
def sampleFallsSpec : ChangeSpec := { name := "sampleFalls", fn := fun _ => fun
  | [d1, d2] => { results := [.lit (.bool true)], args := [d1, d2] }
  | _ => none }
def sampleFallsRow : OpenClaim := { program := "ytbmfipjnfbnjgaa", sum := "15e1a23672fec90a66387d65db00be5caa68c2d07039eb5e3c1b5f08008795bd", func := "numnah/numnahlaw05.SampleFalls", spec := "sampleFalls", unfollowed := true, recurses := true, apart := false }
def SampleFallsSaid : Prop := sampleFallsRow.holds Try.pinned (OpenSpec.ofChange sampleFallsSpec)

/-- ITS FALSE NEIGHBOUR: 'it returns false'. Refute it at one input. -/
def sampleFallsWrong : ChangeSpec := { name := "sampleFalls", fn := fun _ => fun
  | [d1, d2] => { results := [.lit (.bool false)], args := [d1, d2] }
  | _ => none }
def SampleFallsWrongFalsely : Prop := sampleFallsRow.holds Try.pinned (OpenSpec.ofChange sampleFallsWrong)

/-- 'numnahlaw05.SampleSure': WHATEVER THE INPUT: true; the input reads as it did. -/
def sampleSureSpec : ChangeSpec := { name := "sampleSure", fn := fun _ => fun
  | [d] => { results := [.lit (.bool true)], args := [d] }
  | _ => none }
def sampleSureRow : OpenClaim := { program := "ytbmfipjnfbnjgaa", sum := "15e1a23672fec90a66387d65db00be5caa68c2d07039eb5e3c1b5f08008795bd", func := "numnah/numnahlaw05.SampleSure", spec := "sampleSure", unfollowed := true, recurses := true, apart := false }
def SampleSureSaid : Prop := sampleSureRow.holds Try.pinned (OpenSpec.ofChange sampleSureSpec)

/-- ITS FALSE NEIGHBOUR: 'it returns false'. Refute it at one input. -/
def sampleSureWrong : ChangeSpec := { name := "sampleSure", fn := fun _ => fun
  | [d] => { results := [.lit (.bool false)], args := [d] }
  | _ => none }
def SampleSureWrongFalsely : Prop := sampleSureRow.holds Try.pinned (OpenSpec.ofChange sampleSureWrong)

/-- 'numnahlaw05.SampleAdds': WHATEVER THE INPUT: true; the input reads as it did. -/
def sampleAddsSpec : ChangeSpec := { name := "sampleAdds", fn := fun _ => fun
  | [d1, d2, d3] => { results := [.lit (.bool true)], args := [d1, d2, d3] }
  | _ => none }
def sampleAddsRow : OpenClaim := { program := "ytbmfipjnfbnjgaa", sum := "15e1a23672fec90a66387d65db00be5caa68c2d07039eb5e3c1b5f08008795bd", func := "numnah/numnahlaw05.SampleAdds", spec := "sampleAdds", unfollowed := true, recurses := true, apart := false }
def SampleAddsSaid : Prop := sampleAddsRow.holds Try.pinned (OpenSpec.ofChange sampleAddsSpec)

/-- ITS FALSE NEIGHBOUR: 'it returns false'. Refute it at one input. -/
def sampleAddsWrong : ChangeSpec := { name := "sampleAdds", fn := fun _ => fun
  | [d1, d2, d3] => { results := [.lit (.bool false)], args := [d1, d2, d3] }
  | _ => none }
def SampleAddsWrongFalsely : Prop := sampleAddsRow.holds Try.pinned (OpenSpec.ofChange sampleAddsWrong)

/-- 'numnahlaw05.SampleCurtailed': WHATEVER THE INPUT: true; the input reads as it did. -/
def sampleCurtailedSpec : ChangeSpec := { name := "sampleCurtailed", fn := fun _ => fun
  | [d1, d2] => { results := [.lit (.bool true)], args := [d1, d2] }
  | _ => none }
def sampleCurtailedRow : OpenClaim := { program := "ytbmfipjnfbnjgaa", sum := "15e1a23672fec90a66387d65db00be5caa68c2d07039eb5e3c1b5f08008795bd", func := "numnah/numnahlaw05.SampleCurtailed", spec := "sampleCurtailed", unfollowed := true, recurses := true, apart := false }
def SampleCurtailedSaid : Prop := sampleCurtailedRow.holds Try.pinned (OpenSpec.ofChange sampleCurtailedSpec)

/-- ITS FALSE NEIGHBOUR: 'it returns false'. Refute it at one input. -/
def sampleCurtailedWrong : ChangeSpec := { name := "sampleCurtailed", fn := fun _ => fun
  | [d1, d2] => { results := [.lit (.bool false)], args := [d1, d2] }
  | _ => none }
def SampleCurtailedWrongFalsely : Prop := sampleCurtailedRow.holds Try.pinned (OpenSpec.ofChange sampleCurtailedWrong)

/-- 'numnahlaw05.SampleMerged': WHATEVER THE INPUT: true; the input reads as it did. -/
def sampleMergedSpec : ChangeSpec := { name := "sampleMerged", fn := fun _ => fun
  | [d1, d2] => { results := [.lit (.bool true)], args := [d1, d2] }
  | _ => none }
def sampleMergedRow : OpenClaim := { program := "ytbmfipjnfbnjgaa", sum := "15e1a23672fec90a66387d65db00be5caa68c2d07039eb5e3c1b5f08008795bd", func := "numnah/numnahlaw05.SampleMerged", spec := "sampleMerged", unfollowed := true, recurses := true, apart := false }
def SampleMergedSaid : Prop := sampleMergedRow.holds Try.pinned (OpenSpec.ofChange sampleMergedSpec)

/-- ITS FALSE NEIGHBOUR: 'it returns false'. Refute it at one input. -/
def sampleMergedWrong : ChangeSpec := { name := "sampleMerged", fn := fun _ => fun
  | [d1, d2] => { results := [.lit (.bool false)], args := [d1, d2] }
  | _ => none }
def SampleMergedWrongFalsely : Prop := sampleMergedRow.holds Try.pinned (OpenSpec.ofChange sampleMergedWrong)

/-- 'numnahlaw05.SampleFirst': WHATEVER THE INPUT: true; the input reads as it did. -/
def sampleFirstSpec : ChangeSpec := { name := "sampleFirst", fn := fun _ => fun
  | [d1, d2, d3] => { results := [.lit (.bool true)], args := [d1, d2, d3] }
  | _ => none }
def sampleFirstRow : OpenClaim := { program := "ytbmfipjnfbnjgaa", sum := "15e1a23672fec90a66387d65db00be5caa68c2d07039eb5e3c1b5f08008795bd", func := "numnah/numnahlaw05.SampleFirst", spec := "sampleFirst", unfollowed := true, recurses := true, apart := false }
def SampleFirstSaid : Prop := sampleFirstRow.holds Try.pinned (OpenSpec.ofChange sampleFirstSpec)

/-- ITS FALSE NEIGHBOUR: 'it returns false'. Refute it at one input. -/
def sampleFirstWrong : ChangeSpec := { name := "sampleFirst", fn := fun _ => fun
  | [d1, d2, d3] => { results := [.lit (.bool false)], args := [d1, d2, d3] }
  | _ => none }
def SampleFirstWrongFalsely : Prop := sampleFirstRow.holds Try.pinned (OpenSpec.ofChange sampleFirstWrong)

/-- 'numnahlaw05.SampleRemains': WHATEVER THE INPUT: true; the input reads as it did. -/
def sampleRemainsSpec : ChangeSpec := { name := "sampleRemains", fn := fun _ => fun
  | [d1, d2] => { results := [.lit (.bool true)], args := [d1, d2] }
  | _ => none }
def sampleRemainsRow : OpenClaim := { program := "ytbmfipjnfbnjgaa", sum := "15e1a23672fec90a66387d65db00be5caa68c2d07039eb5e3c1b5f08008795bd", func := "numnah/numnahlaw05.SampleRemains", spec := "sampleRemains", unfollowed := true, recurses := true, apart := false }
def SampleRemainsSaid : Prop := sampleRemainsRow.holds Try.pinned (OpenSpec.ofChange sampleRemainsSpec)

/-- ITS FALSE NEIGHBOUR: 'it returns false'. Refute it at one input. -/
def sampleRemainsWrong : ChangeSpec := { name := "sampleRemains", fn := fun _ => fun
  | [d1, d2] => { results := [.lit (.bool false)], args := [d1, d2] }
  | _ => none }
def SampleRemainsWrongFalsely : Prop := sampleRemainsRow.holds Try.pinned (OpenSpec.ofChange sampleRemainsWrong)

/-- 'numnahlaw05.SamplePascal': WHATEVER THE INPUT: true; the input reads as it did. -/
def samplePascalSpec : ChangeSpec := { name := "samplePascal", fn := fun _ => fun
  | [d1, d2] => { results := [.lit (.bool true)], args := [d1, d2] }
  | _ => none }
def samplePascalRow : OpenClaim := { program := "ytbmfipjnfbnjgaa", sum := "15e1a23672fec90a66387d65db00be5caa68c2d07039eb5e3c1b5f08008795bd", func := "numnah/numnahlaw05.SamplePascal", spec := "samplePascal", unfollowed := true, recurses := true, apart := false }
def SamplePascalSaid : Prop := samplePascalRow.holds Try.pinned (OpenSpec.ofChange samplePascalSpec)

/-- ITS FALSE NEIGHBOUR: 'it returns false'. Refute it at one input. -/
def samplePascalWrong : ChangeSpec := { name := "samplePascal", fn := fun _ => fun
  | [d1, d2] => { results := [.lit (.bool false)], args := [d1, d2] }
  | _ => none }
def SamplePascalWrongFalsely : Prop := samplePascalRow.holds Try.pinned (OpenSpec.ofChange samplePascalWrong)

/-- 'numnahlaw05.SampleOwn': WHATEVER THE INPUT: true; the input reads as it did. -/
def sampleOwnSpec : ChangeSpec := { name := "sampleOwn", fn := fun _ => fun
  | [d1, d2, d3] => { results := [.lit (.bool true)], args := [d1, d2, d3] }
  | _ => none }
def sampleOwnRow : OpenClaim := { program := "ytbmfipjnfbnjgaa", sum := "15e1a23672fec90a66387d65db00be5caa68c2d07039eb5e3c1b5f08008795bd", func := "numnah/numnahlaw05.SampleOwn", spec := "sampleOwn", unfollowed := true, recurses := true, apart := false }
def SampleOwnSaid : Prop := sampleOwnRow.holds Try.pinned (OpenSpec.ofChange sampleOwnSpec)

/-- ITS FALSE NEIGHBOUR: 'it returns false'. Refute it at one input. -/
def sampleOwnWrong : ChangeSpec := { name := "sampleOwn", fn := fun _ => fun
  | [d1, d2, d3] => { results := [.lit (.bool false)], args := [d1, d2, d3] }
  | _ => none }
def SampleOwnWrongFalsely : Prop := sampleOwnRow.holds Try.pinned (OpenSpec.ofChange sampleOwnWrong)

/- THE SECOND FORM. 'bulk': how many values and letters a reading holds, each counted each time it is reached (what is shared counts as often as it is met; a slice's spare places count too). A statement '..UptoSaid' is the law's where the arguments, and the package variables that the reading takes, are together of bulk at most 1048576: NARROWER than '..Said'. Prove '..Said' where nothing that the law and all that it calls make is longer than what came in: it says more and counts as full. Else prove '..UptoSaid'. A law counts once. -/
mutual
def uptoBulk {H : Type} : DataW H → Nat
  | .lit (.string bytes) => bytes.length + 1
  | .lit _ => 1
  | .nil => 1
  | .ptr d => uptoBulk d + 1
  | .slice elems spare => uptoBulkAll elems + uptoBulkAll spare + 1
  | .agg parts => uptoBulkAll parts + 1
  | .iface _ d => uptoBulk d + 1
  | .map entries => uptoBulkEntries entries + 1
  | .held _ => 1
def uptoBulkAll {H : Type} : List (DataW H) → Nat
  | [] => 0
  | d :: r => uptoBulk d + uptoBulkAll r
def uptoBulkEntries {H : Type} : List (Lit × DataW H) → Nat
  | [] => 0
  | x :: r => uptoBulkEntry x + uptoBulkEntries r
def uptoBulkEntry {H : Type} : Lit × DataW H → Nat
  | (.string bytes, d) => bytes.length + uptoBulk d + 1
  | (_, d) => uptoBulk d + 1
 end
def uptoSmall : (H : Type) → List (DataW H) → Bool := fun _ ds => decide (uptoBulkAll ds ≤ 1048576)
def OpenSpec.upto (s : _root_.Go.ChangeSpec) : _root_.Go.OpenSpec := { _root_.Go.OpenSpec.ofChange s with cond := some uptoSmall }

/-- 'numnahlaw05.SampleSingles', WHERE WHAT IT READS IS OF BULK AT MOST 1048576: true; the input reads as it did. -/
def sampleSinglesUptoRow : OpenClaim := { program := "ytbmfipjnfbnjgaa", sum := "15e1a23672fec90a66387d65db00be5caa68c2d07039eb5e3c1b5f08008795bd", func := "numnah/numnahlaw05.SampleSingles", spec := "sampleSingles", unfollowed := true, recurses := true, apart := false, narrowed := true }
def SampleSinglesUptoSaid : Prop := sampleSinglesUptoRow.holds Try.pinned (OpenSpec.upto sampleSinglesSpec)

/-- 'numnahlaw05.SampleDoubles', WHERE WHAT IT READS IS OF BULK AT MOST 1048576: true; the input reads as it did. -/
def sampleDoublesUptoRow : OpenClaim := { program := "ytbmfipjnfbnjgaa", sum := "15e1a23672fec90a66387d65db00be5caa68c2d07039eb5e3c1b5f08008795bd", func := "numnah/numnahlaw05.SampleDoubles", spec := "sampleDoubles", unfollowed := true, recurses := true, apart := false, narrowed := true }
def SampleDoublesUptoSaid : Prop := sampleDoublesUptoRow.holds Try.pinned (OpenSpec.upto sampleDoublesSpec)

/-- 'numnahlaw05.SampleCourses', WHERE WHAT IT READS IS OF BULK AT MOST 1048576: true; the input reads as it did. -/
def sampleCoursesUptoRow : OpenClaim := { program := "ytbmfipjnfbnjgaa", sum := "15e1a23672fec90a66387d65db00be5caa68c2d07039eb5e3c1b5f08008795bd", func := "numnah/numnahlaw05.SampleCourses", spec := "sampleCourses", unfollowed := true, recurses := true, apart := false, narrowed := true }
def SampleCoursesUptoSaid : Prop := sampleCoursesUptoRow.holds Try.pinned (OpenSpec.upto sampleCoursesSpec)

/-- 'numnahlaw05.SamplePlans', WHERE WHAT IT READS IS OF BULK AT MOST 1048576: true; the input reads as it did. -/
def samplePlansUptoRow : OpenClaim := { program := "ytbmfipjnfbnjgaa", sum := "15e1a23672fec90a66387d65db00be5caa68c2d07039eb5e3c1b5f08008795bd", func := "numnah/numnahlaw05.SamplePlans", spec := "samplePlans", unfollowed := true, recurses := true, apart := false, narrowed := true }
def SamplePlansUptoSaid : Prop := samplePlansUptoRow.holds Try.pinned (OpenSpec.upto samplePlansSpec)

/-- 'numnahlaw05.SampleCurves', WHERE WHAT IT READS IS OF BULK AT MOST 1048576: true; the input reads as it did. -/
def sampleCurvesUptoRow : OpenClaim := { program := "ytbmfipjnfbnjgaa", sum := "15e1a23672fec90a66387d65db00be5caa68c2d07039eb5e3c1b5f08008795bd", func := "numnah/numnahlaw05.SampleCurves", spec := "sampleCurves", unfollowed := true, recurses := true, apart := false, narrowed := true }
def SampleCurvesUptoSaid : Prop := sampleCurvesUptoRow.holds Try.pinned (OpenSpec.upto sampleCurvesSpec)

/-- 'numnahlaw05.SampleFalls', WHERE WHAT IT READS IS OF BULK AT MOST 1048576: true; the input reads as it did. -/
def sampleFallsUptoRow : OpenClaim := { program := "ytbmfipjnfbnjgaa", sum := "15e1a23672fec90a66387d65db00be5caa68c2d07039eb5e3c1b5f08008795bd", func := "numnah/numnahlaw05.SampleFalls", spec := "sampleFalls", unfollowed := true, recurses := true, apart := false, narrowed := true }
def SampleFallsUptoSaid : Prop := sampleFallsUptoRow.holds Try.pinned (OpenSpec.upto sampleFallsSpec)

/-- 'numnahlaw05.SampleSure', WHERE WHAT IT READS IS OF BULK AT MOST 1048576: true; the input reads as it did. -/
def sampleSureUptoRow : OpenClaim := { program := "ytbmfipjnfbnjgaa", sum := "15e1a23672fec90a66387d65db00be5caa68c2d07039eb5e3c1b5f08008795bd", func := "numnah/numnahlaw05.SampleSure", spec := "sampleSure", unfollowed := true, recurses := true, apart := false, narrowed := true }
def SampleSureUptoSaid : Prop := sampleSureUptoRow.holds Try.pinned (OpenSpec.upto sampleSureSpec)

/-- 'numnahlaw05.SampleAdds', WHERE WHAT IT READS IS OF BULK AT MOST 1048576: true; the input reads as it did. -/
def sampleAddsUptoRow : OpenClaim := { program := "ytbmfipjnfbnjgaa", sum := "15e1a23672fec90a66387d65db00be5caa68c2d07039eb5e3c1b5f08008795bd", func := "numnah/numnahlaw05.SampleAdds", spec := "sampleAdds", unfollowed := true, recurses := true, apart := false, narrowed := true }
def SampleAddsUptoSaid : Prop := sampleAddsUptoRow.holds Try.pinned (OpenSpec.upto sampleAddsSpec)

/-- 'numnahlaw05.SampleCurtailed', WHERE WHAT IT READS IS OF BULK AT MOST 1048576: true; the input reads as it did. -/
def sampleCurtailedUptoRow : OpenClaim := { program := "ytbmfipjnfbnjgaa", sum := "15e1a23672fec90a66387d65db00be5caa68c2d07039eb5e3c1b5f08008795bd", func := "numnah/numnahlaw05.SampleCurtailed", spec := "sampleCurtailed", unfollowed := true, recurses := true, apart := false, narrowed := true }
def SampleCurtailedUptoSaid : Prop := sampleCurtailedUptoRow.holds Try.pinned (OpenSpec.upto sampleCurtailedSpec)

/-- 'numnahlaw05.SampleMerged', WHERE WHAT IT READS IS OF BULK AT MOST 1048576: true; the input reads as it did. -/
def sampleMergedUptoRow : OpenClaim := { program := "ytbmfipjnfbnjgaa", sum := "15e1a23672fec90a66387d65db00be5caa68c2d07039eb5e3c1b5f08008795bd", func := "numnah/numnahlaw05.SampleMerged", spec := "sampleMerged", unfollowed := true, recurses := true, apart := false, narrowed := true }
def SampleMergedUptoSaid : Prop := sampleMergedUptoRow.holds Try.pinned (OpenSpec.upto sampleMergedSpec)

/-- 'numnahlaw05.SampleFirst', WHERE WHAT IT READS IS OF BULK AT MOST 1048576: true; the input reads as it did. -/
def sampleFirstUptoRow : OpenClaim := { program := "ytbmfipjnfbnjgaa", sum := "15e1a23672fec90a66387d65db00be5caa68c2d07039eb5e3c1b5f08008795bd", func := "numnah/numnahlaw05.SampleFirst", spec := "sampleFirst", unfollowed := true, recurses := true, apart := false, narrowed := true }
def SampleFirstUptoSaid : Prop := sampleFirstUptoRow.holds Try.pinned (OpenSpec.upto sampleFirstSpec)

/-- 'numnahlaw05.SampleRemains', WHERE WHAT IT READS IS OF BULK AT MOST 1048576: true; the input reads as it did. -/
def sampleRemainsUptoRow : OpenClaim := { program := "ytbmfipjnfbnjgaa", sum := "15e1a23672fec90a66387d65db00be5caa68c2d07039eb5e3c1b5f08008795bd", func := "numnah/numnahlaw05.SampleRemains", spec := "sampleRemains", unfollowed := true, recurses := true, apart := false, narrowed := true }
def SampleRemainsUptoSaid : Prop := sampleRemainsUptoRow.holds Try.pinned (OpenSpec.upto sampleRemainsSpec)

/-- 'numnahlaw05.SamplePascal', WHERE WHAT IT READS IS OF BULK AT MOST 1048576: true; the input reads as it did. -/
def samplePascalUptoRow : OpenClaim := { program := "ytbmfipjnfbnjgaa", sum := "15e1a23672fec90a66387d65db00be5caa68c2d07039eb5e3c1b5f08008795bd", func := "numnah/numnahlaw05.SamplePascal", spec := "samplePascal", unfollowed := true, recurses := true, apart := false, narrowed := true }
def SamplePascalUptoSaid : Prop := samplePascalUptoRow.holds Try.pinned (OpenSpec.upto samplePascalSpec)

/-- 'numnahlaw05.SampleOwn', WHERE WHAT IT READS IS OF BULK AT MOST 1048576: true; the input reads as it did. -/
def sampleOwnUptoRow : OpenClaim := { program := "ytbmfipjnfbnjgaa", sum := "15e1a23672fec90a66387d65db00be5caa68c2d07039eb5e3c1b5f08008795bd", func := "numnah/numnahlaw05.SampleOwn", spec := "sampleOwn", unfollowed := true, recurses := true, apart := false, narrowed := true }
def SampleOwnUptoSaid : Prop := sampleOwnUptoRow.holds Try.pinned (OpenSpec.upto sampleOwnSpec)

end Rows
end Go.Proofs.Ytbmfipjnfbnjgaa
