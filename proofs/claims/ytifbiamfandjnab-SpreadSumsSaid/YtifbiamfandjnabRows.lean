/-
  No cell of these rows narrows 'for every input' (looked for: loops, veiled, ifaces, maps, wideKeys, modest, calm, conditions, laid).
  DERIVED. THE GIVEN ROWS OF THIS SEAT. 3 by the template 'for every input the law returns true; each argument reads behind the call as it read before'; 0 by the template 'total and deterministic' (their statements: YtifbiamfandjnabTotals.lean).
  GIVEN WITH THE SEED: the statements are not yours to turn. If you find one false, say at which input.
  Laid BY PROGRAM, IN A SANDBOX (cutbox-rows.mjs): the forced cells as the released guide's own fill.sh prints them over the translation 8d1dda0dc183b1d1… (all of the seat's roots in one cut). By AI agents, Wed Nov 11 2026. No macro, syntax, notation, axiom, sorry.
-/
import Derived.Test.YtifbiamfandjnabChecked
import GoSem.Claim
import GoSem.ClaimJoined
import GoSem.ClaimMapViews
import Derived.JoinedTies
import Derived.KernelRfl
namespace Go.Proofs.Ytifbiamfandjnab
/- THE CELL 'sum', in the pinned program and in every row, IS THE sha256 OF THE DUMP (.gsa) THAT YtifbiamfandjnabProg.lean LOADS. Nothing in Lean hashes anything: it is a label: what it is worth is what the hold of that sum in a sandbox is worth. -/
noncomputable def Try.pinned : Pinned := { name := "ytifbiamfandjnab", sum := "8d1dda0dc183b1d1370936839751c05211beeea586edf674720b4c31f57e2fe3", checked := Try.checked }
namespace Rows
def none {H : Type} : Left H := { results := [], args := [] }

/-- 'numnahlaw03.SpreadMoved': WHATEVER THE INPUT: true; the input reads as it did. -/
def spreadMovedSpec : ChangeSpec := { name := "spreadMoved", fn := fun _ => fun
  | [d1, d2, d3] => { results := [.lit (.bool true)], args := [d1, d2, d3] }
  | _ => none }
def spreadMovedRow : OpenClaim := { program := "ytifbiamfandjnab", sum := "8d1dda0dc183b1d1370936839751c05211beeea586edf674720b4c31f57e2fe3", func := "numnah/numnahlaw03.SpreadMoved", spec := "spreadMoved", unfollowed := true, recurses := true, plainKeys := false, apart := false }
def SpreadMovedSaid : Prop := spreadMovedRow.holds Try.pinned (OpenSpec.ofChange spreadMovedSpec)

/-- ITS FALSE NEIGHBOUR: 'it returns false'. Refute it at one input. -/
def spreadMovedWrong : ChangeSpec := { name := "spreadMoved", fn := fun _ => fun
  | [d1, d2, d3] => { results := [.lit (.bool false)], args := [d1, d2, d3] }
  | _ => none }
def SpreadMovedWrongFalsely : Prop := spreadMovedRow.holds Try.pinned (OpenSpec.ofChange spreadMovedWrong)

/-- 'numnahlaw03.SpreadSums': WHATEVER THE INPUT: true; the input reads as it did. -/
def spreadSumsSpec : ChangeSpec := { name := "spreadSums", fn := fun _ => fun
  | [d] => { results := [.lit (.bool true)], args := [d] }
  | _ => none }
def spreadSumsRow : OpenClaim := { program := "ytifbiamfandjnab", sum := "8d1dda0dc183b1d1370936839751c05211beeea586edf674720b4c31f57e2fe3", func := "numnah/numnahlaw03.SpreadSums", spec := "spreadSums", unfollowed := true, recurses := true, plainKeys := false, apart := false }
def SpreadSumsSaid : Prop := spreadSumsRow.holds Try.pinned (OpenSpec.ofChange spreadSumsSpec)

/-- ITS FALSE NEIGHBOUR: 'it returns false'. Refute it at one input. -/
def spreadSumsWrong : ChangeSpec := { name := "spreadSums", fn := fun _ => fun
  | [d] => { results := [.lit (.bool false)], args := [d] }
  | _ => none }
def SpreadSumsWrongFalsely : Prop := spreadSumsRow.holds Try.pinned (OpenSpec.ofChange spreadSumsWrong)

/-- 'numnahlaw03.SpreadOwn': WHATEVER THE INPUT: true; the input reads as it did. -/
def spreadOwnSpec : ChangeSpec := { name := "spreadOwn", fn := fun _ => fun
  | [d1, d2, d3] => { results := [.lit (.bool true)], args := [d1, d2, d3] }
  | _ => none }
def spreadOwnRow : OpenClaim := { program := "ytifbiamfandjnab", sum := "8d1dda0dc183b1d1370936839751c05211beeea586edf674720b4c31f57e2fe3", func := "numnah/numnahlaw03.SpreadOwn", spec := "spreadOwn", unfollowed := true, recurses := true, plainKeys := false, apart := false }
def SpreadOwnSaid : Prop := spreadOwnRow.holds Try.pinned (OpenSpec.ofChange spreadOwnSpec)

/-- ITS FALSE NEIGHBOUR: 'it returns false'. Refute it at one input. -/
def spreadOwnWrong : ChangeSpec := { name := "spreadOwn", fn := fun _ => fun
  | [d1, d2, d3] => { results := [.lit (.bool false)], args := [d1, d2, d3] }
  | _ => none }
def SpreadOwnWrongFalsely : Prop := spreadOwnRow.holds Try.pinned (OpenSpec.ofChange spreadOwnWrong)

/- THE SECOND FORM. 'bulk': how many values and letters a reading holds, each counted each time it is reached (what is shared counts as often as it is met; a slice's spare places count too). A statement '..UptoSaid' is the law's where the arguments, and the package variables that the reading takes, are together of bulk at most 1048576: NARROWER than '..Said'. Prove '..Said' where nothing that the law and all that it calls make is longer than what came in: it says more and counts as full. Else prove '..UptoSaid'. A law counts once. -/
mutual
def uptoBulk {H : Type} : DataW H → Nat
  | .lit (.string bytes) => bytes.length + 1
  | .lit _ => 1
  | .nil => 1
  | .ptr d => uptoBulk d + 1
  | .slice elems spare => uptoBulkAll elems + uptoBulkAll spare + 1
  | .agg parts => uptoBulkAll parts + 1
  | .iface _ d => uptoBulk d + 1
  | .map entries => uptoBulkEntries entries + 1
  | .held _ => 1
def uptoBulkAll {H : Type} : List (DataW H) → Nat
  | [] => 0
  | d :: r => uptoBulk d + uptoBulkAll r
def uptoBulkEntries {H : Type} : List (Lit × DataW H) → Nat
  | [] => 0
  | x :: r => uptoBulkEntry x + uptoBulkEntries r
def uptoBulkEntry {H : Type} : Lit × DataW H → Nat
  | (.string bytes, d) => bytes.length + uptoBulk d + 1
  | (_, d) => uptoBulk d + 1
 end
def uptoSmall : (H : Type) → List (DataW H) → Bool := fun _ ds => decide (uptoBulkAll ds ≤ 1048576)
def OpenSpec.upto (s : _root_.Go.ChangeSpec) : _root_.Go.OpenSpec := { _root_.Go.OpenSpec.ofChange s with cond := some uptoSmall }

/-- 'numnahlaw03.SpreadMoved', WHERE WHAT IT READS IS OF BULK AT MOST 1048576: true; the input reads as it did. -/
def spreadMovedUptoRow : OpenClaim := { program := "ytifbiamfandjnab", sum := "8d1dda0dc183b1d1370936839751c05211beeea586edf674720b4c31f57e2fe3", func := "numnah/numnahlaw03.SpreadMoved", spec := "spreadMoved", unfollowed := true, recurses := true, plainKeys := false, apart := false, narrowed := true }
def SpreadMovedUptoSaid : Prop := spreadMovedUptoRow.holds Try.pinned (OpenSpec.upto spreadMovedSpec)

/-- 'numnahlaw03.SpreadSums', WHERE WHAT IT READS IS OF BULK AT MOST 1048576: true; the input reads as it did. -/
def spreadSumsUptoRow : OpenClaim := { program := "ytifbiamfandjnab", sum := "8d1dda0dc183b1d1370936839751c05211beeea586edf674720b4c31f57e2fe3", func := "numnah/numnahlaw03.SpreadSums", spec := "spreadSums", unfollowed := true, recurses := true, plainKeys := false, apart := false, narrowed := true }
def SpreadSumsUptoSaid : Prop := spreadSumsUptoRow.holds Try.pinned (OpenSpec.upto spreadSumsSpec)

/-- 'numnahlaw03.SpreadOwn', WHERE WHAT IT READS IS OF BULK AT MOST 1048576: true; the input reads as it did. -/
def spreadOwnUptoRow : OpenClaim := { program := "ytifbiamfandjnab", sum := "8d1dda0dc183b1d1370936839751c05211beeea586edf674720b4c31f57e2fe3", func := "numnah/numnahlaw03.SpreadOwn", spec := "spreadOwn", unfollowed := true, recurses := true, plainKeys := false, apart := false, narrowed := true }
def SpreadOwnUptoSaid : Prop := spreadOwnUptoRow.holds Try.pinned (OpenSpec.upto spreadOwnSpec)

end Rows
end Go.Proofs.Ytifbiamfandjnab
