/-
  No cell of these rows narrows 'for every input' (looked for: loops, veiled, ifaces, maps, wideKeys, modest, calm, conditions, laid).
  DERIVED. THE GIVEN ROWS OF THIS SEAT. 14 by the template 'for every input the law returns true; each argument reads behind the call as it read before'; 0 by the template 'total and deterministic' (their statements: YteekigpdiklppaaTotals.lean).
  GIVEN WITH THE SEED: the statements are not yours to turn. If you find one false, say at which input.
  Laid BY PROGRAM, IN A SANDBOX (cutbox-rows.mjs): the forced cells as the released guide's own fill.sh prints them over the translation 87f05e999a345178… (all of the seat's roots in one cut). By AI agents, Wed Nov 11 2026. No macro, syntax, notation, axiom, sorry.
-/
import Derived.Test.YteekigpdiklppaaChecked
import GoSem.Claim
import GoSem.ClaimJoined
import GoSem.ClaimMapViews
import Derived.JoinedTies
import Derived.KernelRfl
namespace Go.Proofs.Yteekigpdiklppaa
/- THE CELL 'sum', in the pinned program and in every row, IS THE sha256 OF THE DUMP (.gsa) THAT YteekigpdiklppaaProg.lean LOADS. Nothing in Lean hashes anything: it is a label: what it is worth is what the hold of that sum in a sandbox is worth. -/
noncomputable def Try.pinned : Pinned := { name := "yteekigpdiklppaa", sum := "87f05e999a345178be3f151c71e0c2da3f0cdf93a0b6aab57c5688f84f7851b9", checked := Try.checked }
namespace Rows
def none {H : Type} : Left H := { results := [], args := [] }

/-- 'numnahlaw06.WettingCloses': WHATEVER THE INPUT: true; the input reads as it did. -/
def wettingClosesSpec : ChangeSpec := { name := "wettingCloses", fn := fun _ => fun
  | [d1, d2, d3] => { results := [.lit (.bool true)], args := [d1, d2, d3] }
  | _ => none }
def wettingClosesRow : OpenClaim := { program := "yteekigpdiklppaa", sum := "87f05e999a345178be3f151c71e0c2da3f0cdf93a0b6aab57c5688f84f7851b9", func := "numnah/numnahlaw06.WettingCloses", spec := "wettingCloses", unfollowed := true, recurses := true, plainKeys := false, apart := false }
def WettingClosesSaid : Prop := wettingClosesRow.holds Try.pinned (OpenSpec.ofChange wettingClosesSpec)

/-- ITS FALSE NEIGHBOUR: 'it returns false'. Refute it at one input. -/
def wettingClosesWrong : ChangeSpec := { name := "wettingCloses", fn := fun _ => fun
  | [d1, d2, d3] => { results := [.lit (.bool false)], args := [d1, d2, d3] }
  | _ => none }
def WettingClosesWrongFalsely : Prop := wettingClosesRow.holds Try.pinned (OpenSpec.ofChange wettingClosesWrong)

/-- 'numnahlaw06.WettingSoaks': WHATEVER THE INPUT: true; the input reads as it did. -/
def wettingSoaksSpec : ChangeSpec := { name := "wettingSoaks", fn := fun _ => fun
  | [d1, d2, d3] => { results := [.lit (.bool true)], args := [d1, d2, d3] }
  | _ => none }
def wettingSoaksRow : OpenClaim := { program := "yteekigpdiklppaa", sum := "87f05e999a345178be3f151c71e0c2da3f0cdf93a0b6aab57c5688f84f7851b9", func := "numnah/numnahlaw06.WettingSoaks", spec := "wettingSoaks", unfollowed := true, recurses := true, plainKeys := false, apart := false }
def WettingSoaksSaid : Prop := wettingSoaksRow.holds Try.pinned (OpenSpec.ofChange wettingSoaksSpec)

/-- ITS FALSE NEIGHBOUR: 'it returns false'. Refute it at one input. -/
def wettingSoaksWrong : ChangeSpec := { name := "wettingSoaks", fn := fun _ => fun
  | [d1, d2, d3] => { results := [.lit (.bool false)], args := [d1, d2, d3] }
  | _ => none }
def WettingSoaksWrongFalsely : Prop := wettingSoaksRow.holds Try.pinned (OpenSpec.ofChange wettingSoaksWrong)

/-- 'numnahlaw06.WettingLeasts': WHATEVER THE INPUT: true; the input reads as it did. -/
def wettingLeastsSpec : ChangeSpec := { name := "wettingLeasts", fn := fun _ => fun
  | [d1, d2] => { results := [.lit (.bool true)], args := [d1, d2] }
  | _ => none }
def wettingLeastsRow : OpenClaim := { program := "yteekigpdiklppaa", sum := "87f05e999a345178be3f151c71e0c2da3f0cdf93a0b6aab57c5688f84f7851b9", func := "numnah/numnahlaw06.WettingLeasts", spec := "wettingLeasts", unfollowed := true, recurses := true, plainKeys := false, apart := false }
def WettingLeastsSaid : Prop := wettingLeastsRow.holds Try.pinned (OpenSpec.ofChange wettingLeastsSpec)

/-- ITS FALSE NEIGHBOUR: 'it returns false'. Refute it at one input. -/
def wettingLeastsWrong : ChangeSpec := { name := "wettingLeasts", fn := fun _ => fun
  | [d1, d2] => { results := [.lit (.bool false)], args := [d1, d2] }
  | _ => none }
def WettingLeastsWrongFalsely : Prop := wettingLeastsRow.holds Try.pinned (OpenSpec.ofChange wettingLeastsWrong)

/-- 'numnahlaw06.WettingFewests': WHATEVER THE INPUT: true; the input reads as it did. -/
def wettingFewestsSpec : ChangeSpec := { name := "wettingFewests", fn := fun _ => fun
  | [d1, d2, d3] => { results := [.lit (.bool true)], args := [d1, d2, d3] }
  | _ => none }
def wettingFewestsRow : OpenClaim := { program := "yteekigpdiklppaa", sum := "87f05e999a345178be3f151c71e0c2da3f0cdf93a0b6aab57c5688f84f7851b9", func := "numnah/numnahlaw06.WettingFewests", spec := "wettingFewests", unfollowed := true, recurses := true, plainKeys := false, apart := false }
def WettingFewestsSaid : Prop := wettingFewestsRow.holds Try.pinned (OpenSpec.ofChange wettingFewestsSpec)

/-- ITS FALSE NEIGHBOUR: 'it returns false'. Refute it at one input. -/
def wettingFewestsWrong : ChangeSpec := { name := "wettingFewests", fn := fun _ => fun
  | [d1, d2, d3] => { results := [.lit (.bool false)], args := [d1, d2, d3] }
  | _ => none }
def WettingFewestsWrongFalsely : Prop := wettingFewestsRow.holds Try.pinned (OpenSpec.ofChange wettingFewestsWrong)

/-- 'numnahlaw06.WettingChronicles': WHATEVER THE INPUT: true; the input reads as it did. -/
def wettingChroniclesSpec : ChangeSpec := { name := "wettingChronicles", fn := fun _ => fun
  | [d1, d2, d3] => { results := [.lit (.bool true)], args := [d1, d2, d3] }
  | _ => none }
def wettingChroniclesRow : OpenClaim := { program := "yteekigpdiklppaa", sum := "87f05e999a345178be3f151c71e0c2da3f0cdf93a0b6aab57c5688f84f7851b9", func := "numnah/numnahlaw06.WettingChronicles", spec := "wettingChronicles", unfollowed := true, recurses := true, plainKeys := false, apart := false }
def WettingChroniclesSaid : Prop := wettingChroniclesRow.holds Try.pinned (OpenSpec.ofChange wettingChroniclesSpec)

/-- ITS FALSE NEIGHBOUR: 'it returns false'. Refute it at one input. -/
def wettingChroniclesWrong : ChangeSpec := { name := "wettingChronicles", fn := fun _ => fun
  | [d1, d2, d3] => { results := [.lit (.bool false)], args := [d1, d2, d3] }
  | _ => none }
def WettingChroniclesWrongFalsely : Prop := wettingChroniclesRow.holds Try.pinned (OpenSpec.ofChange wettingChroniclesWrong)

/-- 'numnahlaw06.WettingChecks': WHATEVER THE INPUT: true; the input reads as it did. -/
def wettingChecksSpec : ChangeSpec := { name := "wettingChecks", fn := fun _ => fun
  | [d1, d2, d3] => { results := [.lit (.bool true)], args := [d1, d2, d3] }
  | _ => none }
def wettingChecksRow : OpenClaim := { program := "yteekigpdiklppaa", sum := "87f05e999a345178be3f151c71e0c2da3f0cdf93a0b6aab57c5688f84f7851b9", func := "numnah/numnahlaw06.WettingChecks", spec := "wettingChecks", unfollowed := true, recurses := true, plainKeys := false, apart := false }
def WettingChecksSaid : Prop := wettingChecksRow.holds Try.pinned (OpenSpec.ofChange wettingChecksSpec)

/-- ITS FALSE NEIGHBOUR: 'it returns false'. Refute it at one input. -/
def wettingChecksWrong : ChangeSpec := { name := "wettingChecks", fn := fun _ => fun
  | [d1, d2, d3] => { results := [.lit (.bool false)], args := [d1, d2, d3] }
  | _ => none }
def WettingChecksWrongFalsely : Prop := wettingChecksRow.holds Try.pinned (OpenSpec.ofChange wettingChecksWrong)

/-- 'numnahlaw06.WettingHits': WHATEVER THE INPUT: true; the input reads as it did. -/
def wettingHitsSpec : ChangeSpec := { name := "wettingHits", fn := fun _ => fun
  | [d1, d2, d3] => { results := [.lit (.bool true)], args := [d1, d2, d3] }
  | _ => none }
def wettingHitsRow : OpenClaim := { program := "yteekigpdiklppaa", sum := "87f05e999a345178be3f151c71e0c2da3f0cdf93a0b6aab57c5688f84f7851b9", func := "numnah/numnahlaw06.WettingHits", spec := "wettingHits", unfollowed := true, recurses := true, plainKeys := false, apart := false }
def WettingHitsSaid : Prop := wettingHitsRow.holds Try.pinned (OpenSpec.ofChange wettingHitsSpec)

/-- ITS FALSE NEIGHBOUR: 'it returns false'. Refute it at one input. -/
def wettingHitsWrong : ChangeSpec := { name := "wettingHits", fn := fun _ => fun
  | [d1, d2, d3] => { results := [.lit (.bool false)], args := [d1, d2, d3] }
  | _ => none }
def WettingHitsWrongFalsely : Prop := wettingHitsRow.holds Try.pinned (OpenSpec.ofChange wettingHitsWrong)

/-- 'numnahlaw06.WettingGrows': WHATEVER THE INPUT: true; the input reads as it did. -/
def wettingGrowsSpec : ChangeSpec := { name := "wettingGrows", fn := fun _ => fun
  | [d1, d2, d3] => { results := [.lit (.bool true)], args := [d1, d2, d3] }
  | _ => none }
def wettingGrowsRow : OpenClaim := { program := "yteekigpdiklppaa", sum := "87f05e999a345178be3f151c71e0c2da3f0cdf93a0b6aab57c5688f84f7851b9", func := "numnah/numnahlaw06.WettingGrows", spec := "wettingGrows", unfollowed := true, recurses := true, plainKeys := false, apart := false }
def WettingGrowsSaid : Prop := wettingGrowsRow.holds Try.pinned (OpenSpec.ofChange wettingGrowsSpec)

/-- ITS FALSE NEIGHBOUR: 'it returns false'. Refute it at one input. -/
def wettingGrowsWrong : ChangeSpec := { name := "wettingGrows", fn := fun _ => fun
  | [d1, d2, d3] => { results := [.lit (.bool false)], args := [d1, d2, d3] }
  | _ => none }
def WettingGrowsWrongFalsely : Prop := wettingGrowsRow.holds Try.pinned (OpenSpec.ofChange wettingGrowsWrong)

/-- 'numnahlaw06.WettingChained': WHATEVER THE INPUT: true; the input reads as it did. -/
def wettingChainedSpec : ChangeSpec := { name := "wettingChained", fn := fun _ => fun
  | [d1, d2, d3] => { results := [.lit (.bool true)], args := [d1, d2, d3] }
  | _ => none }
def wettingChainedRow : OpenClaim := { program := "yteekigpdiklppaa", sum := "87f05e999a345178be3f151c71e0c2da3f0cdf93a0b6aab57c5688f84f7851b9", func := "numnah/numnahlaw06.WettingChained", spec := "wettingChained", unfollowed := true, recurses := true, plainKeys := false, apart := false }
def WettingChainedSaid : Prop := wettingChainedRow.holds Try.pinned (OpenSpec.ofChange wettingChainedSpec)

/-- ITS FALSE NEIGHBOUR: 'it returns false'. Refute it at one input. -/
def wettingChainedWrong : ChangeSpec := { name := "wettingChained", fn := fun _ => fun
  | [d1, d2, d3] => { results := [.lit (.bool false)], args := [d1, d2, d3] }
  | _ => none }
def WettingChainedWrongFalsely : Prop := wettingChainedRow.holds Try.pinned (OpenSpec.ofChange wettingChainedWrong)

/-- 'numnahlaw06.WettingOrders': WHATEVER THE INPUT: true; the input reads as it did. -/
def wettingOrdersSpec : ChangeSpec := { name := "wettingOrders", fn := fun _ => fun
  | [d1, d2, d3] => { results := [.lit (.bool true)], args := [d1, d2, d3] }
  | _ => none }
def wettingOrdersRow : OpenClaim := { program := "yteekigpdiklppaa", sum := "87f05e999a345178be3f151c71e0c2da3f0cdf93a0b6aab57c5688f84f7851b9", func := "numnah/numnahlaw06.WettingOrders", spec := "wettingOrders", unfollowed := true, recurses := true, plainKeys := false, apart := false }
def WettingOrdersSaid : Prop := wettingOrdersRow.holds Try.pinned (OpenSpec.ofChange wettingOrdersSpec)

/-- ITS FALSE NEIGHBOUR: 'it returns false'. Refute it at one input. -/
def wettingOrdersWrong : ChangeSpec := { name := "wettingOrders", fn := fun _ => fun
  | [d1, d2, d3] => { results := [.lit (.bool false)], args := [d1, d2, d3] }
  | _ => none }
def WettingOrdersWrongFalsely : Prop := wettingOrdersRow.holds Try.pinned (OpenSpec.ofChange wettingOrdersWrong)

/-- 'numnahlaw06.WettingThresholds': WHATEVER THE INPUT: true; the input reads as it did. -/
def wettingThresholdsSpec : ChangeSpec := { name := "wettingThresholds", fn := fun _ => fun
  | [d1, d2, d3] => { results := [.lit (.bool true)], args := [d1, d2, d3] }
  | _ => none }
def wettingThresholdsRow : OpenClaim := { program := "yteekigpdiklppaa", sum := "87f05e999a345178be3f151c71e0c2da3f0cdf93a0b6aab57c5688f84f7851b9", func := "numnah/numnahlaw06.WettingThresholds", spec := "wettingThresholds", unfollowed := true, recurses := true, plainKeys := false, apart := false }
def WettingThresholdsSaid : Prop := wettingThresholdsRow.holds Try.pinned (OpenSpec.ofChange wettingThresholdsSpec)

/-- ITS FALSE NEIGHBOUR: 'it returns false'. Refute it at one input. -/
def wettingThresholdsWrong : ChangeSpec := { name := "wettingThresholds", fn := fun _ => fun
  | [d1, d2, d3] => { results := [.lit (.bool false)], args := [d1, d2, d3] }
  | _ => none }
def WettingThresholdsWrongFalsely : Prop := wettingThresholdsRow.holds Try.pinned (OpenSpec.ofChange wettingThresholdsWrong)

/-- 'numnahlaw06.WettingRenamed': WHATEVER THE INPUT: true; the input reads as it did. -/
def wettingRenamedSpec : ChangeSpec := { name := "wettingRenamed", fn := fun _ => fun
  | [d1, d2, d3] => { results := [.lit (.bool true)], args := [d1, d2, d3] }
  | _ => none }
def wettingRenamedRow : OpenClaim := { program := "yteekigpdiklppaa", sum := "87f05e999a345178be3f151c71e0c2da3f0cdf93a0b6aab57c5688f84f7851b9", func := "numnah/numnahlaw06.WettingRenamed", spec := "wettingRenamed", unfollowed := true, recurses := true, plainKeys := false, apart := false }
def WettingRenamedSaid : Prop := wettingRenamedRow.holds Try.pinned (OpenSpec.ofChange wettingRenamedSpec)

/-- ITS FALSE NEIGHBOUR: 'it returns false'. Refute it at one input. -/
def wettingRenamedWrong : ChangeSpec := { name := "wettingRenamed", fn := fun _ => fun
  | [d1, d2, d3] => { results := [.lit (.bool false)], args := [d1, d2, d3] }
  | _ => none }
def WettingRenamedWrongFalsely : Prop := wettingRenamedRow.holds Try.pinned (OpenSpec.ofChange wettingRenamedWrong)

/-- 'numnahlaw06.WettingUnions': WHATEVER THE INPUT: true; the input reads as it did. -/
def wettingUnionsSpec : ChangeSpec := { name := "wettingUnions", fn := fun _ => fun
  | [d1, d2, d3] => { results := [.lit (.bool true)], args := [d1, d2, d3] }
  | _ => none }
def wettingUnionsRow : OpenClaim := { program := "yteekigpdiklppaa", sum := "87f05e999a345178be3f151c71e0c2da3f0cdf93a0b6aab57c5688f84f7851b9", func := "numnah/numnahlaw06.WettingUnions", spec := "wettingUnions", unfollowed := true, recurses := true, plainKeys := false, apart := false }
def WettingUnionsSaid : Prop := wettingUnionsRow.holds Try.pinned (OpenSpec.ofChange wettingUnionsSpec)

/-- ITS FALSE NEIGHBOUR: 'it returns false'. Refute it at one input. -/
def wettingUnionsWrong : ChangeSpec := { name := "wettingUnions", fn := fun _ => fun
  | [d1, d2, d3] => { results := [.lit (.bool false)], args := [d1, d2, d3] }
  | _ => none }
def WettingUnionsWrongFalsely : Prop := wettingUnionsRow.holds Try.pinned (OpenSpec.ofChange wettingUnionsWrong)

/-- 'numnahlaw06.WettingOwn': WHATEVER THE INPUT: true; the input reads as it did. -/
def wettingOwnSpec : ChangeSpec := { name := "wettingOwn", fn := fun _ => fun
  | [d1, d2, d3] => { results := [.lit (.bool true)], args := [d1, d2, d3] }
  | _ => none }
def wettingOwnRow : OpenClaim := { program := "yteekigpdiklppaa", sum := "87f05e999a345178be3f151c71e0c2da3f0cdf93a0b6aab57c5688f84f7851b9", func := "numnah/numnahlaw06.WettingOwn", spec := "wettingOwn", unfollowed := true, recurses := true, plainKeys := false, apart := false }
def WettingOwnSaid : Prop := wettingOwnRow.holds Try.pinned (OpenSpec.ofChange wettingOwnSpec)

/-- ITS FALSE NEIGHBOUR: 'it returns false'. Refute it at one input. -/
def wettingOwnWrong : ChangeSpec := { name := "wettingOwn", fn := fun _ => fun
  | [d1, d2, d3] => { results := [.lit (.bool false)], args := [d1, d2, d3] }
  | _ => none }
def WettingOwnWrongFalsely : Prop := wettingOwnRow.holds Try.pinned (OpenSpec.ofChange wettingOwnWrong)

/- THE SECOND FORM. 'bulk': how many values and letters a reading holds, each counted each time it is reached (what is shared counts as often as it is met; a slice's spare places count too). A statement '..UptoSaid' is the law's where the arguments, and the package variables that the reading takes, are together of bulk at most 1048576: NARROWER than '..Said'. Prove '..Said' where nothing that the law and all that it calls make is longer than what came in: it says more and counts as full. Else prove '..UptoSaid'. A law counts once. -/
mutual
def uptoBulk {H : Type} : DataW H → Nat
  | .lit (.string bytes) => bytes.length + 1
  | .lit _ => 1
  | .nil => 1
  | .ptr d => uptoBulk d + 1
  | .slice elems spare => uptoBulkAll elems + uptoBulkAll spare + 1
  | .agg parts => uptoBulkAll parts + 1
  | .iface _ d => uptoBulk d + 1
  | .map entries => uptoBulkEntries entries + 1
  | .held _ => 1
def uptoBulkAll {H : Type} : List (DataW H) → Nat
  | [] => 0
  | d :: r => uptoBulk d + uptoBulkAll r
def uptoBulkEntries {H : Type} : List (Lit × DataW H) → Nat
  | [] => 0
  | x :: r => uptoBulkEntry x + uptoBulkEntries r
def uptoBulkEntry {H : Type} : Lit × DataW H → Nat
  | (.string bytes, d) => bytes.length + uptoBulk d + 1
  | (_, d) => uptoBulk d + 1
 end
def uptoSmall : (H : Type) → List (DataW H) → Bool := fun _ ds => decide (uptoBulkAll ds ≤ 1048576)
def OpenSpec.upto (s : _root_.Go.ChangeSpec) : _root_.Go.OpenSpec := { _root_.Go.OpenSpec.ofChange s with cond := some uptoSmall }

/-- 'numnahlaw06.WettingCloses', WHERE WHAT IT READS IS OF BULK AT MOST 1048576: true; the input reads as it did. -/
def wettingClosesUptoRow : OpenClaim := { program := "yteekigpdiklppaa", sum := "87f05e999a345178be3f151c71e0c2da3f0cdf93a0b6aab57c5688f84f7851b9", func := "numnah/numnahlaw06.WettingCloses", spec := "wettingCloses", unfollowed := true, recurses := true, plainKeys := false, apart := false, narrowed := true }
def WettingClosesUptoSaid : Prop := wettingClosesUptoRow.holds Try.pinned (OpenSpec.upto wettingClosesSpec)

/-- 'numnahlaw06.WettingSoaks', WHERE WHAT IT READS IS OF BULK AT MOST 1048576: true; the input reads as it did. -/
def wettingSoaksUptoRow : OpenClaim := { program := "yteekigpdiklppaa", sum := "87f05e999a345178be3f151c71e0c2da3f0cdf93a0b6aab57c5688f84f7851b9", func := "numnah/numnahlaw06.WettingSoaks", spec := "wettingSoaks", unfollowed := true, recurses := true, plainKeys := false, apart := false, narrowed := true }
def WettingSoaksUptoSaid : Prop := wettingSoaksUptoRow.holds Try.pinned (OpenSpec.upto wettingSoaksSpec)

/-- 'numnahlaw06.WettingLeasts', WHERE WHAT IT READS IS OF BULK AT MOST 1048576: true; the input reads as it did. -/
def wettingLeastsUptoRow : OpenClaim := { program := "yteekigpdiklppaa", sum := "87f05e999a345178be3f151c71e0c2da3f0cdf93a0b6aab57c5688f84f7851b9", func := "numnah/numnahlaw06.WettingLeasts", spec := "wettingLeasts", unfollowed := true, recurses := true, plainKeys := false, apart := false, narrowed := true }
def WettingLeastsUptoSaid : Prop := wettingLeastsUptoRow.holds Try.pinned (OpenSpec.upto wettingLeastsSpec)

/-- 'numnahlaw06.WettingFewests', WHERE WHAT IT READS IS OF BULK AT MOST 1048576: true; the input reads as it did. -/
def wettingFewestsUptoRow : OpenClaim := { program := "yteekigpdiklppaa", sum := "87f05e999a345178be3f151c71e0c2da3f0cdf93a0b6aab57c5688f84f7851b9", func := "numnah/numnahlaw06.WettingFewests", spec := "wettingFewests", unfollowed := true, recurses := true, plainKeys := false, apart := false, narrowed := true }
def WettingFewestsUptoSaid : Prop := wettingFewestsUptoRow.holds Try.pinned (OpenSpec.upto wettingFewestsSpec)

/-- 'numnahlaw06.WettingChronicles', WHERE WHAT IT READS IS OF BULK AT MOST 1048576: true; the input reads as it did. -/
def wettingChroniclesUptoRow : OpenClaim := { program := "yteekigpdiklppaa", sum := "87f05e999a345178be3f151c71e0c2da3f0cdf93a0b6aab57c5688f84f7851b9", func := "numnah/numnahlaw06.WettingChronicles", spec := "wettingChronicles", unfollowed := true, recurses := true, plainKeys := false, apart := false, narrowed := true }
def WettingChroniclesUptoSaid : Prop := wettingChroniclesUptoRow.holds Try.pinned (OpenSpec.upto wettingChroniclesSpec)

/-- 'numnahlaw06.WettingChecks', WHERE WHAT IT READS IS OF BULK AT MOST 1048576: true; the input reads as it did. -/
def wettingChecksUptoRow : OpenClaim := { program := "yteekigpdiklppaa", sum := "87f05e999a345178be3f151c71e0c2da3f0cdf93a0b6aab57c5688f84f7851b9", func := "numnah/numnahlaw06.WettingChecks", spec := "wettingChecks", unfollowed := true, recurses := true, plainKeys := false, apart := false, narrowed := true }
def WettingChecksUptoSaid : Prop := wettingChecksUptoRow.holds Try.pinned (OpenSpec.upto wettingChecksSpec)

/-- 'numnahlaw06.WettingHits', WHERE WHAT IT READS IS OF BULK AT MOST 1048576: true; the input reads as it did. -/
def wettingHitsUptoRow : OpenClaim := { program := "yteekigpdiklppaa", sum := "87f05e999a345178be3f151c71e0c2da3f0cdf93a0b6aab57c5688f84f7851b9", func := "numnah/numnahlaw06.WettingHits", spec := "wettingHits", unfollowed := true, recurses := true, plainKeys := false, apart := false, narrowed := true }
def WettingHitsUptoSaid : Prop := wettingHitsUptoRow.holds Try.pinned (OpenSpec.upto wettingHitsSpec)

/-- 'numnahlaw06.WettingGrows', WHERE WHAT IT READS IS OF BULK AT MOST 1048576: true; the input reads as it did. -/
def wettingGrowsUptoRow : OpenClaim := { program := "yteekigpdiklppaa", sum := "87f05e999a345178be3f151c71e0c2da3f0cdf93a0b6aab57c5688f84f7851b9", func := "numnah/numnahlaw06.WettingGrows", spec := "wettingGrows", unfollowed := true, recurses := true, plainKeys := false, apart := false, narrowed := true }
def WettingGrowsUptoSaid : Prop := wettingGrowsUptoRow.holds Try.pinned (OpenSpec.upto wettingGrowsSpec)

/-- 'numnahlaw06.WettingChained', WHERE WHAT IT READS IS OF BULK AT MOST 1048576: true; the input reads as it did. -/
def wettingChainedUptoRow : OpenClaim := { program := "yteekigpdiklppaa", sum := "87f05e999a345178be3f151c71e0c2da3f0cdf93a0b6aab57c5688f84f7851b9", func := "numnah/numnahlaw06.WettingChained", spec := "wettingChained", unfollowed := true, recurses := true, plainKeys := false, apart := false, narrowed := true }
def WettingChainedUptoSaid : Prop := wettingChainedUptoRow.holds Try.pinned (OpenSpec.upto wettingChainedSpec)

/-- 'numnahlaw06.WettingOrders', WHERE WHAT IT READS IS OF BULK AT MOST 1048576: true; the input reads as it did. -/
def wettingOrdersUptoRow : OpenClaim := { program := "yteekigpdiklppaa", sum := "87f05e999a345178be3f151c71e0c2da3f0cdf93a0b6aab57c5688f84f7851b9", func := "numnah/numnahlaw06.WettingOrders", spec := "wettingOrders", unfollowed := true, recurses := true, plainKeys := false, apart := false, narrowed := true }
def WettingOrdersUptoSaid : Prop := wettingOrdersUptoRow.holds Try.pinned (OpenSpec.upto wettingOrdersSpec)

/-- 'numnahlaw06.WettingThresholds', WHERE WHAT IT READS IS OF BULK AT MOST 1048576: true; the input reads as it did. -/
def wettingThresholdsUptoRow : OpenClaim := { program := "yteekigpdiklppaa", sum := "87f05e999a345178be3f151c71e0c2da3f0cdf93a0b6aab57c5688f84f7851b9", func := "numnah/numnahlaw06.WettingThresholds", spec := "wettingThresholds", unfollowed := true, recurses := true, plainKeys := false, apart := false, narrowed := true }
def WettingThresholdsUptoSaid : Prop := wettingThresholdsUptoRow.holds Try.pinned (OpenSpec.upto wettingThresholdsSpec)

/-- 'numnahlaw06.WettingRenamed', WHERE WHAT IT READS IS OF BULK AT MOST 1048576: true; the input reads as it did. -/
def wettingRenamedUptoRow : OpenClaim := { program := "yteekigpdiklppaa", sum := "87f05e999a345178be3f151c71e0c2da3f0cdf93a0b6aab57c5688f84f7851b9", func := "numnah/numnahlaw06.WettingRenamed", spec := "wettingRenamed", unfollowed := true, recurses := true, plainKeys := false, apart := false, narrowed := true }
def WettingRenamedUptoSaid : Prop := wettingRenamedUptoRow.holds Try.pinned (OpenSpec.upto wettingRenamedSpec)

/-- 'numnahlaw06.WettingUnions', WHERE WHAT IT READS IS OF BULK AT MOST 1048576: true; the input reads as it did. -/
def wettingUnionsUptoRow : OpenClaim := { program := "yteekigpdiklppaa", sum := "87f05e999a345178be3f151c71e0c2da3f0cdf93a0b6aab57c5688f84f7851b9", func := "numnah/numnahlaw06.WettingUnions", spec := "wettingUnions", unfollowed := true, recurses := true, plainKeys := false, apart := false, narrowed := true }
def WettingUnionsUptoSaid : Prop := wettingUnionsUptoRow.holds Try.pinned (OpenSpec.upto wettingUnionsSpec)

/-- 'numnahlaw06.WettingOwn', WHERE WHAT IT READS IS OF BULK AT MOST 1048576: true; the input reads as it did. -/
def wettingOwnUptoRow : OpenClaim := { program := "yteekigpdiklppaa", sum := "87f05e999a345178be3f151c71e0c2da3f0cdf93a0b6aab57c5688f84f7851b9", func := "numnah/numnahlaw06.WettingOwn", spec := "wettingOwn", unfollowed := true, recurses := true, plainKeys := false, apart := false, narrowed := true }
def WettingOwnUptoSaid : Prop := wettingOwnUptoRow.holds Try.pinned (OpenSpec.upto wettingOwnSpec)

end Rows
end Go.Proofs.Yteekigpdiklppaa
