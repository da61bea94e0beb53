/-
  No cell of these rows narrows 'for every input' (looked for: loops, veiled, ifaces, maps, wideKeys, modest, calm, conditions, laid).
  DERIVED. THE GIVEN ROWS OF THIS SEAT. 12 by the template 'for every input the law returns true; each argument reads behind the call as it read before'; 0 by the template 'total and deterministic' (their statements: YtifbiamfandjnaaTotals.lean).
  GIVEN WITH THE SEED: the statements are not yours to turn. If you find one false, say at which input.
  Laid BY PROGRAM, IN A SANDBOX (cutbox-rows.mjs): the forced cells as the released guide's own fill.sh prints them over the translation 46471d0d38ca175c… (all of the seat's roots in one cut). By AI agents, Wed Nov 11 2026. No macro, syntax, notation, axiom, sorry.
-/
import Derived.Test.YtifbiamfandjnaaChecked
import GoSem.Claim
import GoSem.ClaimJoined
import GoSem.ClaimMapViews
import Derived.JoinedTies
import Derived.KernelRfl
namespace Go.Proofs.Ytifbiamfandjnaa
/- THE CELL 'sum', in the pinned program and in every row, IS THE sha256 OF THE DUMP (.gsa) THAT YtifbiamfandjnaaProg.lean LOADS. Nothing in Lean hashes anything: it is a label: what it is worth is what the hold of that sum in a sandbox is worth. -/
noncomputable def Try.pinned : Pinned := { name := "ytifbiamfandjnaa", sum := "46471d0d38ca175cb1d33ef57af1a23abd0a947b6144b10f3036cae9c69d9b5f", checked := Try.checked }
namespace Rows
def none {H : Type} : Left H := { results := [], args := [] }

/-- 'numnahlaw03.SpreadLines': WHATEVER THE INPUT: true; the input reads as it did. -/
def spreadLinesSpec : ChangeSpec := { name := "spreadLines", fn := fun _ => fun
  | [d1, d2, d3] => { results := [.lit (.bool true)], args := [d1, d2, d3] }
  | _ => none }
def spreadLinesRow : OpenClaim := { program := "ytifbiamfandjnaa", sum := "46471d0d38ca175cb1d33ef57af1a23abd0a947b6144b10f3036cae9c69d9b5f", func := "numnah/numnahlaw03.SpreadLines", spec := "spreadLines", unfollowed := true, recurses := true, plainKeys := false, apart := false }
def SpreadLinesSaid : Prop := spreadLinesRow.holds Try.pinned (OpenSpec.ofChange spreadLinesSpec)

/-- ITS FALSE NEIGHBOUR: 'it returns false'. Refute it at one input. -/
def spreadLinesWrong : ChangeSpec := { name := "spreadLines", fn := fun _ => fun
  | [d1, d2, d3] => { results := [.lit (.bool false)], args := [d1, d2, d3] }
  | _ => none }
def SpreadLinesWrongFalsely : Prop := spreadLinesRow.holds Try.pinned (OpenSpec.ofChange spreadLinesWrong)

/-- 'numnahlaw03.SpreadIntervals': WHATEVER THE INPUT: true; the input reads as it did. -/
def spreadIntervalsSpec : ChangeSpec := { name := "spreadIntervals", fn := fun _ => fun
  | [d1, d2, d3] => { results := [.lit (.bool true)], args := [d1, d2, d3] }
  | _ => none }
def spreadIntervalsRow : OpenClaim := { program := "ytifbiamfandjnaa", sum := "46471d0d38ca175cb1d33ef57af1a23abd0a947b6144b10f3036cae9c69d9b5f", func := "numnah/numnahlaw03.SpreadIntervals", spec := "spreadIntervals", unfollowed := true, recurses := true, plainKeys := false, apart := false }
def SpreadIntervalsSaid : Prop := spreadIntervalsRow.holds Try.pinned (OpenSpec.ofChange spreadIntervalsSpec)

/-- ITS FALSE NEIGHBOUR: 'it returns false'. Refute it at one input. -/
def spreadIntervalsWrong : ChangeSpec := { name := "spreadIntervals", fn := fun _ => fun
  | [d1, d2, d3] => { results := [.lit (.bool false)], args := [d1, d2, d3] }
  | _ => none }
def SpreadIntervalsWrongFalsely : Prop := spreadIntervalsRow.holds Try.pinned (OpenSpec.ofChange spreadIntervalsWrong)

/-- 'numnahlaw03.SpreadSheets': WHATEVER THE INPUT: true; the input reads as it did. -/
def spreadSheetsSpec : ChangeSpec := { name := "spreadSheets", fn := fun _ => fun
  | [d1, d2] => { results := [.lit (.bool true)], args := [d1, d2] }
  | _ => none }
def spreadSheetsRow : OpenClaim := { program := "ytifbiamfandjnaa", sum := "46471d0d38ca175cb1d33ef57af1a23abd0a947b6144b10f3036cae9c69d9b5f", func := "numnah/numnahlaw03.SpreadSheets", spec := "spreadSheets", unfollowed := true, recurses := true, plainKeys := false, apart := false }
def SpreadSheetsSaid : Prop := spreadSheetsRow.holds Try.pinned (OpenSpec.ofChange spreadSheetsSpec)

/-- ITS FALSE NEIGHBOUR: 'it returns false'. Refute it at one input. -/
def spreadSheetsWrong : ChangeSpec := { name := "spreadSheets", fn := fun _ => fun
  | [d1, d2] => { results := [.lit (.bool false)], args := [d1, d2] }
  | _ => none }
def SpreadSheetsWrongFalsely : Prop := spreadSheetsRow.holds Try.pinned (OpenSpec.ofChange spreadSheetsWrong)

/-- 'numnahlaw03.SpreadMirrors': WHATEVER THE INPUT: true; the input reads as it did. -/
def spreadMirrorsSpec : ChangeSpec := { name := "spreadMirrors", fn := fun _ => fun
  | [d1, d2, d3] => { results := [.lit (.bool true)], args := [d1, d2, d3] }
  | _ => none }
def spreadMirrorsRow : OpenClaim := { program := "ytifbiamfandjnaa", sum := "46471d0d38ca175cb1d33ef57af1a23abd0a947b6144b10f3036cae9c69d9b5f", func := "numnah/numnahlaw03.SpreadMirrors", spec := "spreadMirrors", unfollowed := true, recurses := true, plainKeys := false, apart := false }
def SpreadMirrorsSaid : Prop := spreadMirrorsRow.holds Try.pinned (OpenSpec.ofChange spreadMirrorsSpec)

/-- ITS FALSE NEIGHBOUR: 'it returns false'. Refute it at one input. -/
def spreadMirrorsWrong : ChangeSpec := { name := "spreadMirrors", fn := fun _ => fun
  | [d1, d2, d3] => { results := [.lit (.bool false)], args := [d1, d2, d3] }
  | _ => none }
def SpreadMirrorsWrongFalsely : Prop := spreadMirrorsRow.holds Try.pinned (OpenSpec.ofChange spreadMirrorsWrong)

/-- 'numnahlaw03.SpreadSeries': WHATEVER THE INPUT: true; the input reads as it did. -/
def spreadSeriesSpec : ChangeSpec := { name := "spreadSeries", fn := fun _ => fun
  | [d1, d2, d3] => { results := [.lit (.bool true)], args := [d1, d2, d3] }
  | _ => none }
def spreadSeriesRow : OpenClaim := { program := "ytifbiamfandjnaa", sum := "46471d0d38ca175cb1d33ef57af1a23abd0a947b6144b10f3036cae9c69d9b5f", func := "numnah/numnahlaw03.SpreadSeries", spec := "spreadSeries", unfollowed := true, recurses := true, plainKeys := false, apart := false }
def SpreadSeriesSaid : Prop := spreadSeriesRow.holds Try.pinned (OpenSpec.ofChange spreadSeriesSpec)

/-- ITS FALSE NEIGHBOUR: 'it returns false'. Refute it at one input. -/
def spreadSeriesWrong : ChangeSpec := { name := "spreadSeries", fn := fun _ => fun
  | [d1, d2, d3] => { results := [.lit (.bool false)], args := [d1, d2, d3] }
  | _ => none }
def SpreadSeriesWrongFalsely : Prop := spreadSeriesRow.holds Try.pinned (OpenSpec.ofChange spreadSeriesWrong)

/-- 'numnahlaw03.SpreadBests': WHATEVER THE INPUT: true; the input reads as it did. -/
def spreadBestsSpec : ChangeSpec := { name := "spreadBests", fn := fun _ => fun
  | [d1, d2, d3] => { results := [.lit (.bool true)], args := [d1, d2, d3] }
  | _ => none }
def spreadBestsRow : OpenClaim := { program := "ytifbiamfandjnaa", sum := "46471d0d38ca175cb1d33ef57af1a23abd0a947b6144b10f3036cae9c69d9b5f", func := "numnah/numnahlaw03.SpreadBests", spec := "spreadBests", unfollowed := true, recurses := true, plainKeys := false, apart := false }
def SpreadBestsSaid : Prop := spreadBestsRow.holds Try.pinned (OpenSpec.ofChange spreadBestsSpec)

/-- ITS FALSE NEIGHBOUR: 'it returns false'. Refute it at one input. -/
def spreadBestsWrong : ChangeSpec := { name := "spreadBests", fn := fun _ => fun
  | [d1, d2, d3] => { results := [.lit (.bool false)], args := [d1, d2, d3] }
  | _ => none }
def SpreadBestsWrongFalsely : Prop := spreadBestsRow.holds Try.pinned (OpenSpec.ofChange spreadBestsWrong)

/-- 'numnahlaw03.SpreadLimits': WHATEVER THE INPUT: true; the input reads as it did. -/
def spreadLimitsSpec : ChangeSpec := { name := "spreadLimits", fn := fun _ => fun
  | [d1, d2, d3] => { results := [.lit (.bool true)], args := [d1, d2, d3] }
  | _ => none }
def spreadLimitsRow : OpenClaim := { program := "ytifbiamfandjnaa", sum := "46471d0d38ca175cb1d33ef57af1a23abd0a947b6144b10f3036cae9c69d9b5f", func := "numnah/numnahlaw03.SpreadLimits", spec := "spreadLimits", unfollowed := true, recurses := true, plainKeys := false, apart := false }
def SpreadLimitsSaid : Prop := spreadLimitsRow.holds Try.pinned (OpenSpec.ofChange spreadLimitsSpec)

/-- ITS FALSE NEIGHBOUR: 'it returns false'. Refute it at one input. -/
def spreadLimitsWrong : ChangeSpec := { name := "spreadLimits", fn := fun _ => fun
  | [d1, d2, d3] => { results := [.lit (.bool false)], args := [d1, d2, d3] }
  | _ => none }
def SpreadLimitsWrongFalsely : Prop := spreadLimitsRow.holds Try.pinned (OpenSpec.ofChange spreadLimitsWrong)

/-- 'numnahlaw03.SpreadEven': WHATEVER THE INPUT: true; the input reads as it did. -/
def spreadEvenSpec : ChangeSpec := { name := "spreadEven", fn := fun _ => fun
  | [d1, d2] => { results := [.lit (.bool true)], args := [d1, d2] }
  | _ => none }
def spreadEvenRow : OpenClaim := { program := "ytifbiamfandjnaa", sum := "46471d0d38ca175cb1d33ef57af1a23abd0a947b6144b10f3036cae9c69d9b5f", func := "numnah/numnahlaw03.SpreadEven", spec := "spreadEven", unfollowed := true, recurses := true, plainKeys := false, apart := false }
def SpreadEvenSaid : Prop := spreadEvenRow.holds Try.pinned (OpenSpec.ofChange spreadEvenSpec)

/-- ITS FALSE NEIGHBOUR: 'it returns false'. Refute it at one input. -/
def spreadEvenWrong : ChangeSpec := { name := "spreadEven", fn := fun _ => fun
  | [d1, d2] => { results := [.lit (.bool false)], args := [d1, d2] }
  | _ => none }
def SpreadEvenWrongFalsely : Prop := spreadEvenRow.holds Try.pinned (OpenSpec.ofChange spreadEvenWrong)

/-- 'numnahlaw03.SpreadMirrored': WHATEVER THE INPUT: true; the input reads as it did. -/
def spreadMirroredSpec : ChangeSpec := { name := "spreadMirrored", fn := fun _ => fun
  | [d1, d2, d3] => { results := [.lit (.bool true)], args := [d1, d2, d3] }
  | _ => none }
def spreadMirroredRow : OpenClaim := { program := "ytifbiamfandjnaa", sum := "46471d0d38ca175cb1d33ef57af1a23abd0a947b6144b10f3036cae9c69d9b5f", func := "numnah/numnahlaw03.SpreadMirrored", spec := "spreadMirrored", unfollowed := true, recurses := true, plainKeys := false, apart := false }
def SpreadMirroredSaid : Prop := spreadMirroredRow.holds Try.pinned (OpenSpec.ofChange spreadMirroredSpec)

/-- ITS FALSE NEIGHBOUR: 'it returns false'. Refute it at one input. -/
def spreadMirroredWrong : ChangeSpec := { name := "spreadMirrored", fn := fun _ => fun
  | [d1, d2, d3] => { results := [.lit (.bool false)], args := [d1, d2, d3] }
  | _ => none }
def SpreadMirroredWrongFalsely : Prop := spreadMirroredRow.holds Try.pinned (OpenSpec.ofChange spreadMirroredWrong)

/-- 'numnahlaw03.SpreadFlat': WHATEVER THE INPUT: true; the input reads as it did. -/
def spreadFlatSpec : ChangeSpec := { name := "spreadFlat", fn := fun _ => fun
  | [d1, d2, d3] => { results := [.lit (.bool true)], args := [d1, d2, d3] }
  | _ => none }
def spreadFlatRow : OpenClaim := { program := "ytifbiamfandjnaa", sum := "46471d0d38ca175cb1d33ef57af1a23abd0a947b6144b10f3036cae9c69d9b5f", func := "numnah/numnahlaw03.SpreadFlat", spec := "spreadFlat", unfollowed := true, recurses := true, plainKeys := false, apart := false }
def SpreadFlatSaid : Prop := spreadFlatRow.holds Try.pinned (OpenSpec.ofChange spreadFlatSpec)

/-- ITS FALSE NEIGHBOUR: 'it returns false'. Refute it at one input. -/
def spreadFlatWrong : ChangeSpec := { name := "spreadFlat", fn := fun _ => fun
  | [d1, d2, d3] => { results := [.lit (.bool false)], args := [d1, d2, d3] }
  | _ => none }
def SpreadFlatWrongFalsely : Prop := spreadFlatRow.holds Try.pinned (OpenSpec.ofChange spreadFlatWrong)

/-- 'numnahlaw03.SpreadThere': WHATEVER THE INPUT: true; the input reads as it did. -/
def spreadThereSpec : ChangeSpec := { name := "spreadThere", fn := fun _ => fun
  | [d1, d2, d3] => { results := [.lit (.bool true)], args := [d1, d2, d3] }
  | _ => none }
def spreadThereRow : OpenClaim := { program := "ytifbiamfandjnaa", sum := "46471d0d38ca175cb1d33ef57af1a23abd0a947b6144b10f3036cae9c69d9b5f", func := "numnah/numnahlaw03.SpreadThere", spec := "spreadThere", unfollowed := true, recurses := true, plainKeys := false, apart := false }
def SpreadThereSaid : Prop := spreadThereRow.holds Try.pinned (OpenSpec.ofChange spreadThereSpec)

/-- ITS FALSE NEIGHBOUR: 'it returns false'. Refute it at one input. -/
def spreadThereWrong : ChangeSpec := { name := "spreadThere", fn := fun _ => fun
  | [d1, d2, d3] => { results := [.lit (.bool false)], args := [d1, d2, d3] }
  | _ => none }
def SpreadThereWrongFalsely : Prop := spreadThereRow.holds Try.pinned (OpenSpec.ofChange spreadThereWrong)

/-- 'numnahlaw03.SpreadOptimal': WHATEVER THE INPUT: true; the input reads as it did. -/
def spreadOptimalSpec : ChangeSpec := { name := "spreadOptimal", fn := fun _ => fun
  | [d1, d2] => { results := [.lit (.bool true)], args := [d1, d2] }
  | _ => none }
def spreadOptimalRow : OpenClaim := { program := "ytifbiamfandjnaa", sum := "46471d0d38ca175cb1d33ef57af1a23abd0a947b6144b10f3036cae9c69d9b5f", func := "numnah/numnahlaw03.SpreadOptimal", spec := "spreadOptimal", unfollowed := true, recurses := true, plainKeys := false, apart := false }
def SpreadOptimalSaid : Prop := spreadOptimalRow.holds Try.pinned (OpenSpec.ofChange spreadOptimalSpec)

/-- ITS FALSE NEIGHBOUR: 'it returns false'. Refute it at one input. -/
def spreadOptimalWrong : ChangeSpec := { name := "spreadOptimal", fn := fun _ => fun
  | [d1, d2] => { results := [.lit (.bool false)], args := [d1, d2] }
  | _ => none }
def SpreadOptimalWrongFalsely : Prop := spreadOptimalRow.holds Try.pinned (OpenSpec.ofChange spreadOptimalWrong)

/- THE SECOND FORM. 'bulk': how many values and letters a reading holds, each counted each time it is reached (what is shared counts as often as it is met; a slice's spare places count too). A statement '..UptoSaid' is the law's where the arguments, and the package variables that the reading takes, are together of bulk at most 1048576: NARROWER than '..Said'. Prove '..Said' where nothing that the law and all that it calls make is longer than what came in: it says more and counts as full. Else prove '..UptoSaid'. A law counts once. -/
mutual
def uptoBulk {H : Type} : DataW H → Nat
  | .lit (.string bytes) => bytes.length + 1
  | .lit _ => 1
  | .nil => 1
  | .ptr d => uptoBulk d + 1
  | .slice elems spare => uptoBulkAll elems + uptoBulkAll spare + 1
  | .agg parts => uptoBulkAll parts + 1
  | .iface _ d => uptoBulk d + 1
  | .map entries => uptoBulkEntries entries + 1
  | .held _ => 1
def uptoBulkAll {H : Type} : List (DataW H) → Nat
  | [] => 0
  | d :: r => uptoBulk d + uptoBulkAll r
def uptoBulkEntries {H : Type} : List (Lit × DataW H) → Nat
  | [] => 0
  | x :: r => uptoBulkEntry x + uptoBulkEntries r
def uptoBulkEntry {H : Type} : Lit × DataW H → Nat
  | (.string bytes, d) => bytes.length + uptoBulk d + 1
  | (_, d) => uptoBulk d + 1
 end
def uptoSmall : (H : Type) → List (DataW H) → Bool := fun _ ds => decide (uptoBulkAll ds ≤ 1048576)
def OpenSpec.upto (s : _root_.Go.ChangeSpec) : _root_.Go.OpenSpec := { _root_.Go.OpenSpec.ofChange s with cond := some uptoSmall }

/-- 'numnahlaw03.SpreadLines', WHERE WHAT IT READS IS OF BULK AT MOST 1048576: true; the input reads as it did. -/
def spreadLinesUptoRow : OpenClaim := { program := "ytifbiamfandjnaa", sum := "46471d0d38ca175cb1d33ef57af1a23abd0a947b6144b10f3036cae9c69d9b5f", func := "numnah/numnahlaw03.SpreadLines", spec := "spreadLines", unfollowed := true, recurses := true, plainKeys := false, apart := false, narrowed := true }
def SpreadLinesUptoSaid : Prop := spreadLinesUptoRow.holds Try.pinned (OpenSpec.upto spreadLinesSpec)

/-- 'numnahlaw03.SpreadIntervals', WHERE WHAT IT READS IS OF BULK AT MOST 1048576: true; the input reads as it did. -/
def spreadIntervalsUptoRow : OpenClaim := { program := "ytifbiamfandjnaa", sum := "46471d0d38ca175cb1d33ef57af1a23abd0a947b6144b10f3036cae9c69d9b5f", func := "numnah/numnahlaw03.SpreadIntervals", spec := "spreadIntervals", unfollowed := true, recurses := true, plainKeys := false, apart := false, narrowed := true }
def SpreadIntervalsUptoSaid : Prop := spreadIntervalsUptoRow.holds Try.pinned (OpenSpec.upto spreadIntervalsSpec)

/-- 'numnahlaw03.SpreadSheets', WHERE WHAT IT READS IS OF BULK AT MOST 1048576: true; the input reads as it did. -/
def spreadSheetsUptoRow : OpenClaim := { program := "ytifbiamfandjnaa", sum := "46471d0d38ca175cb1d33ef57af1a23abd0a947b6144b10f3036cae9c69d9b5f", func := "numnah/numnahlaw03.SpreadSheets", spec := "spreadSheets", unfollowed := true, recurses := true, plainKeys := false, apart := false, narrowed := true }
def SpreadSheetsUptoSaid : Prop := spreadSheetsUptoRow.holds Try.pinned (OpenSpec.upto spreadSheetsSpec)

/-- 'numnahlaw03.SpreadMirrors', WHERE WHAT IT READS IS OF BULK AT MOST 1048576: true; the input reads as it did. -/
def spreadMirrorsUptoRow : OpenClaim := { program := "ytifbiamfandjnaa", sum := "46471d0d38ca175cb1d33ef57af1a23abd0a947b6144b10f3036cae9c69d9b5f", func := "numnah/numnahlaw03.SpreadMirrors", spec := "spreadMirrors", unfollowed := true, recurses := true, plainKeys := false, apart := false, narrowed := true }
def SpreadMirrorsUptoSaid : Prop := spreadMirrorsUptoRow.holds Try.pinned (OpenSpec.upto spreadMirrorsSpec)

/-- 'numnahlaw03.SpreadSeries', WHERE WHAT IT READS IS OF BULK AT MOST 1048576: true; the input reads as it did. -/
def spreadSeriesUptoRow : OpenClaim := { program := "ytifbiamfandjnaa", sum := "46471d0d38ca175cb1d33ef57af1a23abd0a947b6144b10f3036cae9c69d9b5f", func := "numnah/numnahlaw03.SpreadSeries", spec := "spreadSeries", unfollowed := true, recurses := true, plainKeys := false, apart := false, narrowed := true }
def SpreadSeriesUptoSaid : Prop := spreadSeriesUptoRow.holds Try.pinned (OpenSpec.upto spreadSeriesSpec)

/-- 'numnahlaw03.SpreadBests', WHERE WHAT IT READS IS OF BULK AT MOST 1048576: true; the input reads as it did. -/
def spreadBestsUptoRow : OpenClaim := { program := "ytifbiamfandjnaa", sum := "46471d0d38ca175cb1d33ef57af1a23abd0a947b6144b10f3036cae9c69d9b5f", func := "numnah/numnahlaw03.SpreadBests", spec := "spreadBests", unfollowed := true, recurses := true, plainKeys := false, apart := false, narrowed := true }
def SpreadBestsUptoSaid : Prop := spreadBestsUptoRow.holds Try.pinned (OpenSpec.upto spreadBestsSpec)

/-- 'numnahlaw03.SpreadLimits', WHERE WHAT IT READS IS OF BULK AT MOST 1048576: true; the input reads as it did. -/
def spreadLimitsUptoRow : OpenClaim := { program := "ytifbiamfandjnaa", sum := "46471d0d38ca175cb1d33ef57af1a23abd0a947b6144b10f3036cae9c69d9b5f", func := "numnah/numnahlaw03.SpreadLimits", spec := "spreadLimits", unfollowed := true, recurses := true, plainKeys := false, apart := false, narrowed := true }
def SpreadLimitsUptoSaid : Prop := spreadLimitsUptoRow.holds Try.pinned (OpenSpec.upto spreadLimitsSpec)

/-- 'numnahlaw03.SpreadEven', WHERE WHAT IT READS IS OF BULK AT MOST 1048576: true; the input reads as it did. -/
def spreadEvenUptoRow : OpenClaim := { program := "ytifbiamfandjnaa", sum := "46471d0d38ca175cb1d33ef57af1a23abd0a947b6144b10f3036cae9c69d9b5f", func := "numnah/numnahlaw03.SpreadEven", spec := "spreadEven", unfollowed := true, recurses := true, plainKeys := false, apart := false, narrowed := true }
def SpreadEvenUptoSaid : Prop := spreadEvenUptoRow.holds Try.pinned (OpenSpec.upto spreadEvenSpec)

/-- 'numnahlaw03.SpreadMirrored', WHERE WHAT IT READS IS OF BULK AT MOST 1048576: true; the input reads as it did. -/
def spreadMirroredUptoRow : OpenClaim := { program := "ytifbiamfandjnaa", sum := "46471d0d38ca175cb1d33ef57af1a23abd0a947b6144b10f3036cae9c69d9b5f", func := "numnah/numnahlaw03.SpreadMirrored", spec := "spreadMirrored", unfollowed := true, recurses := true, plainKeys := false, apart := false, narrowed := true }
def SpreadMirroredUptoSaid : Prop := spreadMirroredUptoRow.holds Try.pinned (OpenSpec.upto spreadMirroredSpec)

/-- 'numnahlaw03.SpreadFlat', WHERE WHAT IT READS IS OF BULK AT MOST 1048576: true; the input reads as it did. -/
def spreadFlatUptoRow : OpenClaim := { program := "ytifbiamfandjnaa", sum := "46471d0d38ca175cb1d33ef57af1a23abd0a947b6144b10f3036cae9c69d9b5f", func := "numnah/numnahlaw03.SpreadFlat", spec := "spreadFlat", unfollowed := true, recurses := true, plainKeys := false, apart := false, narrowed := true }
def SpreadFlatUptoSaid : Prop := spreadFlatUptoRow.holds Try.pinned (OpenSpec.upto spreadFlatSpec)

/-- 'numnahlaw03.SpreadThere', WHERE WHAT IT READS IS OF BULK AT MOST 1048576: true; the input reads as it did. -/
def spreadThereUptoRow : OpenClaim := { program := "ytifbiamfandjnaa", sum := "46471d0d38ca175cb1d33ef57af1a23abd0a947b6144b10f3036cae9c69d9b5f", func := "numnah/numnahlaw03.SpreadThere", spec := "spreadThere", unfollowed := true, recurses := true, plainKeys := false, apart := false, narrowed := true }
def SpreadThereUptoSaid : Prop := spreadThereUptoRow.holds Try.pinned (OpenSpec.upto spreadThereSpec)

/-- 'numnahlaw03.SpreadOptimal', WHERE WHAT IT READS IS OF BULK AT MOST 1048576: true; the input reads as it did. -/
def spreadOptimalUptoRow : OpenClaim := { program := "ytifbiamfandjnaa", sum := "46471d0d38ca175cb1d33ef57af1a23abd0a947b6144b10f3036cae9c69d9b5f", func := "numnah/numnahlaw03.SpreadOptimal", spec := "spreadOptimal", unfollowed := true, recurses := true, plainKeys := false, apart := false, narrowed := true }
def SpreadOptimalUptoSaid : Prop := spreadOptimalUptoRow.holds Try.pinned (OpenSpec.upto spreadOptimalSpec)

end Rows
end Go.Proofs.Ytifbiamfandjnaa
