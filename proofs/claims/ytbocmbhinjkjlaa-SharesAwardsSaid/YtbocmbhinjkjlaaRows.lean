/-
  No cell of these rows narrows 'for every input' (looked for: loops, veiled, ifaces, maps, wideKeys, modest, calm, conditions, laid).
  DERIVED. THE GIVEN ROWS OF THIS SEAT. 17 by the template 'for every input the law returns true; each argument reads behind the call as it read before'; 0 by the template 'total and deterministic' (their statements: YtbocmbhinjkjlaaTotals.lean).
  GIVEN WITH THE SEED: the statements are not yours to turn. If you find one false, say at which input.
  Laid BY PROGRAM, IN A SANDBOX (cutbox-rows.mjs): the forced cells as the released guide's own fill.sh prints them over the translation ad8a944676ef7773… (all of the seat's roots in one cut). By AI agents, Wed Nov 11 2026. No macro, syntax, notation, axiom, sorry.
-/
import Derived.Test.YtbocmbhinjkjlaaChecked
import GoSem.Claim
import GoSem.ClaimJoined
import GoSem.ClaimMapViews
import Derived.JoinedTies
import Derived.KernelRfl
namespace Go.Proofs.Ytbocmbhinjkjlaa
/- THE CELL 'sum', in the pinned program and in every row, IS THE sha256 OF THE DUMP (.gsa) THAT YtbocmbhinjkjlaaProg.lean LOADS. Nothing in Lean hashes anything: it is a label: what it is worth is what the hold of that sum in a sandbox is worth. -/
noncomputable def Try.pinned : Pinned := { name := "ytbocmbhinjkjlaa", sum := "ad8a944676ef77739551e171ea8c52b2c32defe81bd2f5e448d14f11864b05e9", checked := Try.checked }
namespace Rows
def none {H : Type} : Left H := { results := [], args := [] }

/-- 'numnahlaw07.SharesAwards': WHATEVER THE INPUT: true; the input reads as it did. -/
def sharesAwardsSpec : ChangeSpec := { name := "sharesAwards", fn := fun _ => fun
  | [d1, d2, d3] => { results := [.lit (.bool true)], args := [d1, d2, d3] }
  | _ => none }
def sharesAwardsRow : OpenClaim := { program := "ytbocmbhinjkjlaa", sum := "ad8a944676ef77739551e171ea8c52b2c32defe81bd2f5e448d14f11864b05e9", func := "numnah/numnahlaw07.SharesAwards", spec := "sharesAwards", unfollowed := true, recurses := true, apart := false }
def SharesAwardsSaid : Prop := sharesAwardsRow.holds Try.pinned (OpenSpec.ofChange sharesAwardsSpec)

/-- ITS FALSE NEIGHBOUR: 'it returns false'. Refute it at one input. -/
def sharesAwardsWrong : ChangeSpec := { name := "sharesAwards", fn := fun _ => fun
  | [d1, d2, d3] => { results := [.lit (.bool false)], args := [d1, d2, d3] }
  | _ => none }
def SharesAwardsWrongFalsely : Prop := sharesAwardsRow.holds Try.pinned (OpenSpec.ofChange sharesAwardsWrong)

/-- 'numnahlaw07.SharesGarments': WHATEVER THE INPUT: true; the input reads as it did. -/
def sharesGarmentsSpec : ChangeSpec := { name := "sharesGarments", fn := fun _ => fun
  | [d1, d2, d3] => { results := [.lit (.bool true)], args := [d1, d2, d3] }
  | _ => none }
def sharesGarmentsRow : OpenClaim := { program := "ytbocmbhinjkjlaa", sum := "ad8a944676ef77739551e171ea8c52b2c32defe81bd2f5e448d14f11864b05e9", func := "numnah/numnahlaw07.SharesGarments", spec := "sharesGarments", unfollowed := true, recurses := true, apart := false }
def SharesGarmentsSaid : Prop := sharesGarmentsRow.holds Try.pinned (OpenSpec.ofChange sharesGarmentsSpec)

/-- ITS FALSE NEIGHBOUR: 'it returns false'. Refute it at one input. -/
def sharesGarmentsWrong : ChangeSpec := { name := "sharesGarments", fn := fun _ => fun
  | [d1, d2, d3] => { results := [.lit (.bool false)], args := [d1, d2, d3] }
  | _ => none }
def SharesGarmentsWrongFalsely : Prop := sharesGarmentsRow.holds Try.pinned (OpenSpec.ofChange sharesGarmentsWrong)

/-- 'numnahlaw07.SharesAgrees': WHATEVER THE INPUT: true; the input reads as it did. -/
def sharesAgreesSpec : ChangeSpec := { name := "sharesAgrees", fn := fun _ => fun
  | [d1, d2, d3] => { results := [.lit (.bool true)], args := [d1, d2, d3] }
  | _ => none }
def sharesAgreesRow : OpenClaim := { program := "ytbocmbhinjkjlaa", sum := "ad8a944676ef77739551e171ea8c52b2c32defe81bd2f5e448d14f11864b05e9", func := "numnah/numnahlaw07.SharesAgrees", spec := "sharesAgrees", unfollowed := true, recurses := true, apart := false }
def SharesAgreesSaid : Prop := sharesAgreesRow.holds Try.pinned (OpenSpec.ofChange sharesAgreesSpec)

/-- ITS FALSE NEIGHBOUR: 'it returns false'. Refute it at one input. -/
def sharesAgreesWrong : ChangeSpec := { name := "sharesAgrees", fn := fun _ => fun
  | [d1, d2, d3] => { results := [.lit (.bool false)], args := [d1, d2, d3] }
  | _ => none }
def SharesAgreesWrongFalsely : Prop := sharesAgreesRow.holds Try.pinned (OpenSpec.ofChange sharesAgreesWrong)

/-- 'numnahlaw07.SharesFairs': WHATEVER THE INPUT: true; the input reads as it did. -/
def sharesFairsSpec : ChangeSpec := { name := "sharesFairs", fn := fun _ => fun
  | [d1, d2] => { results := [.lit (.bool true)], args := [d1, d2] }
  | _ => none }
def sharesFairsRow : OpenClaim := { program := "ytbocmbhinjkjlaa", sum := "ad8a944676ef77739551e171ea8c52b2c32defe81bd2f5e448d14f11864b05e9", func := "numnah/numnahlaw07.SharesFairs", spec := "sharesFairs", unfollowed := true, recurses := true, apart := false }
def SharesFairsSaid : Prop := sharesFairsRow.holds Try.pinned (OpenSpec.ofChange sharesFairsSpec)

/-- ITS FALSE NEIGHBOUR: 'it returns false'. Refute it at one input. -/
def sharesFairsWrong : ChangeSpec := { name := "sharesFairs", fn := fun _ => fun
  | [d1, d2] => { results := [.lit (.bool false)], args := [d1, d2] }
  | _ => none }
def SharesFairsWrongFalsely : Prop := sharesFairsRow.holds Try.pinned (OpenSpec.ofChange sharesFairsWrong)

/-- 'numnahlaw07.SharesChecks': WHATEVER THE INPUT: true; the input reads as it did. -/
def sharesChecksSpec : ChangeSpec := { name := "sharesChecks", fn := fun _ => fun
  | [d1, d2, d3] => { results := [.lit (.bool true)], args := [d1, d2, d3] }
  | _ => none }
def sharesChecksRow : OpenClaim := { program := "ytbocmbhinjkjlaa", sum := "ad8a944676ef77739551e171ea8c52b2c32defe81bd2f5e448d14f11864b05e9", func := "numnah/numnahlaw07.SharesChecks", spec := "sharesChecks", unfollowed := true, recurses := true, apart := false }
def SharesChecksSaid : Prop := sharesChecksRow.holds Try.pinned (OpenSpec.ofChange sharesChecksSpec)

/-- ITS FALSE NEIGHBOUR: 'it returns false'. Refute it at one input. -/
def sharesChecksWrong : ChangeSpec := { name := "sharesChecks", fn := fun _ => fun
  | [d1, d2, d3] => { results := [.lit (.bool false)], args := [d1, d2, d3] }
  | _ => none }
def SharesChecksWrongFalsely : Prop := sharesChecksRow.holds Try.pinned (OpenSpec.ofChange sharesChecksWrong)

/-- 'numnahlaw07.SharesLoads': WHATEVER THE INPUT: true; the input reads as it did. -/
def sharesLoadsSpec : ChangeSpec := { name := "sharesLoads", fn := fun _ => fun
  | [d1, d2, d3] => { results := [.lit (.bool true)], args := [d1, d2, d3] }
  | _ => none }
def sharesLoadsRow : OpenClaim := { program := "ytbocmbhinjkjlaa", sum := "ad8a944676ef77739551e171ea8c52b2c32defe81bd2f5e448d14f11864b05e9", func := "numnah/numnahlaw07.SharesLoads", spec := "sharesLoads", unfollowed := true, recurses := true, apart := false }
def SharesLoadsSaid : Prop := sharesLoadsRow.holds Try.pinned (OpenSpec.ofChange sharesLoadsSpec)

/-- ITS FALSE NEIGHBOUR: 'it returns false'. Refute it at one input. -/
def sharesLoadsWrong : ChangeSpec := { name := "sharesLoads", fn := fun _ => fun
  | [d1, d2, d3] => { results := [.lit (.bool false)], args := [d1, d2, d3] }
  | _ => none }
def SharesLoadsWrongFalsely : Prop := sharesLoadsRow.holds Try.pinned (OpenSpec.ofChange sharesLoadsWrong)

/-- 'numnahlaw07.SharesFractions': WHATEVER THE INPUT: true; the input reads as it did. -/
def sharesFractionsSpec : ChangeSpec := { name := "sharesFractions", fn := fun _ => fun
  | [d] => { results := [.lit (.bool true)], args := [d] }
  | _ => none }
def sharesFractionsRow : OpenClaim := { program := "ytbocmbhinjkjlaa", sum := "ad8a944676ef77739551e171ea8c52b2c32defe81bd2f5e448d14f11864b05e9", func := "numnah/numnahlaw07.SharesFractions", spec := "sharesFractions", unfollowed := true, recurses := true, apart := false }
def SharesFractionsSaid : Prop := sharesFractionsRow.holds Try.pinned (OpenSpec.ofChange sharesFractionsSpec)

/-- ITS FALSE NEIGHBOUR: 'it returns false'. Refute it at one input. -/
def sharesFractionsWrong : ChangeSpec := { name := "sharesFractions", fn := fun _ => fun
  | [d] => { results := [.lit (.bool false)], args := [d] }
  | _ => none }
def SharesFractionsWrongFalsely : Prop := sharesFractionsRow.holds Try.pinned (OpenSpec.ofChange sharesFractionsWrong)

/-- 'numnahlaw07.SharesTalmud': WHATEVER THE INPUT: true; the input reads as it did. -/
def sharesTalmudSpec : ChangeSpec := { name := "sharesTalmud", fn := fun _ => fun
  | [d1, d2, d3] => { results := [.lit (.bool true)], args := [d1, d2, d3] }
  | _ => none }
def sharesTalmudRow : OpenClaim := { program := "ytbocmbhinjkjlaa", sum := "ad8a944676ef77739551e171ea8c52b2c32defe81bd2f5e448d14f11864b05e9", func := "numnah/numnahlaw07.SharesTalmud", spec := "sharesTalmud", unfollowed := true, recurses := true, apart := false }
def SharesTalmudSaid : Prop := sharesTalmudRow.holds Try.pinned (OpenSpec.ofChange sharesTalmudSpec)

/-- ITS FALSE NEIGHBOUR: 'it returns false'. Refute it at one input. -/
def sharesTalmudWrong : ChangeSpec := { name := "sharesTalmud", fn := fun _ => fun
  | [d1, d2, d3] => { results := [.lit (.bool false)], args := [d1, d2, d3] }
  | _ => none }
def SharesTalmudWrongFalsely : Prop := sharesTalmudRow.holds Try.pinned (OpenSpec.ofChange sharesTalmudWrong)

/-- 'numnahlaw07.SharesDual': WHATEVER THE INPUT: true; the input reads as it did. -/
def sharesDualSpec : ChangeSpec := { name := "sharesDual", fn := fun _ => fun
  | [d1, d2] => { results := [.lit (.bool true)], args := [d1, d2] }
  | _ => none }
def sharesDualRow : OpenClaim := { program := "ytbocmbhinjkjlaa", sum := "ad8a944676ef77739551e171ea8c52b2c32defe81bd2f5e448d14f11864b05e9", func := "numnah/numnahlaw07.SharesDual", spec := "sharesDual", unfollowed := true, recurses := true, apart := false }
def SharesDualSaid : Prop := sharesDualRow.holds Try.pinned (OpenSpec.ofChange sharesDualSpec)

/-- ITS FALSE NEIGHBOUR: 'it returns false'. Refute it at one input. -/
def sharesDualWrong : ChangeSpec := { name := "sharesDual", fn := fun _ => fun
  | [d1, d2] => { results := [.lit (.bool false)], args := [d1, d2] }
  | _ => none }
def SharesDualWrongFalsely : Prop := sharesDualRow.holds Try.pinned (OpenSpec.ofChange sharesDualWrong)

/-- 'numnahlaw07.SharesOrder': WHATEVER THE INPUT: true; the input reads as it did. -/
def sharesOrderSpec : ChangeSpec := { name := "sharesOrder", fn := fun _ => fun
  | [d1, d2, d3] => { results := [.lit (.bool true)], args := [d1, d2, d3] }
  | _ => none }
def sharesOrderRow : OpenClaim := { program := "ytbocmbhinjkjlaa", sum := "ad8a944676ef77739551e171ea8c52b2c32defe81bd2f5e448d14f11864b05e9", func := "numnah/numnahlaw07.SharesOrder", spec := "sharesOrder", unfollowed := true, recurses := true, apart := false }
def SharesOrderSaid : Prop := sharesOrderRow.holds Try.pinned (OpenSpec.ofChange sharesOrderSpec)

/-- ITS FALSE NEIGHBOUR: 'it returns false'. Refute it at one input. -/
def sharesOrderWrong : ChangeSpec := { name := "sharesOrder", fn := fun _ => fun
  | [d1, d2, d3] => { results := [.lit (.bool false)], args := [d1, d2, d3] }
  | _ => none }
def SharesOrderWrongFalsely : Prop := sharesOrderRow.holds Try.pinned (OpenSpec.ofChange sharesOrderWrong)

/-- 'numnahlaw07.SharesSmallest': WHATEVER THE INPUT: true; the input reads as it did. -/
def sharesSmallestSpec : ChangeSpec := { name := "sharesSmallest", fn := fun _ => fun
  | [d1, d2, d3] => { results := [.lit (.bool true)], args := [d1, d2, d3] }
  | _ => none }
def sharesSmallestRow : OpenClaim := { program := "ytbocmbhinjkjlaa", sum := "ad8a944676ef77739551e171ea8c52b2c32defe81bd2f5e448d14f11864b05e9", func := "numnah/numnahlaw07.SharesSmallest", spec := "sharesSmallest", unfollowed := true, recurses := true, apart := false }
def SharesSmallestSaid : Prop := sharesSmallestRow.holds Try.pinned (OpenSpec.ofChange sharesSmallestSpec)

/-- ITS FALSE NEIGHBOUR: 'it returns false'. Refute it at one input. -/
def sharesSmallestWrong : ChangeSpec := { name := "sharesSmallest", fn := fun _ => fun
  | [d1, d2, d3] => { results := [.lit (.bool false)], args := [d1, d2, d3] }
  | _ => none }
def SharesSmallestWrongFalsely : Prop := sharesSmallestRow.holds Try.pinned (OpenSpec.ofChange sharesSmallestWrong)

/-- 'numnahlaw07.SharesTwo': WHATEVER THE INPUT: true; the input reads as it did. -/
def sharesTwoSpec : ChangeSpec := { name := "sharesTwo", fn := fun _ => fun
  | [d1, d2, d3] => { results := [.lit (.bool true)], args := [d1, d2, d3] }
  | _ => none }
def sharesTwoRow : OpenClaim := { program := "ytbocmbhinjkjlaa", sum := "ad8a944676ef77739551e171ea8c52b2c32defe81bd2f5e448d14f11864b05e9", func := "numnah/numnahlaw07.SharesTwo", spec := "sharesTwo", unfollowed := true, recurses := true, apart := false }
def SharesTwoSaid : Prop := sharesTwoRow.holds Try.pinned (OpenSpec.ofChange sharesTwoSpec)

/-- ITS FALSE NEIGHBOUR: 'it returns false'. Refute it at one input. -/
def sharesTwoWrong : ChangeSpec := { name := "sharesTwo", fn := fun _ => fun
  | [d1, d2, d3] => { results := [.lit (.bool false)], args := [d1, d2, d3] }
  | _ => none }
def SharesTwoWrongFalsely : Prop := sharesTwoRow.holds Try.pinned (OpenSpec.ofChange sharesTwoWrong)

/-- 'numnahlaw07.SharesUp': WHATEVER THE INPUT: true; the input reads as it did. -/
def sharesUpSpec : ChangeSpec := { name := "sharesUp", fn := fun _ => fun
  | [d1, d2] => { results := [.lit (.bool true)], args := [d1, d2] }
  | _ => none }
def sharesUpRow : OpenClaim := { program := "ytbocmbhinjkjlaa", sum := "ad8a944676ef77739551e171ea8c52b2c32defe81bd2f5e448d14f11864b05e9", func := "numnah/numnahlaw07.SharesUp", spec := "sharesUp", unfollowed := true, recurses := true, apart := false }
def SharesUpSaid : Prop := sharesUpRow.holds Try.pinned (OpenSpec.ofChange sharesUpSpec)

/-- ITS FALSE NEIGHBOUR: 'it returns false'. Refute it at one input. -/
def sharesUpWrong : ChangeSpec := { name := "sharesUp", fn := fun _ => fun
  | [d1, d2] => { results := [.lit (.bool false)], args := [d1, d2] }
  | _ => none }
def SharesUpWrongFalsely : Prop := sharesUpRow.holds Try.pinned (OpenSpec.ofChange sharesUpWrong)

/-- 'numnahlaw07.SharesEqual': WHATEVER THE INPUT: true; the input reads as it did. -/
def sharesEqualSpec : ChangeSpec := { name := "sharesEqual", fn := fun _ => fun
  | [d1, d2] => { results := [.lit (.bool true)], args := [d1, d2] }
  | _ => none }
def sharesEqualRow : OpenClaim := { program := "ytbocmbhinjkjlaa", sum := "ad8a944676ef77739551e171ea8c52b2c32defe81bd2f5e448d14f11864b05e9", func := "numnah/numnahlaw07.SharesEqual", spec := "sharesEqual", unfollowed := true, recurses := true, apart := false }
def SharesEqualSaid : Prop := sharesEqualRow.holds Try.pinned (OpenSpec.ofChange sharesEqualSpec)

/-- ITS FALSE NEIGHBOUR: 'it returns false'. Refute it at one input. -/
def sharesEqualWrong : ChangeSpec := { name := "sharesEqual", fn := fun _ => fun
  | [d1, d2] => { results := [.lit (.bool false)], args := [d1, d2] }
  | _ => none }
def SharesEqualWrongFalsely : Prop := sharesEqualRow.holds Try.pinned (OpenSpec.ofChange sharesEqualWrong)

/-- 'numnahlaw07.SharesWhole': WHATEVER THE INPUT: true; the input reads as it did. -/
def sharesWholeSpec : ChangeSpec := { name := "sharesWhole", fn := fun _ => fun
  | [d] => { results := [.lit (.bool true)], args := [d] }
  | _ => none }
def sharesWholeRow : OpenClaim := { program := "ytbocmbhinjkjlaa", sum := "ad8a944676ef77739551e171ea8c52b2c32defe81bd2f5e448d14f11864b05e9", func := "numnah/numnahlaw07.SharesWhole", spec := "sharesWhole", unfollowed := true, recurses := true, apart := false }
def SharesWholeSaid : Prop := sharesWholeRow.holds Try.pinned (OpenSpec.ofChange sharesWholeSpec)

/-- ITS FALSE NEIGHBOUR: 'it returns false'. Refute it at one input. -/
def sharesWholeWrong : ChangeSpec := { name := "sharesWhole", fn := fun _ => fun
  | [d] => { results := [.lit (.bool false)], args := [d] }
  | _ => none }
def SharesWholeWrongFalsely : Prop := sharesWholeRow.holds Try.pinned (OpenSpec.ofChange sharesWholeWrong)

/-- 'numnahlaw07.SharesSums': WHATEVER THE INPUT: true; the input reads as it did. -/
def sharesSumsSpec : ChangeSpec := { name := "sharesSums", fn := fun _ => fun
  | [d] => { results := [.lit (.bool true)], args := [d] }
  | _ => none }
def sharesSumsRow : OpenClaim := { program := "ytbocmbhinjkjlaa", sum := "ad8a944676ef77739551e171ea8c52b2c32defe81bd2f5e448d14f11864b05e9", func := "numnah/numnahlaw07.SharesSums", spec := "sharesSums", unfollowed := true, recurses := true, apart := false }
def SharesSumsSaid : Prop := sharesSumsRow.holds Try.pinned (OpenSpec.ofChange sharesSumsSpec)

/-- ITS FALSE NEIGHBOUR: 'it returns false'. Refute it at one input. -/
def sharesSumsWrong : ChangeSpec := { name := "sharesSums", fn := fun _ => fun
  | [d] => { results := [.lit (.bool false)], args := [d] }
  | _ => none }
def SharesSumsWrongFalsely : Prop := sharesSumsRow.holds Try.pinned (OpenSpec.ofChange sharesSumsWrong)

/-- 'numnahlaw07.SharesOwn': WHATEVER THE INPUT: true; the input reads as it did. -/
def sharesOwnSpec : ChangeSpec := { name := "sharesOwn", fn := fun _ => fun
  | [d1, d2, d3] => { results := [.lit (.bool true)], args := [d1, d2, d3] }
  | _ => none }
def sharesOwnRow : OpenClaim := { program := "ytbocmbhinjkjlaa", sum := "ad8a944676ef77739551e171ea8c52b2c32defe81bd2f5e448d14f11864b05e9", func := "numnah/numnahlaw07.SharesOwn", spec := "sharesOwn", unfollowed := true, recurses := true, apart := false }
def SharesOwnSaid : Prop := sharesOwnRow.holds Try.pinned (OpenSpec.ofChange sharesOwnSpec)

/-- ITS FALSE NEIGHBOUR: 'it returns false'. Refute it at one input. -/
def sharesOwnWrong : ChangeSpec := { name := "sharesOwn", fn := fun _ => fun
  | [d1, d2, d3] => { results := [.lit (.bool false)], args := [d1, d2, d3] }
  | _ => none }
def SharesOwnWrongFalsely : Prop := sharesOwnRow.holds Try.pinned (OpenSpec.ofChange sharesOwnWrong)

/- THE SECOND FORM. 'bulk': how many values and letters a reading holds, each counted each time it is reached (what is shared counts as often as it is met; a slice's spare places count too). A statement '..UptoSaid' is the law's where the arguments, and the package variables that the reading takes, are together of bulk at most 1048576: NARROWER than '..Said'. Prove '..Said' where nothing that the law and all that it calls make is longer than what came in: it says more and counts as full. Else prove '..UptoSaid'. A law counts once. -/
mutual
def uptoBulk {H : Type} : DataW H → Nat
  | .lit (.string bytes) => bytes.length + 1
  | .lit _ => 1
  | .nil => 1
  | .ptr d => uptoBulk d + 1
  | .slice elems spare => uptoBulkAll elems + uptoBulkAll spare + 1
  | .agg parts => uptoBulkAll parts + 1
  | .iface _ d => uptoBulk d + 1
  | .map entries => uptoBulkEntries entries + 1
  | .held _ => 1
def uptoBulkAll {H : Type} : List (DataW H) → Nat
  | [] => 0
  | d :: r => uptoBulk d + uptoBulkAll r
def uptoBulkEntries {H : Type} : List (Lit × DataW H) → Nat
  | [] => 0
  | x :: r => uptoBulkEntry x + uptoBulkEntries r
def uptoBulkEntry {H : Type} : Lit × DataW H → Nat
  | (.string bytes, d) => bytes.length + uptoBulk d + 1
  | (_, d) => uptoBulk d + 1
 end
def uptoSmall : (H : Type) → List (DataW H) → Bool := fun _ ds => decide (uptoBulkAll ds ≤ 1048576)
def OpenSpec.upto (s : _root_.Go.ChangeSpec) : _root_.Go.OpenSpec := { _root_.Go.OpenSpec.ofChange s with cond := some uptoSmall }

/-- 'numnahlaw07.SharesAwards', WHERE WHAT IT READS IS OF BULK AT MOST 1048576: true; the input reads as it did. -/
def sharesAwardsUptoRow : OpenClaim := { program := "ytbocmbhinjkjlaa", sum := "ad8a944676ef77739551e171ea8c52b2c32defe81bd2f5e448d14f11864b05e9", func := "numnah/numnahlaw07.SharesAwards", spec := "sharesAwards", unfollowed := true, recurses := true, apart := false, narrowed := true }
def SharesAwardsUptoSaid : Prop := sharesAwardsUptoRow.holds Try.pinned (OpenSpec.upto sharesAwardsSpec)

/-- 'numnahlaw07.SharesGarments', WHERE WHAT IT READS IS OF BULK AT MOST 1048576: true; the input reads as it did. -/
def sharesGarmentsUptoRow : OpenClaim := { program := "ytbocmbhinjkjlaa", sum := "ad8a944676ef77739551e171ea8c52b2c32defe81bd2f5e448d14f11864b05e9", func := "numnah/numnahlaw07.SharesGarments", spec := "sharesGarments", unfollowed := true, recurses := true, apart := false, narrowed := true }
def SharesGarmentsUptoSaid : Prop := sharesGarmentsUptoRow.holds Try.pinned (OpenSpec.upto sharesGarmentsSpec)

/-- 'numnahlaw07.SharesAgrees', WHERE WHAT IT READS IS OF BULK AT MOST 1048576: true; the input reads as it did. -/
def sharesAgreesUptoRow : OpenClaim := { program := "ytbocmbhinjkjlaa", sum := "ad8a944676ef77739551e171ea8c52b2c32defe81bd2f5e448d14f11864b05e9", func := "numnah/numnahlaw07.SharesAgrees", spec := "sharesAgrees", unfollowed := true, recurses := true, apart := false, narrowed := true }
def SharesAgreesUptoSaid : Prop := sharesAgreesUptoRow.holds Try.pinned (OpenSpec.upto sharesAgreesSpec)

/-- 'numnahlaw07.SharesFairs', WHERE WHAT IT READS IS OF BULK AT MOST 1048576: true; the input reads as it did. -/
def sharesFairsUptoRow : OpenClaim := { program := "ytbocmbhinjkjlaa", sum := "ad8a944676ef77739551e171ea8c52b2c32defe81bd2f5e448d14f11864b05e9", func := "numnah/numnahlaw07.SharesFairs", spec := "sharesFairs", unfollowed := true, recurses := true, apart := false, narrowed := true }
def SharesFairsUptoSaid : Prop := sharesFairsUptoRow.holds Try.pinned (OpenSpec.upto sharesFairsSpec)

/-- 'numnahlaw07.SharesChecks', WHERE WHAT IT READS IS OF BULK AT MOST 1048576: true; the input reads as it did. -/
def sharesChecksUptoRow : OpenClaim := { program := "ytbocmbhinjkjlaa", sum := "ad8a944676ef77739551e171ea8c52b2c32defe81bd2f5e448d14f11864b05e9", func := "numnah/numnahlaw07.SharesChecks", spec := "sharesChecks", unfollowed := true, recurses := true, apart := false, narrowed := true }
def SharesChecksUptoSaid : Prop := sharesChecksUptoRow.holds Try.pinned (OpenSpec.upto sharesChecksSpec)

/-- 'numnahlaw07.SharesLoads', WHERE WHAT IT READS IS OF BULK AT MOST 1048576: true; the input reads as it did. -/
def sharesLoadsUptoRow : OpenClaim := { program := "ytbocmbhinjkjlaa", sum := "ad8a944676ef77739551e171ea8c52b2c32defe81bd2f5e448d14f11864b05e9", func := "numnah/numnahlaw07.SharesLoads", spec := "sharesLoads", unfollowed := true, recurses := true, apart := false, narrowed := true }
def SharesLoadsUptoSaid : Prop := sharesLoadsUptoRow.holds Try.pinned (OpenSpec.upto sharesLoadsSpec)

/-- 'numnahlaw07.SharesFractions', WHERE WHAT IT READS IS OF BULK AT MOST 1048576: true; the input reads as it did. -/
def sharesFractionsUptoRow : OpenClaim := { program := "ytbocmbhinjkjlaa", sum := "ad8a944676ef77739551e171ea8c52b2c32defe81bd2f5e448d14f11864b05e9", func := "numnah/numnahlaw07.SharesFractions", spec := "sharesFractions", unfollowed := true, recurses := true, apart := false, narrowed := true }
def SharesFractionsUptoSaid : Prop := sharesFractionsUptoRow.holds Try.pinned (OpenSpec.upto sharesFractionsSpec)

/-- 'numnahlaw07.SharesTalmud', WHERE WHAT IT READS IS OF BULK AT MOST 1048576: true; the input reads as it did. -/
def sharesTalmudUptoRow : OpenClaim := { program := "ytbocmbhinjkjlaa", sum := "ad8a944676ef77739551e171ea8c52b2c32defe81bd2f5e448d14f11864b05e9", func := "numnah/numnahlaw07.SharesTalmud", spec := "sharesTalmud", unfollowed := true, recurses := true, apart := false, narrowed := true }
def SharesTalmudUptoSaid : Prop := sharesTalmudUptoRow.holds Try.pinned (OpenSpec.upto sharesTalmudSpec)

/-- 'numnahlaw07.SharesDual', WHERE WHAT IT READS IS OF BULK AT MOST 1048576: true; the input reads as it did. -/
def sharesDualUptoRow : OpenClaim := { program := "ytbocmbhinjkjlaa", sum := "ad8a944676ef77739551e171ea8c52b2c32defe81bd2f5e448d14f11864b05e9", func := "numnah/numnahlaw07.SharesDual", spec := "sharesDual", unfollowed := true, recurses := true, apart := false, narrowed := true }
def SharesDualUptoSaid : Prop := sharesDualUptoRow.holds Try.pinned (OpenSpec.upto sharesDualSpec)

/-- 'numnahlaw07.SharesOrder', WHERE WHAT IT READS IS OF BULK AT MOST 1048576: true; the input reads as it did. -/
def sharesOrderUptoRow : OpenClaim := { program := "ytbocmbhinjkjlaa", sum := "ad8a944676ef77739551e171ea8c52b2c32defe81bd2f5e448d14f11864b05e9", func := "numnah/numnahlaw07.SharesOrder", spec := "sharesOrder", unfollowed := true, recurses := true, apart := false, narrowed := true }
def SharesOrderUptoSaid : Prop := sharesOrderUptoRow.holds Try.pinned (OpenSpec.upto sharesOrderSpec)

/-- 'numnahlaw07.SharesSmallest', WHERE WHAT IT READS IS OF BULK AT MOST 1048576: true; the input reads as it did. -/
def sharesSmallestUptoRow : OpenClaim := { program := "ytbocmbhinjkjlaa", sum := "ad8a944676ef77739551e171ea8c52b2c32defe81bd2f5e448d14f11864b05e9", func := "numnah/numnahlaw07.SharesSmallest", spec := "sharesSmallest", unfollowed := true, recurses := true, apart := false, narrowed := true }
def SharesSmallestUptoSaid : Prop := sharesSmallestUptoRow.holds Try.pinned (OpenSpec.upto sharesSmallestSpec)

/-- 'numnahlaw07.SharesTwo', WHERE WHAT IT READS IS OF BULK AT MOST 1048576: true; the input reads as it did. -/
def sharesTwoUptoRow : OpenClaim := { program := "ytbocmbhinjkjlaa", sum := "ad8a944676ef77739551e171ea8c52b2c32defe81bd2f5e448d14f11864b05e9", func := "numnah/numnahlaw07.SharesTwo", spec := "sharesTwo", unfollowed := true, recurses := true, apart := false, narrowed := true }
def SharesTwoUptoSaid : Prop := sharesTwoUptoRow.holds Try.pinned (OpenSpec.upto sharesTwoSpec)

/-- 'numnahlaw07.SharesUp', WHERE WHAT IT READS IS OF BULK AT MOST 1048576: true; the input reads as it did. -/
def sharesUpUptoRow : OpenClaim := { program := "ytbocmbhinjkjlaa", sum := "ad8a944676ef77739551e171ea8c52b2c32defe81bd2f5e448d14f11864b05e9", func := "numnah/numnahlaw07.SharesUp", spec := "sharesUp", unfollowed := true, recurses := true, apart := false, narrowed := true }
def SharesUpUptoSaid : Prop := sharesUpUptoRow.holds Try.pinned (OpenSpec.upto sharesUpSpec)

/-- 'numnahlaw07.SharesEqual', WHERE WHAT IT READS IS OF BULK AT MOST 1048576: true; the input reads as it did. -/
def sharesEqualUptoRow : OpenClaim := { program := "ytbocmbhinjkjlaa", sum := "ad8a944676ef77739551e171ea8c52b2c32defe81bd2f5e448d14f11864b05e9", func := "numnah/numnahlaw07.SharesEqual", spec := "sharesEqual", unfollowed := true, recurses := true, apart := false, narrowed := true }
def SharesEqualUptoSaid : Prop := sharesEqualUptoRow.holds Try.pinned (OpenSpec.upto sharesEqualSpec)

/-- 'numnahlaw07.SharesWhole', WHERE WHAT IT READS IS OF BULK AT MOST 1048576: true; the input reads as it did. -/
def sharesWholeUptoRow : OpenClaim := { program := "ytbocmbhinjkjlaa", sum := "ad8a944676ef77739551e171ea8c52b2c32defe81bd2f5e448d14f11864b05e9", func := "numnah/numnahlaw07.SharesWhole", spec := "sharesWhole", unfollowed := true, recurses := true, apart := false, narrowed := true }
def SharesWholeUptoSaid : Prop := sharesWholeUptoRow.holds Try.pinned (OpenSpec.upto sharesWholeSpec)

/-- 'numnahlaw07.SharesSums', WHERE WHAT IT READS IS OF BULK AT MOST 1048576: true; the input reads as it did. -/
def sharesSumsUptoRow : OpenClaim := { program := "ytbocmbhinjkjlaa", sum := "ad8a944676ef77739551e171ea8c52b2c32defe81bd2f5e448d14f11864b05e9", func := "numnah/numnahlaw07.SharesSums", spec := "sharesSums", unfollowed := true, recurses := true, apart := false, narrowed := true }
def SharesSumsUptoSaid : Prop := sharesSumsUptoRow.holds Try.pinned (OpenSpec.upto sharesSumsSpec)

/-- 'numnahlaw07.SharesOwn', WHERE WHAT IT READS IS OF BULK AT MOST 1048576: true; the input reads as it did. -/
def sharesOwnUptoRow : OpenClaim := { program := "ytbocmbhinjkjlaa", sum := "ad8a944676ef77739551e171ea8c52b2c32defe81bd2f5e448d14f11864b05e9", func := "numnah/numnahlaw07.SharesOwn", spec := "sharesOwn", unfollowed := true, recurses := true, apart := false, narrowed := true }
def SharesOwnUptoSaid : Prop := sharesOwnUptoRow.holds Try.pinned (OpenSpec.upto sharesOwnSpec)

end Rows
end Go.Proofs.Ytbocmbhinjkjlaa
