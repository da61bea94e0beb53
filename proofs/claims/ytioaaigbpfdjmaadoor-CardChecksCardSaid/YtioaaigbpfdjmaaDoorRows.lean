/-
  NARROWER THAN 'FOR EVERY INPUT', by the rows' own cells (each row's printed sentence says how): CardPrimes: laid · CardCovers: laid · CardChecks: laid · CardSums: laid · CardWeights: laid · CardRealizes: laid · CardTurns: laid · CardPoints: laid · CardBounds: laid · CardInside: laid · CardTwice: laid · CardMeasured: laid.
  DERIVED. THE GIVEN ROWS OF THIS SEAT. 12 by the template 'for every input the law returns true; each argument reads behind the call as it read before'; 0 by the template 'total and deterministic' (their statements: YtioaaigbpfdjmaaDoorTotals.lean).
  GIVEN WITH THE SEED: the statements are not yours to turn. If you find one false, say at which input.
  Laid BY PROGRAM, IN A SANDBOX (cutbox-rows.mjs): the forced cells as the released guide's own fill.sh prints them over the translation e0d90b5d9153846e… (all of the seat's roots in one cut). By AI agents, Wed Nov 11 2026. No macro, syntax, notation, axiom, sorry.
-/
import Derived.Test.YtioaaigbpfdjmaaDoorChecked
import GoSem.Claim
import GoSem.ClaimJoined
import GoSem.ClaimMapViews
import Derived.JoinedTies
import Derived.KernelRfl
namespace Go.Proofs.YtioaaigbpfdjmaaDoor
/- THE CELL 'sum', in the pinned program and in every row, IS THE sha256 OF THE DUMP (.gsa) THAT YtioaaigbpfdjmaaDoorProg.lean LOADS. Nothing in Lean hashes anything: it is a label: what it is worth is what the hold of that sum in a sandbox is worth. -/
noncomputable def Tryd.pinned : Pinned := { name := "ytioaaigbpfdjmaadoor", sum := "e0d90b5d9153846e5d8ab83849b7b8ab924ffcae726803d3323d074b2739a5b9", checked := Tryd.checked }
namespace Rows
def none {H : Type} : Left H := { results := [], args := [] }

/- WHAT THE LISTED PACKAGE-LEVEL VARIABLES READ AS WHEN THE CALL BEGINS. Each datum BY PROGRAM (the guide's laid-datum.mjs) off the statement by which the dump's own 'gosem.cut.vars' lays the variable. In a bare row this is a premise. The card (YtioaaigbpfdjmaaDoorCards.lean) ties it to the program's text. -/
def laid_math_bits_deBruijn32tab {H : Type} : DataW H := .agg [.lit (.int .u8 0), .lit (.int .u8 1), .lit (.int .u8 28), .lit (.int .u8 2), .lit (.int .u8 29), .lit (.int .u8 14), .lit (.int .u8 24), .lit (.int .u8 3), .lit (.int .u8 30), .lit (.int .u8 22), .lit (.int .u8 20), .lit (.int .u8 15), .lit (.int .u8 25), .lit (.int .u8 17), .lit (.int .u8 4), .lit (.int .u8 8), .lit (.int .u8 31), .lit (.int .u8 27), .lit (.int .u8 13), .lit (.int .u8 23), .lit (.int .u8 21), .lit (.int .u8 19), .lit (.int .u8 16), .lit (.int .u8 7), .lit (.int .u8 26), .lit (.int .u8 12), .lit (.int .u8 18), .lit (.int .u8 6), .lit (.int .u8 11), .lit (.int .u8 5), .lit (.int .u8 10), .lit (.int .u8 9)]

/-- 'numnahlaw01.CardPrimes': WHATEVER THE INPUT: true; the input reads as it did. -/
def cardPrimesSpec : ChangeSpec := { name := "cardPrimes", fn := fun _ => fun
  | [d] => { results := [.lit (.bool true)], args := [d] }
  | _ => none }
def cardPrimesRow : OpenClaim := { program := "ytioaaigbpfdjmaadoor", sum := "e0d90b5d9153846e5d8ab83849b7b8ab924ffcae726803d3323d074b2739a5b9", func := "numnah/numnahlaw01.CardPrimes", spec := "cardPrimes", inPlace := ["internal/bytealg.abigen_runtime_cmpstring", "internal/bytealg.IndexByteString", "internal/bytealg.IndexString"], unfollowed := true, recurses := true, named := ["math/bits.deBruijn32tab", "internal/bytealg.MaxLen"], plainKeys := false, apart := false, laid := [("math/bits.deBruijn32tab", laid_math_bits_deBruijn32tab)] }
def CardPrimesSaid : Prop := cardPrimesRow.holds Tryd.pinned (OpenSpec.ofChange cardPrimesSpec)

/-- ITS FALSE NEIGHBOUR: 'it returns false'. Refute it at one input. -/
def cardPrimesWrong : ChangeSpec := { name := "cardPrimes", fn := fun _ => fun
  | [d] => { results := [.lit (.bool false)], args := [d] }
  | _ => none }
def CardPrimesWrongFalsely : Prop := cardPrimesRow.holds Tryd.pinned (OpenSpec.ofChange cardPrimesWrong)

/-- 'numnahlaw01.CardCovers': WHATEVER THE INPUT: true; the input reads as it did. -/
def cardCoversSpec : ChangeSpec := { name := "cardCovers", fn := fun _ => fun
  | [d] => { results := [.lit (.bool true)], args := [d] }
  | _ => none }
def cardCoversRow : OpenClaim := { program := "ytioaaigbpfdjmaadoor", sum := "e0d90b5d9153846e5d8ab83849b7b8ab924ffcae726803d3323d074b2739a5b9", func := "numnah/numnahlaw01.CardCovers", spec := "cardCovers", inPlace := ["internal/bytealg.abigen_runtime_cmpstring", "internal/bytealg.IndexByteString", "internal/bytealg.IndexString"], unfollowed := true, recurses := true, named := ["math/bits.deBruijn32tab", "internal/bytealg.MaxLen"], plainKeys := false, apart := false, laid := [("math/bits.deBruijn32tab", laid_math_bits_deBruijn32tab)] }
def CardCoversSaid : Prop := cardCoversRow.holds Tryd.pinned (OpenSpec.ofChange cardCoversSpec)

/-- ITS FALSE NEIGHBOUR: 'it returns false'. Refute it at one input. -/
def cardCoversWrong : ChangeSpec := { name := "cardCovers", fn := fun _ => fun
  | [d] => { results := [.lit (.bool false)], args := [d] }
  | _ => none }
def CardCoversWrongFalsely : Prop := cardCoversRow.holds Tryd.pinned (OpenSpec.ofChange cardCoversWrong)

/-- 'numnahlaw01.CardChecks': WHATEVER THE INPUT: true; the input reads as it did. -/
def cardChecksSpec : ChangeSpec := { name := "cardChecks", fn := fun _ => fun
  | [d1, d2] => { results := [.lit (.bool true)], args := [d1, d2] }
  | _ => none }
def cardChecksRow : OpenClaim := { program := "ytioaaigbpfdjmaadoor", sum := "e0d90b5d9153846e5d8ab83849b7b8ab924ffcae726803d3323d074b2739a5b9", func := "numnah/numnahlaw01.CardChecks", spec := "cardChecks", inPlace := ["internal/bytealg.abigen_runtime_cmpstring", "internal/bytealg.IndexByteString", "internal/bytealg.IndexString"], unfollowed := true, recurses := true, named := ["internal/bytealg.MaxLen", "math/bits.deBruijn32tab"], plainKeys := false, apart := false, laid := [("math/bits.deBruijn32tab", laid_math_bits_deBruijn32tab)] }
def CardChecksSaid : Prop := cardChecksRow.holds Tryd.pinned (OpenSpec.ofChange cardChecksSpec)

/-- ITS FALSE NEIGHBOUR: 'it returns false'. Refute it at one input. -/
def cardChecksWrong : ChangeSpec := { name := "cardChecks", fn := fun _ => fun
  | [d1, d2] => { results := [.lit (.bool false)], args := [d1, d2] }
  | _ => none }
def CardChecksWrongFalsely : Prop := cardChecksRow.holds Tryd.pinned (OpenSpec.ofChange cardChecksWrong)

/-- 'numnahlaw01.CardSums': WHATEVER THE INPUT: true; the input reads as it did. -/
def cardSumsSpec : ChangeSpec := { name := "cardSums", fn := fun _ => fun
  | [d] => { results := [.lit (.bool true)], args := [d] }
  | _ => none }
def cardSumsRow : OpenClaim := { program := "ytioaaigbpfdjmaadoor", sum := "e0d90b5d9153846e5d8ab83849b7b8ab924ffcae726803d3323d074b2739a5b9", func := "numnah/numnahlaw01.CardSums", spec := "cardSums", inPlace := ["internal/bytealg.IndexByteString", "internal/bytealg.IndexString", "internal/bytealg.abigen_runtime_cmpstring"], unfollowed := true, recurses := true, named := ["internal/bytealg.MaxLen", "math/bits.deBruijn32tab"], plainKeys := false, apart := false, laid := [("math/bits.deBruijn32tab", laid_math_bits_deBruijn32tab)] }
def CardSumsSaid : Prop := cardSumsRow.holds Tryd.pinned (OpenSpec.ofChange cardSumsSpec)

/-- ITS FALSE NEIGHBOUR: 'it returns false'. Refute it at one input. -/
def cardSumsWrong : ChangeSpec := { name := "cardSums", fn := fun _ => fun
  | [d] => { results := [.lit (.bool false)], args := [d] }
  | _ => none }
def CardSumsWrongFalsely : Prop := cardSumsRow.holds Tryd.pinned (OpenSpec.ofChange cardSumsWrong)

/-- 'numnahlaw01.CardWeights': WHATEVER THE INPUT: true; the input reads as it did. -/
def cardWeightsSpec : ChangeSpec := { name := "cardWeights", fn := fun _ => fun
  | [d] => { results := [.lit (.bool true)], args := [d] }
  | _ => none }
def cardWeightsRow : OpenClaim := { program := "ytioaaigbpfdjmaadoor", sum := "e0d90b5d9153846e5d8ab83849b7b8ab924ffcae726803d3323d074b2739a5b9", func := "numnah/numnahlaw01.CardWeights", spec := "cardWeights", inPlace := ["internal/bytealg.IndexByteString", "internal/bytealg.IndexString", "internal/bytealg.abigen_runtime_cmpstring"], unfollowed := true, recurses := true, named := ["internal/bytealg.MaxLen", "math/bits.deBruijn32tab"], plainKeys := false, apart := false, laid := [("math/bits.deBruijn32tab", laid_math_bits_deBruijn32tab)] }
def CardWeightsSaid : Prop := cardWeightsRow.holds Tryd.pinned (OpenSpec.ofChange cardWeightsSpec)

/-- ITS FALSE NEIGHBOUR: 'it returns false'. Refute it at one input. -/
def cardWeightsWrong : ChangeSpec := { name := "cardWeights", fn := fun _ => fun
  | [d] => { results := [.lit (.bool false)], args := [d] }
  | _ => none }
def CardWeightsWrongFalsely : Prop := cardWeightsRow.holds Tryd.pinned (OpenSpec.ofChange cardWeightsWrong)

/-- 'numnahlaw01.CardRealizes': WHATEVER THE INPUT: true; the input reads as it did. -/
def cardRealizesSpec : ChangeSpec := { name := "cardRealizes", fn := fun _ => fun
  | [d1, d2, d3] => { results := [.lit (.bool true)], args := [d1, d2, d3] }
  | _ => none }
def cardRealizesRow : OpenClaim := { program := "ytioaaigbpfdjmaadoor", sum := "e0d90b5d9153846e5d8ab83849b7b8ab924ffcae726803d3323d074b2739a5b9", func := "numnah/numnahlaw01.CardRealizes", spec := "cardRealizes", inPlace := ["internal/bytealg.IndexByteString", "internal/bytealg.IndexString", "internal/bytealg.abigen_runtime_cmpstring"], unfollowed := true, recurses := true, named := ["internal/bytealg.MaxLen", "math/bits.deBruijn32tab"], plainKeys := false, apart := false, laid := [("math/bits.deBruijn32tab", laid_math_bits_deBruijn32tab)] }
def CardRealizesSaid : Prop := cardRealizesRow.holds Tryd.pinned (OpenSpec.ofChange cardRealizesSpec)

/-- ITS FALSE NEIGHBOUR: 'it returns false'. Refute it at one input. -/
def cardRealizesWrong : ChangeSpec := { name := "cardRealizes", fn := fun _ => fun
  | [d1, d2, d3] => { results := [.lit (.bool false)], args := [d1, d2, d3] }
  | _ => none }
def CardRealizesWrongFalsely : Prop := cardRealizesRow.holds Tryd.pinned (OpenSpec.ofChange cardRealizesWrong)

/-- 'numnahlaw01.CardTurns': WHATEVER THE INPUT: true; the input reads as it did. -/
def cardTurnsSpec : ChangeSpec := { name := "cardTurns", fn := fun _ => fun
  | [d1, d2, d3] => { results := [.lit (.bool true)], args := [d1, d2, d3] }
  | _ => none }
def cardTurnsRow : OpenClaim := { program := "ytioaaigbpfdjmaadoor", sum := "e0d90b5d9153846e5d8ab83849b7b8ab924ffcae726803d3323d074b2739a5b9", func := "numnah/numnahlaw01.CardTurns", spec := "cardTurns", inPlace := ["internal/bytealg.abigen_runtime_cmpstring", "internal/bytealg.IndexByteString", "internal/bytealg.IndexString"], unfollowed := true, recurses := true, named := ["internal/bytealg.MaxLen", "math/bits.deBruijn32tab"], plainKeys := false, apart := false, laid := [("math/bits.deBruijn32tab", laid_math_bits_deBruijn32tab)] }
def CardTurnsSaid : Prop := cardTurnsRow.holds Tryd.pinned (OpenSpec.ofChange cardTurnsSpec)

/-- ITS FALSE NEIGHBOUR: 'it returns false'. Refute it at one input. -/
def cardTurnsWrong : ChangeSpec := { name := "cardTurns", fn := fun _ => fun
  | [d1, d2, d3] => { results := [.lit (.bool false)], args := [d1, d2, d3] }
  | _ => none }
def CardTurnsWrongFalsely : Prop := cardTurnsRow.holds Tryd.pinned (OpenSpec.ofChange cardTurnsWrong)

/-- 'numnahlaw01.CardPoints': WHATEVER THE INPUT: true; the input reads as it did. -/
def cardPointsSpec : ChangeSpec := { name := "cardPoints", fn := fun _ => fun
  | [d] => { results := [.lit (.bool true)], args := [d] }
  | _ => none }
def cardPointsRow : OpenClaim := { program := "ytioaaigbpfdjmaadoor", sum := "e0d90b5d9153846e5d8ab83849b7b8ab924ffcae726803d3323d074b2739a5b9", func := "numnah/numnahlaw01.CardPoints", spec := "cardPoints", inPlace := ["internal/bytealg.abigen_runtime_cmpstring", "internal/bytealg.IndexByteString", "internal/bytealg.IndexString"], unfollowed := true, recurses := true, named := ["math/bits.deBruijn32tab", "internal/bytealg.MaxLen"], plainKeys := false, apart := false, laid := [("math/bits.deBruijn32tab", laid_math_bits_deBruijn32tab)] }
def CardPointsSaid : Prop := cardPointsRow.holds Tryd.pinned (OpenSpec.ofChange cardPointsSpec)

/-- ITS FALSE NEIGHBOUR: 'it returns false'. Refute it at one input. -/
def cardPointsWrong : ChangeSpec := { name := "cardPoints", fn := fun _ => fun
  | [d] => { results := [.lit (.bool false)], args := [d] }
  | _ => none }
def CardPointsWrongFalsely : Prop := cardPointsRow.holds Tryd.pinned (OpenSpec.ofChange cardPointsWrong)

/-- 'numnahlaw01.CardBounds': WHATEVER THE INPUT: true; the input reads as it did. -/
def cardBoundsSpec : ChangeSpec := { name := "cardBounds", fn := fun _ => fun
  | [d1, d2, d3] => { results := [.lit (.bool true)], args := [d1, d2, d3] }
  | _ => none }
def cardBoundsRow : OpenClaim := { program := "ytioaaigbpfdjmaadoor", sum := "e0d90b5d9153846e5d8ab83849b7b8ab924ffcae726803d3323d074b2739a5b9", func := "numnah/numnahlaw01.CardBounds", spec := "cardBounds", inPlace := ["internal/bytealg.abigen_runtime_cmpstring", "internal/bytealg.IndexByteString", "internal/bytealg.IndexString"], unfollowed := true, recurses := true, named := ["math/bits.deBruijn32tab", "internal/bytealg.MaxLen"], plainKeys := false, apart := false, laid := [("math/bits.deBruijn32tab", laid_math_bits_deBruijn32tab)] }
def CardBoundsSaid : Prop := cardBoundsRow.holds Tryd.pinned (OpenSpec.ofChange cardBoundsSpec)

/-- ITS FALSE NEIGHBOUR: 'it returns false'. Refute it at one input. -/
def cardBoundsWrong : ChangeSpec := { name := "cardBounds", fn := fun _ => fun
  | [d1, d2, d3] => { results := [.lit (.bool false)], args := [d1, d2, d3] }
  | _ => none }
def CardBoundsWrongFalsely : Prop := cardBoundsRow.holds Tryd.pinned (OpenSpec.ofChange cardBoundsWrong)

/-- 'numnahlaw01.CardInside': WHATEVER THE INPUT: true; the input reads as it did. -/
def cardInsideSpec : ChangeSpec := { name := "cardInside", fn := fun _ => fun
  | [d1, d2, d3] => { results := [.lit (.bool true)], args := [d1, d2, d3] }
  | _ => none }
def cardInsideRow : OpenClaim := { program := "ytioaaigbpfdjmaadoor", sum := "e0d90b5d9153846e5d8ab83849b7b8ab924ffcae726803d3323d074b2739a5b9", func := "numnah/numnahlaw01.CardInside", spec := "cardInside", inPlace := ["internal/bytealg.abigen_runtime_cmpstring", "internal/bytealg.IndexByteString", "internal/bytealg.IndexString"], unfollowed := true, recurses := true, named := ["internal/bytealg.MaxLen", "math/bits.deBruijn32tab"], plainKeys := false, apart := false, laid := [("math/bits.deBruijn32tab", laid_math_bits_deBruijn32tab)] }
def CardInsideSaid : Prop := cardInsideRow.holds Tryd.pinned (OpenSpec.ofChange cardInsideSpec)

/-- ITS FALSE NEIGHBOUR: 'it returns false'. Refute it at one input. -/
def cardInsideWrong : ChangeSpec := { name := "cardInside", fn := fun _ => fun
  | [d1, d2, d3] => { results := [.lit (.bool false)], args := [d1, d2, d3] }
  | _ => none }
def CardInsideWrongFalsely : Prop := cardInsideRow.holds Tryd.pinned (OpenSpec.ofChange cardInsideWrong)

/-- 'numnahlaw01.CardTwice': WHATEVER THE INPUT: true; the input reads as it did. -/
def cardTwiceSpec : ChangeSpec := { name := "cardTwice", fn := fun _ => fun
  | [d1, d2, d3] => { results := [.lit (.bool true)], args := [d1, d2, d3] }
  | _ => none }
def cardTwiceRow : OpenClaim := { program := "ytioaaigbpfdjmaadoor", sum := "e0d90b5d9153846e5d8ab83849b7b8ab924ffcae726803d3323d074b2739a5b9", func := "numnah/numnahlaw01.CardTwice", spec := "cardTwice", inPlace := ["internal/bytealg.IndexByteString", "internal/bytealg.IndexString", "internal/bytealg.abigen_runtime_cmpstring"], unfollowed := true, recurses := true, named := ["internal/bytealg.MaxLen", "math/bits.deBruijn32tab"], plainKeys := false, apart := false, laid := [("math/bits.deBruijn32tab", laid_math_bits_deBruijn32tab)] }
def CardTwiceSaid : Prop := cardTwiceRow.holds Tryd.pinned (OpenSpec.ofChange cardTwiceSpec)

/-- ITS FALSE NEIGHBOUR: 'it returns false'. Refute it at one input. -/
def cardTwiceWrong : ChangeSpec := { name := "cardTwice", fn := fun _ => fun
  | [d1, d2, d3] => { results := [.lit (.bool false)], args := [d1, d2, d3] }
  | _ => none }
def CardTwiceWrongFalsely : Prop := cardTwiceRow.holds Tryd.pinned (OpenSpec.ofChange cardTwiceWrong)

/-- 'numnahlaw01.CardMeasured': WHATEVER THE INPUT: true; the input reads as it did. -/
def cardMeasuredSpec : ChangeSpec := { name := "cardMeasured", fn := fun _ => fun
  | [d1, d2] => { results := [.lit (.bool true)], args := [d1, d2] }
  | _ => none }
def cardMeasuredRow : OpenClaim := { program := "ytioaaigbpfdjmaadoor", sum := "e0d90b5d9153846e5d8ab83849b7b8ab924ffcae726803d3323d074b2739a5b9", func := "numnah/numnahlaw01.CardMeasured", spec := "cardMeasured", inPlace := ["internal/bytealg.IndexByteString", "internal/bytealg.IndexString", "internal/bytealg.abigen_runtime_cmpstring"], unfollowed := true, recurses := true, named := ["internal/bytealg.MaxLen", "math/bits.deBruijn32tab"], plainKeys := false, apart := false, laid := [("math/bits.deBruijn32tab", laid_math_bits_deBruijn32tab)] }
def CardMeasuredSaid : Prop := cardMeasuredRow.holds Tryd.pinned (OpenSpec.ofChange cardMeasuredSpec)

/-- ITS FALSE NEIGHBOUR: 'it returns false'. Refute it at one input. -/
def cardMeasuredWrong : ChangeSpec := { name := "cardMeasured", fn := fun _ => fun
  | [d1, d2] => { results := [.lit (.bool false)], args := [d1, d2] }
  | _ => none }
def CardMeasuredWrongFalsely : Prop := cardMeasuredRow.holds Tryd.pinned (OpenSpec.ofChange cardMeasuredWrong)

/- THE SECOND FORM. 'bulk': how many values and letters a reading holds, each counted each time it is reached (what is shared counts as often as it is met; a slice's spare places count too). A statement '..UptoSaid' is the law's where the arguments, and the package variables that the reading takes, are together of bulk at most 1048576: NARROWER than '..Said'. Prove '..Said' where nothing that the law and all that it calls make is longer than what came in: it says more and counts as full. Else prove '..UptoSaid'. A law counts once. -/
mutual
def uptoBulk {H : Type} : DataW H → Nat
  | .lit (.string bytes) => bytes.length + 1
  | .lit _ => 1
  | .nil => 1
  | .ptr d => uptoBulk d + 1
  | .slice elems spare => uptoBulkAll elems + uptoBulkAll spare + 1
  | .agg parts => uptoBulkAll parts + 1
  | .iface _ d => uptoBulk d + 1
  | .map entries => uptoBulkEntries entries + 1
  | .held _ => 1
def uptoBulkAll {H : Type} : List (DataW H) → Nat
  | [] => 0
  | d :: r => uptoBulk d + uptoBulkAll r
def uptoBulkEntries {H : Type} : List (Lit × DataW H) → Nat
  | [] => 0
  | x :: r => uptoBulkEntry x + uptoBulkEntries r
def uptoBulkEntry {H : Type} : Lit × DataW H → Nat
  | (.string bytes, d) => bytes.length + uptoBulk d + 1
  | (_, d) => uptoBulk d + 1
 end
def uptoSmall : (H : Type) → List (DataW H) → Bool := fun _ ds => decide (uptoBulkAll ds ≤ 1048576)
def OpenSpec.upto (s : _root_.Go.ChangeSpec) : _root_.Go.OpenSpec := { _root_.Go.OpenSpec.ofChange s with cond := some uptoSmall }

/-- 'numnahlaw01.CardPrimes', WHERE WHAT IT READS IS OF BULK AT MOST 1048576: true; the input reads as it did. -/
def cardPrimesUptoRow : OpenClaim := { program := "ytioaaigbpfdjmaadoor", sum := "e0d90b5d9153846e5d8ab83849b7b8ab924ffcae726803d3323d074b2739a5b9", func := "numnah/numnahlaw01.CardPrimes", spec := "cardPrimes", inPlace := ["internal/bytealg.abigen_runtime_cmpstring", "internal/bytealg.IndexByteString", "internal/bytealg.IndexString"], unfollowed := true, recurses := true, named := ["math/bits.deBruijn32tab", "internal/bytealg.MaxLen"], plainKeys := false, apart := false, laid := [("math/bits.deBruijn32tab", laid_math_bits_deBruijn32tab)], narrowed := true }
def CardPrimesUptoSaid : Prop := cardPrimesUptoRow.holds Tryd.pinned (OpenSpec.upto cardPrimesSpec)

/-- 'numnahlaw01.CardCovers', WHERE WHAT IT READS IS OF BULK AT MOST 1048576: true; the input reads as it did. -/
def cardCoversUptoRow : OpenClaim := { program := "ytioaaigbpfdjmaadoor", sum := "e0d90b5d9153846e5d8ab83849b7b8ab924ffcae726803d3323d074b2739a5b9", func := "numnah/numnahlaw01.CardCovers", spec := "cardCovers", inPlace := ["internal/bytealg.abigen_runtime_cmpstring", "internal/bytealg.IndexByteString", "internal/bytealg.IndexString"], unfollowed := true, recurses := true, named := ["math/bits.deBruijn32tab", "internal/bytealg.MaxLen"], plainKeys := false, apart := false, laid := [("math/bits.deBruijn32tab", laid_math_bits_deBruijn32tab)], narrowed := true }
def CardCoversUptoSaid : Prop := cardCoversUptoRow.holds Tryd.pinned (OpenSpec.upto cardCoversSpec)

/-- 'numnahlaw01.CardChecks', WHERE WHAT IT READS IS OF BULK AT MOST 1048576: true; the input reads as it did. -/
def cardChecksUptoRow : OpenClaim := { program := "ytioaaigbpfdjmaadoor", sum := "e0d90b5d9153846e5d8ab83849b7b8ab924ffcae726803d3323d074b2739a5b9", func := "numnah/numnahlaw01.CardChecks", spec := "cardChecks", inPlace := ["internal/bytealg.abigen_runtime_cmpstring", "internal/bytealg.IndexByteString", "internal/bytealg.IndexString"], unfollowed := true, recurses := true, named := ["internal/bytealg.MaxLen", "math/bits.deBruijn32tab"], plainKeys := false, apart := false, laid := [("math/bits.deBruijn32tab", laid_math_bits_deBruijn32tab)], narrowed := true }
def CardChecksUptoSaid : Prop := cardChecksUptoRow.holds Tryd.pinned (OpenSpec.upto cardChecksSpec)

/-- 'numnahlaw01.CardSums', WHERE WHAT IT READS IS OF BULK AT MOST 1048576: true; the input reads as it did. -/
def cardSumsUptoRow : OpenClaim := { program := "ytioaaigbpfdjmaadoor", sum := "e0d90b5d9153846e5d8ab83849b7b8ab924ffcae726803d3323d074b2739a5b9", func := "numnah/numnahlaw01.CardSums", spec := "cardSums", inPlace := ["internal/bytealg.IndexByteString", "internal/bytealg.IndexString", "internal/bytealg.abigen_runtime_cmpstring"], unfollowed := true, recurses := true, named := ["internal/bytealg.MaxLen", "math/bits.deBruijn32tab"], plainKeys := false, apart := false, laid := [("math/bits.deBruijn32tab", laid_math_bits_deBruijn32tab)], narrowed := true }
def CardSumsUptoSaid : Prop := cardSumsUptoRow.holds Tryd.pinned (OpenSpec.upto cardSumsSpec)

/-- 'numnahlaw01.CardWeights', WHERE WHAT IT READS IS OF BULK AT MOST 1048576: true; the input reads as it did. -/
def cardWeightsUptoRow : OpenClaim := { program := "ytioaaigbpfdjmaadoor", sum := "e0d90b5d9153846e5d8ab83849b7b8ab924ffcae726803d3323d074b2739a5b9", func := "numnah/numnahlaw01.CardWeights", spec := "cardWeights", inPlace := ["internal/bytealg.IndexByteString", "internal/bytealg.IndexString", "internal/bytealg.abigen_runtime_cmpstring"], unfollowed := true, recurses := true, named := ["internal/bytealg.MaxLen", "math/bits.deBruijn32tab"], plainKeys := false, apart := false, laid := [("math/bits.deBruijn32tab", laid_math_bits_deBruijn32tab)], narrowed := true }
def CardWeightsUptoSaid : Prop := cardWeightsUptoRow.holds Tryd.pinned (OpenSpec.upto cardWeightsSpec)

/-- 'numnahlaw01.CardRealizes', WHERE WHAT IT READS IS OF BULK AT MOST 1048576: true; the input reads as it did. -/
def cardRealizesUptoRow : OpenClaim := { program := "ytioaaigbpfdjmaadoor", sum := "e0d90b5d9153846e5d8ab83849b7b8ab924ffcae726803d3323d074b2739a5b9", func := "numnah/numnahlaw01.CardRealizes", spec := "cardRealizes", inPlace := ["internal/bytealg.IndexByteString", "internal/bytealg.IndexString", "internal/bytealg.abigen_runtime_cmpstring"], unfollowed := true, recurses := true, named := ["internal/bytealg.MaxLen", "math/bits.deBruijn32tab"], plainKeys := false, apart := false, laid := [("math/bits.deBruijn32tab", laid_math_bits_deBruijn32tab)], narrowed := true }
def CardRealizesUptoSaid : Prop := cardRealizesUptoRow.holds Tryd.pinned (OpenSpec.upto cardRealizesSpec)

/-- 'numnahlaw01.CardTurns', WHERE WHAT IT READS IS OF BULK AT MOST 1048576: true; the input reads as it did. -/
def cardTurnsUptoRow : OpenClaim := { program := "ytioaaigbpfdjmaadoor", sum := "e0d90b5d9153846e5d8ab83849b7b8ab924ffcae726803d3323d074b2739a5b9", func := "numnah/numnahlaw01.CardTurns", spec := "cardTurns", inPlace := ["internal/bytealg.abigen_runtime_cmpstring", "internal/bytealg.IndexByteString", "internal/bytealg.IndexString"], unfollowed := true, recurses := true, named := ["internal/bytealg.MaxLen", "math/bits.deBruijn32tab"], plainKeys := false, apart := false, laid := [("math/bits.deBruijn32tab", laid_math_bits_deBruijn32tab)], narrowed := true }
def CardTurnsUptoSaid : Prop := cardTurnsUptoRow.holds Tryd.pinned (OpenSpec.upto cardTurnsSpec)

/-- 'numnahlaw01.CardPoints', WHERE WHAT IT READS IS OF BULK AT MOST 1048576: true; the input reads as it did. -/
def cardPointsUptoRow : OpenClaim := { program := "ytioaaigbpfdjmaadoor", sum := "e0d90b5d9153846e5d8ab83849b7b8ab924ffcae726803d3323d074b2739a5b9", func := "numnah/numnahlaw01.CardPoints", spec := "cardPoints", inPlace := ["internal/bytealg.abigen_runtime_cmpstring", "internal/bytealg.IndexByteString", "internal/bytealg.IndexString"], unfollowed := true, recurses := true, named := ["math/bits.deBruijn32tab", "internal/bytealg.MaxLen"], plainKeys := false, apart := false, laid := [("math/bits.deBruijn32tab", laid_math_bits_deBruijn32tab)], narrowed := true }
def CardPointsUptoSaid : Prop := cardPointsUptoRow.holds Tryd.pinned (OpenSpec.upto cardPointsSpec)

/-- 'numnahlaw01.CardBounds', WHERE WHAT IT READS IS OF BULK AT MOST 1048576: true; the input reads as it did. -/
def cardBoundsUptoRow : OpenClaim := { program := "ytioaaigbpfdjmaadoor", sum := "e0d90b5d9153846e5d8ab83849b7b8ab924ffcae726803d3323d074b2739a5b9", func := "numnah/numnahlaw01.CardBounds", spec := "cardBounds", inPlace := ["internal/bytealg.abigen_runtime_cmpstring", "internal/bytealg.IndexByteString", "internal/bytealg.IndexString"], unfollowed := true, recurses := true, named := ["math/bits.deBruijn32tab", "internal/bytealg.MaxLen"], plainKeys := false, apart := false, laid := [("math/bits.deBruijn32tab", laid_math_bits_deBruijn32tab)], narrowed := true }
def CardBoundsUptoSaid : Prop := cardBoundsUptoRow.holds Tryd.pinned (OpenSpec.upto cardBoundsSpec)

/-- 'numnahlaw01.CardInside', WHERE WHAT IT READS IS OF BULK AT MOST 1048576: true; the input reads as it did. -/
def cardInsideUptoRow : OpenClaim := { program := "ytioaaigbpfdjmaadoor", sum := "e0d90b5d9153846e5d8ab83849b7b8ab924ffcae726803d3323d074b2739a5b9", func := "numnah/numnahlaw01.CardInside", spec := "cardInside", inPlace := ["internal/bytealg.abigen_runtime_cmpstring", "internal/bytealg.IndexByteString", "internal/bytealg.IndexString"], unfollowed := true, recurses := true, named := ["internal/bytealg.MaxLen", "math/bits.deBruijn32tab"], plainKeys := false, apart := false, laid := [("math/bits.deBruijn32tab", laid_math_bits_deBruijn32tab)], narrowed := true }
def CardInsideUptoSaid : Prop := cardInsideUptoRow.holds Tryd.pinned (OpenSpec.upto cardInsideSpec)

/-- 'numnahlaw01.CardTwice', WHERE WHAT IT READS IS OF BULK AT MOST 1048576: true; the input reads as it did. -/
def cardTwiceUptoRow : OpenClaim := { program := "ytioaaigbpfdjmaadoor", sum := "e0d90b5d9153846e5d8ab83849b7b8ab924ffcae726803d3323d074b2739a5b9", func := "numnah/numnahlaw01.CardTwice", spec := "cardTwice", inPlace := ["internal/bytealg.IndexByteString", "internal/bytealg.IndexString", "internal/bytealg.abigen_runtime_cmpstring"], unfollowed := true, recurses := true, named := ["internal/bytealg.MaxLen", "math/bits.deBruijn32tab"], plainKeys := false, apart := false, laid := [("math/bits.deBruijn32tab", laid_math_bits_deBruijn32tab)], narrowed := true }
def CardTwiceUptoSaid : Prop := cardTwiceUptoRow.holds Tryd.pinned (OpenSpec.upto cardTwiceSpec)

/-- 'numnahlaw01.CardMeasured', WHERE WHAT IT READS IS OF BULK AT MOST 1048576: true; the input reads as it did. -/
def cardMeasuredUptoRow : OpenClaim := { program := "ytioaaigbpfdjmaadoor", sum := "e0d90b5d9153846e5d8ab83849b7b8ab924ffcae726803d3323d074b2739a5b9", func := "numnah/numnahlaw01.CardMeasured", spec := "cardMeasured", inPlace := ["internal/bytealg.IndexByteString", "internal/bytealg.IndexString", "internal/bytealg.abigen_runtime_cmpstring"], unfollowed := true, recurses := true, named := ["internal/bytealg.MaxLen", "math/bits.deBruijn32tab"], plainKeys := false, apart := false, laid := [("math/bits.deBruijn32tab", laid_math_bits_deBruijn32tab)], narrowed := true }
def CardMeasuredUptoSaid : Prop := cardMeasuredUptoRow.holds Tryd.pinned (OpenSpec.upto cardMeasuredSpec)

end Rows
end Go.Proofs.YtioaaigbpfdjmaaDoor
