/-
  DERIVED. GIVEN WITH THE SEED: THE CARDS: each row of YtioaaigbpfdjmaaDoorRows.lean that lists a variable, with what it lists TIED to the program's text (the seventh form; the later family's looks); each row that meets fmt, with fmt's text TOLD by the authors' own Lean function (tested against real Go, not proved from fmt's source: count such statements apart). THE CARD IS WHAT COUNTS. Prove the row's statement (the work); the ties are given (YtioaaigbpfdjmaaDoorTie.lean); close each card by the builder's one call (the guide's Derived/Test/ToyasCard.lean, 'card_holds'). Laid BY PROGRAM, IN A SANDBOX (cutbox-door.mjs). By AI agents, Wed Nov 11 2026. No macro, syntax, notation, axiom, sorry.
-/
import Derived.Test.YtioaaigbpfdjmaaDoorRows
import GoSem.ClaimSeven
namespace Go.Proofs.YtioaaigbpfdjmaaDoor
namespace Rows

/-- THE TIED CARD OF 'numnahlaw01.CardPrimes'. -/
def cardPrimesCard : Claim7 := { stood := { row := cardPrimesRow, standIns := [], harness := (true, "c975862b606d773dcd6f286f379ceaf59454dde3e0f8ced515faed85596ea313"), looks := false }, kinds := [], alts := [], laidByText := true, laidKinds := [.data], laidTests := true, laidLooks := .later }
def CardPrimesCardSaid : Prop := Claim7.holds Tryd.pinned (.plain (OpenSpec.ofChange cardPrimesSpec)) cardPrimesCard

/-- THE TIED CARD OF 'numnahlaw01.CardCovers'. -/
def cardCoversCard : Claim7 := { stood := { row := cardCoversRow, standIns := [], harness := (true, "c975862b606d773dcd6f286f379ceaf59454dde3e0f8ced515faed85596ea313"), looks := false }, kinds := [], alts := [], laidByText := true, laidKinds := [.data], laidTests := true, laidLooks := .later }
def CardCoversCardSaid : Prop := Claim7.holds Tryd.pinned (.plain (OpenSpec.ofChange cardCoversSpec)) cardCoversCard

/-- THE TIED CARD OF 'numnahlaw01.CardChecks'. -/
def cardChecksCard : Claim7 := { stood := { row := cardChecksRow, standIns := [], harness := (true, "c975862b606d773dcd6f286f379ceaf59454dde3e0f8ced515faed85596ea313"), looks := false }, kinds := [], alts := [], laidByText := true, laidKinds := [.data], laidTests := true, laidLooks := .later }
def CardChecksCardSaid : Prop := Claim7.holds Tryd.pinned (.plain (OpenSpec.ofChange cardChecksSpec)) cardChecksCard

/-- THE TIED CARD OF 'numnahlaw01.CardSums'. -/
def cardSumsCard : Claim7 := { stood := { row := cardSumsRow, standIns := [], harness := (true, "c975862b606d773dcd6f286f379ceaf59454dde3e0f8ced515faed85596ea313"), looks := false }, kinds := [], alts := [], laidByText := true, laidKinds := [.data], laidTests := true, laidLooks := .later }
def CardSumsCardSaid : Prop := Claim7.holds Tryd.pinned (.plain (OpenSpec.ofChange cardSumsSpec)) cardSumsCard

/-- THE TIED CARD OF 'numnahlaw01.CardWeights'. -/
def cardWeightsCard : Claim7 := { stood := { row := cardWeightsRow, standIns := [], harness := (true, "c975862b606d773dcd6f286f379ceaf59454dde3e0f8ced515faed85596ea313"), looks := false }, kinds := [], alts := [], laidByText := true, laidKinds := [.data], laidTests := true, laidLooks := .later }
def CardWeightsCardSaid : Prop := Claim7.holds Tryd.pinned (.plain (OpenSpec.ofChange cardWeightsSpec)) cardWeightsCard

/-- THE TIED CARD OF 'numnahlaw01.CardRealizes'. -/
def cardRealizesCard : Claim7 := { stood := { row := cardRealizesRow, standIns := [], harness := (true, "c975862b606d773dcd6f286f379ceaf59454dde3e0f8ced515faed85596ea313"), looks := false }, kinds := [], alts := [], laidByText := true, laidKinds := [.data], laidTests := true, laidLooks := .later }
def CardRealizesCardSaid : Prop := Claim7.holds Tryd.pinned (.plain (OpenSpec.ofChange cardRealizesSpec)) cardRealizesCard

/-- THE TIED CARD OF 'numnahlaw01.CardTurns'. -/
def cardTurnsCard : Claim7 := { stood := { row := cardTurnsRow, standIns := [], harness := (true, "c975862b606d773dcd6f286f379ceaf59454dde3e0f8ced515faed85596ea313"), looks := false }, kinds := [], alts := [], laidByText := true, laidKinds := [.data], laidTests := true, laidLooks := .later }
def CardTurnsCardSaid : Prop := Claim7.holds Tryd.pinned (.plain (OpenSpec.ofChange cardTurnsSpec)) cardTurnsCard

/-- THE TIED CARD OF 'numnahlaw01.CardPoints'. -/
def cardPointsCard : Claim7 := { stood := { row := cardPointsRow, standIns := [], harness := (true, "c975862b606d773dcd6f286f379ceaf59454dde3e0f8ced515faed85596ea313"), looks := false }, kinds := [], alts := [], laidByText := true, laidKinds := [.data], laidTests := true, laidLooks := .later }
def CardPointsCardSaid : Prop := Claim7.holds Tryd.pinned (.plain (OpenSpec.ofChange cardPointsSpec)) cardPointsCard

/-- THE TIED CARD OF 'numnahlaw01.CardBounds'. -/
def cardBoundsCard : Claim7 := { stood := { row := cardBoundsRow, standIns := [], harness := (true, "c975862b606d773dcd6f286f379ceaf59454dde3e0f8ced515faed85596ea313"), looks := false }, kinds := [], alts := [], laidByText := true, laidKinds := [.data], laidTests := true, laidLooks := .later }
def CardBoundsCardSaid : Prop := Claim7.holds Tryd.pinned (.plain (OpenSpec.ofChange cardBoundsSpec)) cardBoundsCard

/-- THE TIED CARD OF 'numnahlaw01.CardInside'. -/
def cardInsideCard : Claim7 := { stood := { row := cardInsideRow, standIns := [], harness := (true, "c975862b606d773dcd6f286f379ceaf59454dde3e0f8ced515faed85596ea313"), looks := false }, kinds := [], alts := [], laidByText := true, laidKinds := [.data], laidTests := true, laidLooks := .later }
def CardInsideCardSaid : Prop := Claim7.holds Tryd.pinned (.plain (OpenSpec.ofChange cardInsideSpec)) cardInsideCard

/-- THE TIED CARD OF 'numnahlaw01.CardTwice'. -/
def cardTwiceCard : Claim7 := { stood := { row := cardTwiceRow, standIns := [], harness := (true, "c975862b606d773dcd6f286f379ceaf59454dde3e0f8ced515faed85596ea313"), looks := false }, kinds := [], alts := [], laidByText := true, laidKinds := [.data], laidTests := true, laidLooks := .later }
def CardTwiceCardSaid : Prop := Claim7.holds Tryd.pinned (.plain (OpenSpec.ofChange cardTwiceSpec)) cardTwiceCard

/-- THE TIED CARD OF 'numnahlaw01.CardMeasured'. -/
def cardMeasuredCard : Claim7 := { stood := { row := cardMeasuredRow, standIns := [], harness := (true, "c975862b606d773dcd6f286f379ceaf59454dde3e0f8ced515faed85596ea313"), looks := false }, kinds := [], alts := [], laidByText := true, laidKinds := [.data], laidTests := true, laidLooks := .later }
def CardMeasuredCardSaid : Prop := Claim7.holds Tryd.pinned (.plain (OpenSpec.ofChange cardMeasuredSpec)) cardMeasuredCard

/-- THE SECOND FORM's CARD OF 'numnahlaw01.CardPrimes'. -/
def cardPrimesUptoCard : Claim7 := { stood := { row := cardPrimesUptoRow, standIns := [], harness := (true, "c975862b606d773dcd6f286f379ceaf59454dde3e0f8ced515faed85596ea313"), looks := false }, kinds := [], alts := [], laidByText := true, laidKinds := [.data], laidTests := true, laidLooks := .later }
def CardPrimesUptoCardSaid : Prop := Claim7.holds Tryd.pinned (.plain (OpenSpec.upto cardPrimesSpec)) cardPrimesUptoCard

/-- THE SECOND FORM's CARD OF 'numnahlaw01.CardCovers'. -/
def cardCoversUptoCard : Claim7 := { stood := { row := cardCoversUptoRow, standIns := [], harness := (true, "c975862b606d773dcd6f286f379ceaf59454dde3e0f8ced515faed85596ea313"), looks := false }, kinds := [], alts := [], laidByText := true, laidKinds := [.data], laidTests := true, laidLooks := .later }
def CardCoversUptoCardSaid : Prop := Claim7.holds Tryd.pinned (.plain (OpenSpec.upto cardCoversSpec)) cardCoversUptoCard

/-- THE SECOND FORM's CARD OF 'numnahlaw01.CardChecks'. -/
def cardChecksUptoCard : Claim7 := { stood := { row := cardChecksUptoRow, standIns := [], harness := (true, "c975862b606d773dcd6f286f379ceaf59454dde3e0f8ced515faed85596ea313"), looks := false }, kinds := [], alts := [], laidByText := true, laidKinds := [.data], laidTests := true, laidLooks := .later }
def CardChecksUptoCardSaid : Prop := Claim7.holds Tryd.pinned (.plain (OpenSpec.upto cardChecksSpec)) cardChecksUptoCard

/-- THE SECOND FORM's CARD OF 'numnahlaw01.CardSums'. -/
def cardSumsUptoCard : Claim7 := { stood := { row := cardSumsUptoRow, standIns := [], harness := (true, "c975862b606d773dcd6f286f379ceaf59454dde3e0f8ced515faed85596ea313"), looks := false }, kinds := [], alts := [], laidByText := true, laidKinds := [.data], laidTests := true, laidLooks := .later }
def CardSumsUptoCardSaid : Prop := Claim7.holds Tryd.pinned (.plain (OpenSpec.upto cardSumsSpec)) cardSumsUptoCard

/-- THE SECOND FORM's CARD OF 'numnahlaw01.CardWeights'. -/
def cardWeightsUptoCard : Claim7 := { stood := { row := cardWeightsUptoRow, standIns := [], harness := (true, "c975862b606d773dcd6f286f379ceaf59454dde3e0f8ced515faed85596ea313"), looks := false }, kinds := [], alts := [], laidByText := true, laidKinds := [.data], laidTests := true, laidLooks := .later }
def CardWeightsUptoCardSaid : Prop := Claim7.holds Tryd.pinned (.plain (OpenSpec.upto cardWeightsSpec)) cardWeightsUptoCard

/-- THE SECOND FORM's CARD OF 'numnahlaw01.CardRealizes'. -/
def cardRealizesUptoCard : Claim7 := { stood := { row := cardRealizesUptoRow, standIns := [], harness := (true, "c975862b606d773dcd6f286f379ceaf59454dde3e0f8ced515faed85596ea313"), looks := false }, kinds := [], alts := [], laidByText := true, laidKinds := [.data], laidTests := true, laidLooks := .later }
def CardRealizesUptoCardSaid : Prop := Claim7.holds Tryd.pinned (.plain (OpenSpec.upto cardRealizesSpec)) cardRealizesUptoCard

/-- THE SECOND FORM's CARD OF 'numnahlaw01.CardTurns'. -/
def cardTurnsUptoCard : Claim7 := { stood := { row := cardTurnsUptoRow, standIns := [], harness := (true, "c975862b606d773dcd6f286f379ceaf59454dde3e0f8ced515faed85596ea313"), looks := false }, kinds := [], alts := [], laidByText := true, laidKinds := [.data], laidTests := true, laidLooks := .later }
def CardTurnsUptoCardSaid : Prop := Claim7.holds Tryd.pinned (.plain (OpenSpec.upto cardTurnsSpec)) cardTurnsUptoCard

/-- THE SECOND FORM's CARD OF 'numnahlaw01.CardPoints'. -/
def cardPointsUptoCard : Claim7 := { stood := { row := cardPointsUptoRow, standIns := [], harness := (true, "c975862b606d773dcd6f286f379ceaf59454dde3e0f8ced515faed85596ea313"), looks := false }, kinds := [], alts := [], laidByText := true, laidKinds := [.data], laidTests := true, laidLooks := .later }
def CardPointsUptoCardSaid : Prop := Claim7.holds Tryd.pinned (.plain (OpenSpec.upto cardPointsSpec)) cardPointsUptoCard

/-- THE SECOND FORM's CARD OF 'numnahlaw01.CardBounds'. -/
def cardBoundsUptoCard : Claim7 := { stood := { row := cardBoundsUptoRow, standIns := [], harness := (true, "c975862b606d773dcd6f286f379ceaf59454dde3e0f8ced515faed85596ea313"), looks := false }, kinds := [], alts := [], laidByText := true, laidKinds := [.data], laidTests := true, laidLooks := .later }
def CardBoundsUptoCardSaid : Prop := Claim7.holds Tryd.pinned (.plain (OpenSpec.upto cardBoundsSpec)) cardBoundsUptoCard

/-- THE SECOND FORM's CARD OF 'numnahlaw01.CardInside'. -/
def cardInsideUptoCard : Claim7 := { stood := { row := cardInsideUptoRow, standIns := [], harness := (true, "c975862b606d773dcd6f286f379ceaf59454dde3e0f8ced515faed85596ea313"), looks := false }, kinds := [], alts := [], laidByText := true, laidKinds := [.data], laidTests := true, laidLooks := .later }
def CardInsideUptoCardSaid : Prop := Claim7.holds Tryd.pinned (.plain (OpenSpec.upto cardInsideSpec)) cardInsideUptoCard

/-- THE SECOND FORM's CARD OF 'numnahlaw01.CardTwice'. -/
def cardTwiceUptoCard : Claim7 := { stood := { row := cardTwiceUptoRow, standIns := [], harness := (true, "c975862b606d773dcd6f286f379ceaf59454dde3e0f8ced515faed85596ea313"), looks := false }, kinds := [], alts := [], laidByText := true, laidKinds := [.data], laidTests := true, laidLooks := .later }
def CardTwiceUptoCardSaid : Prop := Claim7.holds Tryd.pinned (.plain (OpenSpec.upto cardTwiceSpec)) cardTwiceUptoCard

/-- THE SECOND FORM's CARD OF 'numnahlaw01.CardMeasured'. -/
def cardMeasuredUptoCard : Claim7 := { stood := { row := cardMeasuredUptoRow, standIns := [], harness := (true, "c975862b606d773dcd6f286f379ceaf59454dde3e0f8ced515faed85596ea313"), looks := false }, kinds := [], alts := [], laidByText := true, laidKinds := [.data], laidTests := true, laidLooks := .later }
def CardMeasuredUptoCardSaid : Prop := Claim7.holds Tryd.pinned (.plain (OpenSpec.upto cardMeasuredSpec)) cardMeasuredUptoCard
end Rows
end Go.Proofs.YtioaaigbpfdjmaaDoor
