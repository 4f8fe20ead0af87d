/-
  DERIVED. GIVEN WITH THE SEED: THE CARDS: each row of YthmmipcfabijdaaDoorRows.lean that lists a variable, with what it lists TIED to the program's text (the seventh form; the later family's looks); each row that meets fmt, with fmt's text TOLD by the authors' own Lean function (tested against real Go, not proved from fmt's source: count such statements apart). THE CARD IS WHAT COUNTS. Prove the row's statement (the work); the ties are given (YthmmipcfabijdaaDoorTie.lean); close each card by the builder's one call (the guide's Derived/Test/ToyasCard.lean, 'card_holds'). Laid BY PROGRAM, IN A SANDBOX (cutbox-door.mjs). By AI agents, Wed Nov 11 2026. No macro, syntax, notation, axiom, sorry.
-/
import Derived.Test.YthmmipcfabijdaaDoorRows
import GoSem.ClaimSeven
namespace Go.Proofs.YthmmipcfabijdaaDoor
namespace Rows

/-- THE TIED CARD OF 'lintellaw20.DescrTells'. -/
def descrTellsCard : Claim7 := { stood := { row := descrTellsRow, standIns := [], harness := (true, "fc29b9fcfcf0007f496bf8563f73de5133940a1babc4e221014a7c74212428d4"), looks := false }, kinds := [], alts := [], laidByText := true, laidKinds := [.data], laidTests := true, laidLooks := .later }
def DescrTellsCardSaid : Prop := Claim7.holds Tryd.pinned (.plain (OpenSpec.ofChange descrTellsSpec)) descrTellsCard

/-- THE TIED CARD OF 'lintellaw20.DescrBack'. -/
def descrBackCard : Claim7 := { stood := { row := descrBackRow, standIns := [], harness := (true, "fc29b9fcfcf0007f496bf8563f73de5133940a1babc4e221014a7c74212428d4"), looks := false }, kinds := [], alts := [], laidByText := true, laidKinds := [.data], laidTests := true, laidLooks := .later }
def DescrBackCardSaid : Prop := Claim7.holds Tryd.pinned (.plain (OpenSpec.ofChange descrBackSpec)) descrBackCard

/-- THE TIED CARD OF 'lintellaw20.DescrTurned'. -/
def descrTurnedCard : Claim7 := { stood := { row := descrTurnedRow, standIns := [], harness := (true, "fc29b9fcfcf0007f496bf8563f73de5133940a1babc4e221014a7c74212428d4"), looks := false }, kinds := [], alts := [], laidByText := true, laidKinds := [.data], laidTests := true, laidLooks := .later }
def DescrTurnedCardSaid : Prop := Claim7.holds Tryd.pinned (.plain (OpenSpec.ofChange descrTurnedSpec)) descrTurnedCard

/-- THE TIED CARD OF 'lintellaw20.DescrApart'. -/
def descrApartCard : Claim7 := { stood := { row := descrApartRow, standIns := [], harness := (true, "fc29b9fcfcf0007f496bf8563f73de5133940a1babc4e221014a7c74212428d4"), looks := false }, kinds := [], alts := [], laidByText := true, laidKinds := [.data], laidTests := true, laidLooks := .later }
def DescrApartCardSaid : Prop := Claim7.holds Tryd.pinned (.plain (OpenSpec.ofChange descrApartSpec)) descrApartCard

/-- THE SECOND FORM's CARD OF 'lintellaw20.DescrTells'. -/
def descrTellsUptoCard : Claim7 := { stood := { row := descrTellsUptoRow, standIns := [], harness := (true, "fc29b9fcfcf0007f496bf8563f73de5133940a1babc4e221014a7c74212428d4"), looks := false }, kinds := [], alts := [], laidByText := true, laidKinds := [.data], laidTests := true, laidLooks := .later }
def DescrTellsUptoCardSaid : Prop := Claim7.holds Tryd.pinned (.plain (OpenSpec.upto descrTellsSpec)) descrTellsUptoCard

/-- THE SECOND FORM's CARD OF 'lintellaw20.DescrBack'. -/
def descrBackUptoCard : Claim7 := { stood := { row := descrBackUptoRow, standIns := [], harness := (true, "fc29b9fcfcf0007f496bf8563f73de5133940a1babc4e221014a7c74212428d4"), looks := false }, kinds := [], alts := [], laidByText := true, laidKinds := [.data], laidTests := true, laidLooks := .later }
def DescrBackUptoCardSaid : Prop := Claim7.holds Tryd.pinned (.plain (OpenSpec.upto descrBackSpec)) descrBackUptoCard

/-- THE SECOND FORM's CARD OF 'lintellaw20.DescrTurned'. -/
def descrTurnedUptoCard : Claim7 := { stood := { row := descrTurnedUptoRow, standIns := [], harness := (true, "fc29b9fcfcf0007f496bf8563f73de5133940a1babc4e221014a7c74212428d4"), looks := false }, kinds := [], alts := [], laidByText := true, laidKinds := [.data], laidTests := true, laidLooks := .later }
def DescrTurnedUptoCardSaid : Prop := Claim7.holds Tryd.pinned (.plain (OpenSpec.upto descrTurnedSpec)) descrTurnedUptoCard

/-- THE SECOND FORM's CARD OF 'lintellaw20.DescrApart'. -/
def descrApartUptoCard : Claim7 := { stood := { row := descrApartUptoRow, standIns := [], harness := (true, "fc29b9fcfcf0007f496bf8563f73de5133940a1babc4e221014a7c74212428d4"), looks := false }, kinds := [], alts := [], laidByText := true, laidKinds := [.data], laidTests := true, laidLooks := .later }
def DescrApartUptoCardSaid : Prop := Claim7.holds Tryd.pinned (.plain (OpenSpec.upto descrApartSpec)) descrApartUptoCard
end Rows
end Go.Proofs.YthmmipcfabijdaaDoor
