/-
  DERIVED. GIVEN WITH THE SEED: THE CARDS: each row of YtkoookknffmgjaaDoorRows.lean that lists a variable, with what it lists TIED to the program's text (the seventh form; the later family's looks); each row that meets fmt, with fmt's text TOLD by the authors' own Lean function (tested against real Go, not proved from fmt's source: count such statements apart). THE CARD IS WHAT COUNTS. Prove the row's statement (the work); the ties are given (YtkoookknffmgjaaDoorTie.lean); close each card by the builder's one call (the guide's Derived/Test/ToyasCard.lean, 'card_holds'). Laid BY PROGRAM, IN A SANDBOX (cutbox-door.mjs). By AI agents, Wed Nov 11 2026. No macro, syntax, notation, axiom, sorry.
-/
import Derived.Test.YtkoookknffmgjaaDoorRows
import GoSem.ClaimSeven
namespace Go.Proofs.YtkoookknffmgjaaDoor
namespace Rows

/-- THE TIED CARD OF 'lintellaw01.OctetGets'. -/
def octetGetsCard : Claim7 := { stood := { row := octetGetsRow, standIns := [], harness := (true, "7343dcf537671bebd96ff40b539e30c5c2c64819b01fecd4b8d5310825061854"), looks := false }, kinds := [], alts := [], laidByText := true, laidKinds := [.data], laidTests := true, laidLooks := .later }
def OctetGetsCardSaid : Prop := Claim7.holds Tryd.pinned (.plain (OpenSpec.ofChange octetGetsSpec)) octetGetsCard

/-- THE TIED CARD OF 'lintellaw01.OctetPuts'. -/
def octetPutsCard : Claim7 := { stood := { row := octetPutsRow, standIns := [], harness := (true, "7343dcf537671bebd96ff40b539e30c5c2c64819b01fecd4b8d5310825061854"), looks := false }, kinds := [], alts := [], laidByText := true, laidKinds := [.data], laidTests := true, laidLooks := .later }
def OctetPutsCardSaid : Prop := Claim7.holds Tryd.pinned (.plain (OpenSpec.ofChange octetPutsSpec)) octetPutsCard

/-- THE TIED CARD OF 'lintellaw01.OctetTexts'. -/
def octetTextsCard : Claim7 := { stood := { row := octetTextsRow, standIns := [], harness := (true, "7343dcf537671bebd96ff40b539e30c5c2c64819b01fecd4b8d5310825061854"), looks := false }, kinds := [], alts := [], laidByText := true, laidKinds := [.data], laidTests := true, laidLooks := .later }
def OctetTextsCardSaid : Prop := Claim7.holds Tryd.pinned (.plain (OpenSpec.ofChange octetTextsSpec)) octetTextsCard

/-- THE TIED CARD OF 'lintellaw01.OctetBack'. -/
def octetBackCard : Claim7 := { stood := { row := octetBackRow, standIns := [], harness := (true, "7343dcf537671bebd96ff40b539e30c5c2c64819b01fecd4b8d5310825061854"), looks := false }, kinds := [], alts := [], laidByText := true, laidKinds := [.data], laidTests := true, laidLooks := .later }
def OctetBackCardSaid : Prop := Claim7.holds Tryd.pinned (.plain (OpenSpec.ofChange octetBackSpec)) octetBackCard

/-- THE TIED CARD OF 'lintellaw01.OctetTurns'. -/
def octetTurnsCard : Claim7 := { stood := { row := octetTurnsRow, standIns := [], harness := (true, "7343dcf537671bebd96ff40b539e30c5c2c64819b01fecd4b8d5310825061854"), looks := false }, kinds := [], alts := [], laidByText := true, laidKinds := [.data], laidTests := true, laidLooks := .later }
def OctetTurnsCardSaid : Prop := Claim7.holds Tryd.pinned (.plain (OpenSpec.ofChange octetTurnsSpec)) octetTurnsCard

/-- THE TIED CARD OF 'lintellaw01.OctetCuts'. -/
def octetCutsCard : Claim7 := { stood := { row := octetCutsRow, standIns := [], harness := (true, "7343dcf537671bebd96ff40b539e30c5c2c64819b01fecd4b8d5310825061854"), looks := false }, kinds := [], alts := [], laidByText := true, laidKinds := [.data], laidTests := true, laidLooks := .later }
def OctetCutsCardSaid : Prop := Claim7.holds Tryd.pinned (.plain (OpenSpec.ofChange octetCutsSpec)) octetCutsCard

/-- THE TIED CARD OF 'lintellaw01.OctetPieces'. -/
def octetPiecesCard : Claim7 := { stood := { row := octetPiecesRow, standIns := [], harness := (true, "7343dcf537671bebd96ff40b539e30c5c2c64819b01fecd4b8d5310825061854"), looks := false }, kinds := [], alts := [], laidByText := true, laidKinds := [.data], laidTests := true, laidLooks := .later }
def OctetPiecesCardSaid : Prop := Claim7.holds Tryd.pinned (.plain (OpenSpec.ofChange octetPiecesSpec)) octetPiecesCard

/-- THE TIED CARD OF 'lintellaw01.OctetJoins'. -/
def octetJoinsCard : Claim7 := { stood := { row := octetJoinsRow, standIns := [], harness := (true, "7343dcf537671bebd96ff40b539e30c5c2c64819b01fecd4b8d5310825061854"), looks := false }, kinds := [], alts := [], laidByText := true, laidKinds := [.data], laidTests := true, laidLooks := .later }
def OctetJoinsCardSaid : Prop := Claim7.holds Tryd.pinned (.plain (OpenSpec.ofChange octetJoinsSpec)) octetJoinsCard

/-- THE TIED CARD OF 'lintellaw01.OctetOdd'. -/
def octetOddCard : Claim7 := { stood := { row := octetOddRow, standIns := [], harness := (true, "7343dcf537671bebd96ff40b539e30c5c2c64819b01fecd4b8d5310825061854"), looks := false }, kinds := [], alts := [], laidByText := true, laidKinds := [.data], laidTests := true, laidLooks := .later }
def OctetOddCardSaid : Prop := Claim7.holds Tryd.pinned (.plain (OpenSpec.ofChange octetOddSpec)) octetOddCard

/-- THE SECOND FORM's CARD OF 'lintellaw01.OctetGets'. -/
def octetGetsUptoCard : Claim7 := { stood := { row := octetGetsUptoRow, standIns := [], harness := (true, "7343dcf537671bebd96ff40b539e30c5c2c64819b01fecd4b8d5310825061854"), looks := false }, kinds := [], alts := [], laidByText := true, laidKinds := [.data], laidTests := true, laidLooks := .later }
def OctetGetsUptoCardSaid : Prop := Claim7.holds Tryd.pinned (.plain (OpenSpec.upto octetGetsSpec)) octetGetsUptoCard

/-- THE SECOND FORM's CARD OF 'lintellaw01.OctetPuts'. -/
def octetPutsUptoCard : Claim7 := { stood := { row := octetPutsUptoRow, standIns := [], harness := (true, "7343dcf537671bebd96ff40b539e30c5c2c64819b01fecd4b8d5310825061854"), looks := false }, kinds := [], alts := [], laidByText := true, laidKinds := [.data], laidTests := true, laidLooks := .later }
def OctetPutsUptoCardSaid : Prop := Claim7.holds Tryd.pinned (.plain (OpenSpec.upto octetPutsSpec)) octetPutsUptoCard

/-- THE SECOND FORM's CARD OF 'lintellaw01.OctetTexts'. -/
def octetTextsUptoCard : Claim7 := { stood := { row := octetTextsUptoRow, standIns := [], harness := (true, "7343dcf537671bebd96ff40b539e30c5c2c64819b01fecd4b8d5310825061854"), looks := false }, kinds := [], alts := [], laidByText := true, laidKinds := [.data], laidTests := true, laidLooks := .later }
def OctetTextsUptoCardSaid : Prop := Claim7.holds Tryd.pinned (.plain (OpenSpec.upto octetTextsSpec)) octetTextsUptoCard

/-- THE SECOND FORM's CARD OF 'lintellaw01.OctetBack'. -/
def octetBackUptoCard : Claim7 := { stood := { row := octetBackUptoRow, standIns := [], harness := (true, "7343dcf537671bebd96ff40b539e30c5c2c64819b01fecd4b8d5310825061854"), looks := false }, kinds := [], alts := [], laidByText := true, laidKinds := [.data], laidTests := true, laidLooks := .later }
def OctetBackUptoCardSaid : Prop := Claim7.holds Tryd.pinned (.plain (OpenSpec.upto octetBackSpec)) octetBackUptoCard

/-- THE SECOND FORM's CARD OF 'lintellaw01.OctetTurns'. -/
def octetTurnsUptoCard : Claim7 := { stood := { row := octetTurnsUptoRow, standIns := [], harness := (true, "7343dcf537671bebd96ff40b539e30c5c2c64819b01fecd4b8d5310825061854"), looks := false }, kinds := [], alts := [], laidByText := true, laidKinds := [.data], laidTests := true, laidLooks := .later }
def OctetTurnsUptoCardSaid : Prop := Claim7.holds Tryd.pinned (.plain (OpenSpec.upto octetTurnsSpec)) octetTurnsUptoCard

/-- THE SECOND FORM's CARD OF 'lintellaw01.OctetCuts'. -/
def octetCutsUptoCard : Claim7 := { stood := { row := octetCutsUptoRow, standIns := [], harness := (true, "7343dcf537671bebd96ff40b539e30c5c2c64819b01fecd4b8d5310825061854"), looks := false }, kinds := [], alts := [], laidByText := true, laidKinds := [.data], laidTests := true, laidLooks := .later }
def OctetCutsUptoCardSaid : Prop := Claim7.holds Tryd.pinned (.plain (OpenSpec.upto octetCutsSpec)) octetCutsUptoCard

/-- THE SECOND FORM's CARD OF 'lintellaw01.OctetPieces'. -/
def octetPiecesUptoCard : Claim7 := { stood := { row := octetPiecesUptoRow, standIns := [], harness := (true, "7343dcf537671bebd96ff40b539e30c5c2c64819b01fecd4b8d5310825061854"), looks := false }, kinds := [], alts := [], laidByText := true, laidKinds := [.data], laidTests := true, laidLooks := .later }
def OctetPiecesUptoCardSaid : Prop := Claim7.holds Tryd.pinned (.plain (OpenSpec.upto octetPiecesSpec)) octetPiecesUptoCard

/-- THE SECOND FORM's CARD OF 'lintellaw01.OctetJoins'. -/
def octetJoinsUptoCard : Claim7 := { stood := { row := octetJoinsUptoRow, standIns := [], harness := (true, "7343dcf537671bebd96ff40b539e30c5c2c64819b01fecd4b8d5310825061854"), looks := false }, kinds := [], alts := [], laidByText := true, laidKinds := [.data], laidTests := true, laidLooks := .later }
def OctetJoinsUptoCardSaid : Prop := Claim7.holds Tryd.pinned (.plain (OpenSpec.upto octetJoinsSpec)) octetJoinsUptoCard

/-- THE SECOND FORM's CARD OF 'lintellaw01.OctetOdd'. -/
def octetOddUptoCard : Claim7 := { stood := { row := octetOddUptoRow, standIns := [], harness := (true, "7343dcf537671bebd96ff40b539e30c5c2c64819b01fecd4b8d5310825061854"), looks := false }, kinds := [], alts := [], laidByText := true, laidKinds := [.data], laidTests := true, laidLooks := .later }
def OctetOddUptoCardSaid : Prop := Claim7.holds Tryd.pinned (.plain (OpenSpec.upto octetOddSpec)) octetOddUptoCard
end Rows
end Go.Proofs.YtkoookknffmgjaaDoor
