/-
  DERIVED. GIVEN WITH THE SEED: THE CARDS: each row of YtbplchpbaonadaaDoorRows.lean that lists a variable, with what it lists TIED to the program's text (the seventh form; the later family's looks); each row that meets fmt, with fmt's text TOLD by the authors' own Lean function (tested against real Go, not proved from fmt's source: count such statements apart). THE CARD IS WHAT COUNTS. Prove the row's statement (the work); the ties are given (YtbplchpbaonadaaDoorTie.lean); close each card by the builder's one call (the guide's Derived/Test/ToyasCard.lean, 'card_holds'). Laid BY PROGRAM, IN A SANDBOX (cutbox-door.mjs). By AI agents, Wed Nov 11 2026. No macro, syntax, notation, axiom, sorry.
-/
import Derived.Test.YtbplchpbaonadaaDoorRows
import GoSem.ClaimSeven
namespace Go.Proofs.YtbplchpbaonadaaDoor
namespace Rows

/-- THE TIED CARD OF 'lintellaw06.RsaEncodes'. -/
def rsaEncodesCard : Claim7 := { stood := { row := rsaEncodesRow, standIns := [], harness := (true, "db4b6f9e552893382948cded79872d63ab355622e3a3416789d632a3c40139dd"), looks := false }, kinds := [], alts := [], laidByText := true, laidKinds := [.data], laidTests := true, laidLooks := .later }
def RsaEncodesCardSaid : Prop := Claim7.holds Tryd.pinned (.plain (OpenSpec.ofChange rsaEncodesSpec)) rsaEncodesCard

/-- THE TIED CARD OF 'lintellaw06.RsaVerifies'. -/
def rsaVerifiesCard : Claim7 := { stood := { row := rsaVerifiesRow, standIns := [], harness := (true, "db4b6f9e552893382948cded79872d63ab355622e3a3416789d632a3c40139dd"), looks := false }, kinds := [], alts := [], laidByText := true, laidKinds := [.data], laidTests := true, laidLooks := .later }
def RsaVerifiesCardSaid : Prop := Claim7.holds Tryd.pinned (.plain (OpenSpec.ofChange rsaVerifiesSpec)) rsaVerifiesCard

/-- THE TIED CARD OF 'lintellaw06.RsaOne'. -/
def rsaOneCard : Claim7 := { stood := { row := rsaOneRow, standIns := [], harness := (true, "db4b6f9e552893382948cded79872d63ab355622e3a3416789d632a3c40139dd"), looks := false }, kinds := [], alts := [], laidByText := true, laidKinds := [.data], laidTests := true, laidLooks := .later }
def RsaOneCardSaid : Prop := Claim7.holds Tryd.pinned (.plain (OpenSpec.ofChange rsaOneSpec)) rsaOneCard

/-- THE TIED CARD OF 'lintellaw06.RsaTurned'. -/
def rsaTurnedCard : Claim7 := { stood := { row := rsaTurnedRow, standIns := [], harness := (true, "db4b6f9e552893382948cded79872d63ab355622e3a3416789d632a3c40139dd"), looks := false }, kinds := [], alts := [], laidByText := true, laidKinds := [.data], laidTests := true, laidLooks := .later }
def RsaTurnedCardSaid : Prop := Claim7.holds Tryd.pinned (.plain (OpenSpec.ofChange rsaTurnedSpec)) rsaTurnedCard

/-- THE TIED CARD OF 'lintellaw06.RsaShape'. -/
def rsaShapeCard : Claim7 := { stood := { row := rsaShapeRow, standIns := [], harness := (true, "db4b6f9e552893382948cded79872d63ab355622e3a3416789d632a3c40139dd"), looks := false }, kinds := [], alts := [], laidByText := true, laidKinds := [.data], laidTests := true, laidLooks := .later }
def RsaShapeCardSaid : Prop := Claim7.holds Tryd.pinned (.plain (OpenSpec.ofChange rsaShapeSpec)) rsaShapeCard

/-- THE TIED CARD OF 'lintellaw06.RsaKeys'. -/
def rsaKeysCard : Claim7 := { stood := { row := rsaKeysRow, standIns := [], harness := (true, "db4b6f9e552893382948cded79872d63ab355622e3a3416789d632a3c40139dd"), looks := false }, kinds := [], alts := [], laidByText := true, laidKinds := [.data], laidTests := true, laidLooks := .later }
def RsaKeysCardSaid : Prop := Claim7.holds Tryd.pinned (.plain (OpenSpec.ofChange rsaKeysSpec)) rsaKeysCard

/-- THE SECOND FORM's CARD OF 'lintellaw06.RsaEncodes'. -/
def rsaEncodesUptoCard : Claim7 := { stood := { row := rsaEncodesUptoRow, standIns := [], harness := (true, "db4b6f9e552893382948cded79872d63ab355622e3a3416789d632a3c40139dd"), looks := false }, kinds := [], alts := [], laidByText := true, laidKinds := [.data], laidTests := true, laidLooks := .later }
def RsaEncodesUptoCardSaid : Prop := Claim7.holds Tryd.pinned (.plain (OpenSpec.upto rsaEncodesSpec)) rsaEncodesUptoCard

/-- THE SECOND FORM's CARD OF 'lintellaw06.RsaVerifies'. -/
def rsaVerifiesUptoCard : Claim7 := { stood := { row := rsaVerifiesUptoRow, standIns := [], harness := (true, "db4b6f9e552893382948cded79872d63ab355622e3a3416789d632a3c40139dd"), looks := false }, kinds := [], alts := [], laidByText := true, laidKinds := [.data], laidTests := true, laidLooks := .later }
def RsaVerifiesUptoCardSaid : Prop := Claim7.holds Tryd.pinned (.plain (OpenSpec.upto rsaVerifiesSpec)) rsaVerifiesUptoCard

/-- THE SECOND FORM's CARD OF 'lintellaw06.RsaOne'. -/
def rsaOneUptoCard : Claim7 := { stood := { row := rsaOneUptoRow, standIns := [], harness := (true, "db4b6f9e552893382948cded79872d63ab355622e3a3416789d632a3c40139dd"), looks := false }, kinds := [], alts := [], laidByText := true, laidKinds := [.data], laidTests := true, laidLooks := .later }
def RsaOneUptoCardSaid : Prop := Claim7.holds Tryd.pinned (.plain (OpenSpec.upto rsaOneSpec)) rsaOneUptoCard

/-- THE SECOND FORM's CARD OF 'lintellaw06.RsaTurned'. -/
def rsaTurnedUptoCard : Claim7 := { stood := { row := rsaTurnedUptoRow, standIns := [], harness := (true, "db4b6f9e552893382948cded79872d63ab355622e3a3416789d632a3c40139dd"), looks := false }, kinds := [], alts := [], laidByText := true, laidKinds := [.data], laidTests := true, laidLooks := .later }
def RsaTurnedUptoCardSaid : Prop := Claim7.holds Tryd.pinned (.plain (OpenSpec.upto rsaTurnedSpec)) rsaTurnedUptoCard

/-- THE SECOND FORM's CARD OF 'lintellaw06.RsaShape'. -/
def rsaShapeUptoCard : Claim7 := { stood := { row := rsaShapeUptoRow, standIns := [], harness := (true, "db4b6f9e552893382948cded79872d63ab355622e3a3416789d632a3c40139dd"), looks := false }, kinds := [], alts := [], laidByText := true, laidKinds := [.data], laidTests := true, laidLooks := .later }
def RsaShapeUptoCardSaid : Prop := Claim7.holds Tryd.pinned (.plain (OpenSpec.upto rsaShapeSpec)) rsaShapeUptoCard

/-- THE SECOND FORM's CARD OF 'lintellaw06.RsaKeys'. -/
def rsaKeysUptoCard : Claim7 := { stood := { row := rsaKeysUptoRow, standIns := [], harness := (true, "db4b6f9e552893382948cded79872d63ab355622e3a3416789d632a3c40139dd"), looks := false }, kinds := [], alts := [], laidByText := true, laidKinds := [.data], laidTests := true, laidLooks := .later }
def RsaKeysUptoCardSaid : Prop := Claim7.holds Tryd.pinned (.plain (OpenSpec.upto rsaKeysSpec)) rsaKeysUptoCard
end Rows
end Go.Proofs.YtbplchpbaonadaaDoor
