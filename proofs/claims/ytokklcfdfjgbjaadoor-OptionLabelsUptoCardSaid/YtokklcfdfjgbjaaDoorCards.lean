/-
  DERIVED. GIVEN WITH THE SEED: THE CARDS: each row of YtokklcfdfjgbjaaDoorRows.lean that lists a variable, with what it lists TIED to the program's text (the seventh form; the later family's looks); each row that meets fmt, with fmt's text TOLD by the authors' own Lean function (tested against real Go, not proved from fmt's source: count such statements apart). THE CARD IS WHAT COUNTS. Prove the row's statement (the work); the ties are given (YtokklcfdfjgbjaaDoorTie.lean); close each card by the builder's one call (the guide's Derived/Test/ToyasCard.lean, 'card_holds'). Laid BY PROGRAM, IN A SANDBOX (cutbox-door.mjs). By AI agents, Wed Nov 11 2026. No macro, syntax, notation, axiom, sorry.
-/
import Derived.Test.YtokklcfdfjgbjaaDoorRows
import GoSem.ClaimSeven
namespace Go.Proofs.YtokklcfdfjgbjaaDoor
namespace Rows

/-- THE TIED CARD OF 'lintellaw25.OptionWrites'. -/
def optionWritesCard : Claim7 := { stood := { row := optionWritesRow, standIns := [], harness := (true, "e12a83b91a52802a5cd51da3e30e79dacca520db359b88f93b68245db6da4dc9"), looks := false }, kinds := [], alts := [], laidByText := true, laidKinds := [.data], laidTests := true, laidLooks := .later }
def OptionWritesCardSaid : Prop := Claim7.holds Tryd.pinned (.plain (OpenSpec.ofChange optionWritesSpec)) optionWritesCard

/-- THE TIED CARD OF 'lintellaw25.OptionReads'. -/
def optionReadsCard : Claim7 := { stood := { row := optionReadsRow, standIns := [], harness := (true, "e12a83b91a52802a5cd51da3e30e79dacca520db359b88f93b68245db6da4dc9"), looks := false }, kinds := [], alts := [], laidByText := true, laidKinds := [.data], laidTests := true, laidLooks := .later }
def OptionReadsCardSaid : Prop := Claim7.holds Tryd.pinned (.plain (OpenSpec.ofChange optionReadsSpec)) optionReadsCard

/-- THE TIED CARD OF 'lintellaw25.OptionBack'. -/
def optionBackCard : Claim7 := { stood := { row := optionBackRow, standIns := [], harness := (true, "e12a83b91a52802a5cd51da3e30e79dacca520db359b88f93b68245db6da4dc9"), looks := false }, kinds := [], alts := [], laidByText := true, laidKinds := [.data], laidTests := true, laidLooks := .later }
def OptionBackCardSaid : Prop := Claim7.holds Tryd.pinned (.plain (OpenSpec.ofChange optionBackSpec)) optionBackCard

/-- THE TIED CARD OF 'lintellaw25.OptionMore'. -/
def optionMoreCard : Claim7 := { stood := { row := optionMoreRow, standIns := [], harness := (true, "e12a83b91a52802a5cd51da3e30e79dacca520db359b88f93b68245db6da4dc9"), looks := false }, kinds := [], alts := [], laidByText := true, laidKinds := [.data], laidTests := true, laidLooks := .later }
def OptionMoreCardSaid : Prop := Claim7.holds Tryd.pinned (.plain (OpenSpec.ofChange optionMoreSpec)) optionMoreCard

/-- THE TIED CARD OF 'lintellaw25.OptionSizes'. -/
def optionSizesCard : Claim7 := { stood := { row := optionSizesRow, standIns := [], harness := (true, "e12a83b91a52802a5cd51da3e30e79dacca520db359b88f93b68245db6da4dc9"), looks := false }, kinds := [], alts := [], laidByText := true, laidKinds := [.data], laidTests := true, laidLooks := .later }
def OptionSizesCardSaid : Prop := Claim7.holds Tryd.pinned (.plain (OpenSpec.ofChange optionSizesSpec)) optionSizesCard

/-- THE TIED CARD OF 'lintellaw25.OptionLabels'. -/
def optionLabelsCard : Claim7 := { stood := { row := optionLabelsRow, standIns := [], harness := (true, "e12a83b91a52802a5cd51da3e30e79dacca520db359b88f93b68245db6da4dc9"), looks := false }, kinds := [], alts := [], laidByText := true, laidKinds := [.data], laidTests := true, laidLooks := .later }
def OptionLabelsCardSaid : Prop := Claim7.holds Tryd.pinned (.plain (OpenSpec.ofChange optionLabelsSpec)) optionLabelsCard

/-- THE SECOND FORM's CARD OF 'lintellaw25.OptionWrites'. -/
def optionWritesUptoCard : Claim7 := { stood := { row := optionWritesUptoRow, standIns := [], harness := (true, "e12a83b91a52802a5cd51da3e30e79dacca520db359b88f93b68245db6da4dc9"), looks := false }, kinds := [], alts := [], laidByText := true, laidKinds := [.data], laidTests := true, laidLooks := .later }
def OptionWritesUptoCardSaid : Prop := Claim7.holds Tryd.pinned (.plain (OpenSpec.upto optionWritesSpec)) optionWritesUptoCard

/-- THE SECOND FORM's CARD OF 'lintellaw25.OptionReads'. -/
def optionReadsUptoCard : Claim7 := { stood := { row := optionReadsUptoRow, standIns := [], harness := (true, "e12a83b91a52802a5cd51da3e30e79dacca520db359b88f93b68245db6da4dc9"), looks := false }, kinds := [], alts := [], laidByText := true, laidKinds := [.data], laidTests := true, laidLooks := .later }
def OptionReadsUptoCardSaid : Prop := Claim7.holds Tryd.pinned (.plain (OpenSpec.upto optionReadsSpec)) optionReadsUptoCard

/-- THE SECOND FORM's CARD OF 'lintellaw25.OptionBack'. -/
def optionBackUptoCard : Claim7 := { stood := { row := optionBackUptoRow, standIns := [], harness := (true, "e12a83b91a52802a5cd51da3e30e79dacca520db359b88f93b68245db6da4dc9"), looks := false }, kinds := [], alts := [], laidByText := true, laidKinds := [.data], laidTests := true, laidLooks := .later }
def OptionBackUptoCardSaid : Prop := Claim7.holds Tryd.pinned (.plain (OpenSpec.upto optionBackSpec)) optionBackUptoCard

/-- THE SECOND FORM's CARD OF 'lintellaw25.OptionMore'. -/
def optionMoreUptoCard : Claim7 := { stood := { row := optionMoreUptoRow, standIns := [], harness := (true, "e12a83b91a52802a5cd51da3e30e79dacca520db359b88f93b68245db6da4dc9"), looks := false }, kinds := [], alts := [], laidByText := true, laidKinds := [.data], laidTests := true, laidLooks := .later }
def OptionMoreUptoCardSaid : Prop := Claim7.holds Tryd.pinned (.plain (OpenSpec.upto optionMoreSpec)) optionMoreUptoCard

/-- THE SECOND FORM's CARD OF 'lintellaw25.OptionSizes'. -/
def optionSizesUptoCard : Claim7 := { stood := { row := optionSizesUptoRow, standIns := [], harness := (true, "e12a83b91a52802a5cd51da3e30e79dacca520db359b88f93b68245db6da4dc9"), looks := false }, kinds := [], alts := [], laidByText := true, laidKinds := [.data], laidTests := true, laidLooks := .later }
def OptionSizesUptoCardSaid : Prop := Claim7.holds Tryd.pinned (.plain (OpenSpec.upto optionSizesSpec)) optionSizesUptoCard

/-- THE SECOND FORM's CARD OF 'lintellaw25.OptionLabels'. -/
def optionLabelsUptoCard : Claim7 := { stood := { row := optionLabelsUptoRow, standIns := [], harness := (true, "e12a83b91a52802a5cd51da3e30e79dacca520db359b88f93b68245db6da4dc9"), looks := false }, kinds := [], alts := [], laidByText := true, laidKinds := [.data], laidTests := true, laidLooks := .later }
def OptionLabelsUptoCardSaid : Prop := Claim7.holds Tryd.pinned (.plain (OpenSpec.upto optionLabelsSpec)) optionLabelsUptoCard
end Rows
end Go.Proofs.YtokklcfdfjgbjaaDoor
