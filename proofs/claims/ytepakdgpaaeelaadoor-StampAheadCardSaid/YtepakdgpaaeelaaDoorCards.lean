/-
  DERIVED. GIVEN WITH THE SEED: THE CARDS: each row of YtepakdgpaaeelaaDoorRows.lean that lists a variable, with what it lists TIED to the program's text (the seventh form; the later family's looks); each row that meets fmt, with fmt's text TOLD by the authors' own Lean function (tested against real Go, not proved from fmt's source: count such statements apart). THE CARD IS WHAT COUNTS. Prove the row's statement (the work); the ties are given (YtepakdgpaaeelaaDoorTie.lean); close each card by the builder's one call (the guide's Derived/Test/ToyasCard.lean, 'card_holds'). Laid BY PROGRAM, IN A SANDBOX (cutbox-door.mjs). By AI agents, Wed Nov 11 2026. No macro, syntax, notation, axiom, sorry.
-/
import Derived.Test.YtepakdgpaaeelaaDoorRows
import GoSem.ClaimSeven
namespace Go.Proofs.YtepakdgpaaeelaaDoor
namespace Rows

/-- THE TIED CARD OF 'lintellaw11.StampTells'. -/
def stampTellsCard : Claim7 := { stood := { row := stampTellsRow, standIns := [], harness := (true, "f00252b3e8ee5f756b1c58acced41daee3222c14e49441ad97bf8a097fe945c0"), looks := false }, kinds := [], alts := [], laidByText := true, laidKinds := [.data], laidTests := true, laidLooks := .later }
def StampTellsCardSaid : Prop := Claim7.holds Tryd.pinned (.plain (OpenSpec.ofChange stampTellsSpec)) stampTellsCard

/-- THE TIED CARD OF 'lintellaw11.StampReads'. -/
def stampReadsCard : Claim7 := { stood := { row := stampReadsRow, standIns := [], harness := (true, "f00252b3e8ee5f756b1c58acced41daee3222c14e49441ad97bf8a097fe945c0"), looks := false }, kinds := [], alts := [], laidByText := true, laidKinds := [.data], laidTests := true, laidLooks := .later }
def StampReadsCardSaid : Prop := Claim7.holds Tryd.pinned (.plain (OpenSpec.ofChange stampReadsSpec)) stampReadsCard

/-- THE TIED CARD OF 'lintellaw11.StampBack'. -/
def stampBackCard : Claim7 := { stood := { row := stampBackRow, standIns := [], harness := (true, "f00252b3e8ee5f756b1c58acced41daee3222c14e49441ad97bf8a097fe945c0"), looks := false }, kinds := [], alts := [], laidByText := true, laidKinds := [.data], laidTests := true, laidLooks := .later }
def StampBackCardSaid : Prop := Claim7.holds Tryd.pinned (.plain (OpenSpec.ofChange stampBackSpec)) stampBackCard

/-- THE TIED CARD OF 'lintellaw11.StampOrder'. -/
def stampOrderCard : Claim7 := { stood := { row := stampOrderRow, standIns := [], harness := (true, "f00252b3e8ee5f756b1c58acced41daee3222c14e49441ad97bf8a097fe945c0"), looks := false }, kinds := [], alts := [], laidByText := true, laidKinds := [.data], laidTests := true, laidLooks := .later }
def StampOrderCardSaid : Prop := Claim7.holds Tryd.pinned (.plain (OpenSpec.ofChange stampOrderSpec)) stampOrderCard

/-- THE TIED CARD OF 'lintellaw11.StampYears'. -/
def stampYearsCard : Claim7 := { stood := { row := stampYearsRow, standIns := [], harness := (true, "f00252b3e8ee5f756b1c58acced41daee3222c14e49441ad97bf8a097fe945c0"), looks := false }, kinds := [], alts := [], laidByText := true, laidKinds := [.data], laidTests := true, laidLooks := .later }
def StampYearsCardSaid : Prop := Claim7.holds Tryd.pinned (.plain (OpenSpec.ofChange stampYearsSpec)) stampYearsCard

/-- THE TIED CARD OF 'lintellaw11.StampHours'. -/
def stampHoursCard : Claim7 := { stood := { row := stampHoursRow, standIns := [], harness := (true, "f00252b3e8ee5f756b1c58acced41daee3222c14e49441ad97bf8a097fe945c0"), looks := false }, kinds := [], alts := [], laidByText := true, laidKinds := [.data], laidTests := true, laidLooks := .later }
def StampHoursCardSaid : Prop := Claim7.holds Tryd.pinned (.plain (OpenSpec.ofChange stampHoursSpec)) stampHoursCard

/-- THE TIED CARD OF 'lintellaw11.StampTexts'. -/
def stampTextsCard : Claim7 := { stood := { row := stampTextsRow, standIns := [], harness := (true, "f00252b3e8ee5f756b1c58acced41daee3222c14e49441ad97bf8a097fe945c0"), looks := false }, kinds := [], alts := [], laidByText := true, laidKinds := [.data], laidTests := true, laidLooks := .later }
def StampTextsCardSaid : Prop := Claim7.holds Tryd.pinned (.plain (OpenSpec.ofChange stampTextsSpec)) stampTextsCard

/-- THE TIED CARD OF 'lintellaw11.StampCuts'. -/
def stampCutsCard : Claim7 := { stood := { row := stampCutsRow, standIns := [], harness := (true, "f00252b3e8ee5f756b1c58acced41daee3222c14e49441ad97bf8a097fe945c0"), looks := false }, kinds := [], alts := [], laidByText := true, laidKinds := [.data], laidTests := true, laidLooks := .later }
def StampCutsCardSaid : Prop := Claim7.holds Tryd.pinned (.plain (OpenSpec.ofChange stampCutsSpec)) stampCutsCard

/-- THE TIED CARD OF 'lintellaw11.StampAhead'. -/
def stampAheadCard : Claim7 := { stood := { row := stampAheadRow, standIns := [], harness := (true, "f00252b3e8ee5f756b1c58acced41daee3222c14e49441ad97bf8a097fe945c0"), looks := false }, kinds := [], alts := [], laidByText := true, laidKinds := [.data], laidTests := true, laidLooks := .later }
def StampAheadCardSaid : Prop := Claim7.holds Tryd.pinned (.plain (OpenSpec.ofChange stampAheadSpec)) stampAheadCard

/-- THE TIED CARD OF 'lintellaw11.StampRest'. -/
def stampRestCard : Claim7 := { stood := { row := stampRestRow, standIns := [], harness := (true, "f00252b3e8ee5f756b1c58acced41daee3222c14e49441ad97bf8a097fe945c0"), looks := false }, kinds := [], alts := [], laidByText := true, laidKinds := [.data], laidTests := true, laidLooks := .later }
def StampRestCardSaid : Prop := Claim7.holds Tryd.pinned (.plain (OpenSpec.ofChange stampRestSpec)) stampRestCard

/-- THE SECOND FORM's CARD OF 'lintellaw11.StampTells'. -/
def stampTellsUptoCard : Claim7 := { stood := { row := stampTellsUptoRow, standIns := [], harness := (true, "f00252b3e8ee5f756b1c58acced41daee3222c14e49441ad97bf8a097fe945c0"), looks := false }, kinds := [], alts := [], laidByText := true, laidKinds := [.data], laidTests := true, laidLooks := .later }
def StampTellsUptoCardSaid : Prop := Claim7.holds Tryd.pinned (.plain (OpenSpec.upto stampTellsSpec)) stampTellsUptoCard

/-- THE SECOND FORM's CARD OF 'lintellaw11.StampReads'. -/
def stampReadsUptoCard : Claim7 := { stood := { row := stampReadsUptoRow, standIns := [], harness := (true, "f00252b3e8ee5f756b1c58acced41daee3222c14e49441ad97bf8a097fe945c0"), looks := false }, kinds := [], alts := [], laidByText := true, laidKinds := [.data], laidTests := true, laidLooks := .later }
def StampReadsUptoCardSaid : Prop := Claim7.holds Tryd.pinned (.plain (OpenSpec.upto stampReadsSpec)) stampReadsUptoCard

/-- THE SECOND FORM's CARD OF 'lintellaw11.StampBack'. -/
def stampBackUptoCard : Claim7 := { stood := { row := stampBackUptoRow, standIns := [], harness := (true, "f00252b3e8ee5f756b1c58acced41daee3222c14e49441ad97bf8a097fe945c0"), looks := false }, kinds := [], alts := [], laidByText := true, laidKinds := [.data], laidTests := true, laidLooks := .later }
def StampBackUptoCardSaid : Prop := Claim7.holds Tryd.pinned (.plain (OpenSpec.upto stampBackSpec)) stampBackUptoCard

/-- THE SECOND FORM's CARD OF 'lintellaw11.StampOrder'. -/
def stampOrderUptoCard : Claim7 := { stood := { row := stampOrderUptoRow, standIns := [], harness := (true, "f00252b3e8ee5f756b1c58acced41daee3222c14e49441ad97bf8a097fe945c0"), looks := false }, kinds := [], alts := [], laidByText := true, laidKinds := [.data], laidTests := true, laidLooks := .later }
def StampOrderUptoCardSaid : Prop := Claim7.holds Tryd.pinned (.plain (OpenSpec.upto stampOrderSpec)) stampOrderUptoCard

/-- THE SECOND FORM's CARD OF 'lintellaw11.StampYears'. -/
def stampYearsUptoCard : Claim7 := { stood := { row := stampYearsUptoRow, standIns := [], harness := (true, "f00252b3e8ee5f756b1c58acced41daee3222c14e49441ad97bf8a097fe945c0"), looks := false }, kinds := [], alts := [], laidByText := true, laidKinds := [.data], laidTests := true, laidLooks := .later }
def StampYearsUptoCardSaid : Prop := Claim7.holds Tryd.pinned (.plain (OpenSpec.upto stampYearsSpec)) stampYearsUptoCard

/-- THE SECOND FORM's CARD OF 'lintellaw11.StampHours'. -/
def stampHoursUptoCard : Claim7 := { stood := { row := stampHoursUptoRow, standIns := [], harness := (true, "f00252b3e8ee5f756b1c58acced41daee3222c14e49441ad97bf8a097fe945c0"), looks := false }, kinds := [], alts := [], laidByText := true, laidKinds := [.data], laidTests := true, laidLooks := .later }
def StampHoursUptoCardSaid : Prop := Claim7.holds Tryd.pinned (.plain (OpenSpec.upto stampHoursSpec)) stampHoursUptoCard

/-- THE SECOND FORM's CARD OF 'lintellaw11.StampTexts'. -/
def stampTextsUptoCard : Claim7 := { stood := { row := stampTextsUptoRow, standIns := [], harness := (true, "f00252b3e8ee5f756b1c58acced41daee3222c14e49441ad97bf8a097fe945c0"), looks := false }, kinds := [], alts := [], laidByText := true, laidKinds := [.data], laidTests := true, laidLooks := .later }
def StampTextsUptoCardSaid : Prop := Claim7.holds Tryd.pinned (.plain (OpenSpec.upto stampTextsSpec)) stampTextsUptoCard

/-- THE SECOND FORM's CARD OF 'lintellaw11.StampCuts'. -/
def stampCutsUptoCard : Claim7 := { stood := { row := stampCutsUptoRow, standIns := [], harness := (true, "f00252b3e8ee5f756b1c58acced41daee3222c14e49441ad97bf8a097fe945c0"), looks := false }, kinds := [], alts := [], laidByText := true, laidKinds := [.data], laidTests := true, laidLooks := .later }
def StampCutsUptoCardSaid : Prop := Claim7.holds Tryd.pinned (.plain (OpenSpec.upto stampCutsSpec)) stampCutsUptoCard

/-- THE SECOND FORM's CARD OF 'lintellaw11.StampAhead'. -/
def stampAheadUptoCard : Claim7 := { stood := { row := stampAheadUptoRow, standIns := [], harness := (true, "f00252b3e8ee5f756b1c58acced41daee3222c14e49441ad97bf8a097fe945c0"), looks := false }, kinds := [], alts := [], laidByText := true, laidKinds := [.data], laidTests := true, laidLooks := .later }
def StampAheadUptoCardSaid : Prop := Claim7.holds Tryd.pinned (.plain (OpenSpec.upto stampAheadSpec)) stampAheadUptoCard

/-- THE SECOND FORM's CARD OF 'lintellaw11.StampRest'. -/
def stampRestUptoCard : Claim7 := { stood := { row := stampRestUptoRow, standIns := [], harness := (true, "f00252b3e8ee5f756b1c58acced41daee3222c14e49441ad97bf8a097fe945c0"), looks := false }, kinds := [], alts := [], laidByText := true, laidKinds := [.data], laidTests := true, laidLooks := .later }
def StampRestUptoCardSaid : Prop := Claim7.holds Tryd.pinned (.plain (OpenSpec.upto stampRestSpec)) stampRestUptoCard
end Rows
end Go.Proofs.YtepakdgpaaeelaaDoor
