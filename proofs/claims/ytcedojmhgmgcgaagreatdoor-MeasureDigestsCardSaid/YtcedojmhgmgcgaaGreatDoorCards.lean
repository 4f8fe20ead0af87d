/-
  DERIVED. GIVEN WITH THE SEED: THE CARDS: each row of YtcedojmhgmgcgaaGreatDoorRows.lean that lists a variable, with what it lists TIED to the program's text (the seventh form; the later family's looks); each row that meets fmt, with fmt's text TOLD by the authors' own Lean function (tested against real Go, not proved from fmt's source: count such statements apart). THE CARD IS WHAT COUNTS. Prove the row's statement (the work); the ties are given (YtcedojmhgmgcgaaGreatDoorTie.lean); close each card by the builder's one call (the guide's Derived/Test/ToyasCard.lean, 'card_holds'). Laid BY PROGRAM, IN A SANDBOX (cutbox-door.mjs). By AI agents, Wed Nov 11 2026. No macro, syntax, notation, axiom, sorry.
-/
import Derived.Test.YtcedojmhgmgcgaaGreatDoorRows
import GoSem.ClaimSeven
namespace Go.Proofs.YtcedojmhgmgcgaaGreatDoor
namespace Rows

/-- THE TIED CARD OF 'lintellaw17.MeasureDigests'. -/
def measureDigestsCard : Claim7 := { stood := { row := measureDigestsRow, standIns := [], harness := (true, "483645ea2577aad2a5b5d61201599f4a3f1b2991683cb229a434e62e397a06b8"), looks := false }, kinds := [], alts := [], laidByText := true, laidKinds := [.data], laidTests := true, laidLooks := .later }
def MeasureDigestsCardSaid : Prop := Claim7.holds Tryz.pinned (.plain (OpenSpec.ofChange measureDigestsSpec)) measureDigestsCard

/-- THE SECOND FORM's CARD OF 'lintellaw17.MeasureDigests'. -/
def measureDigestsUptoCard : Claim7 := { stood := { row := measureDigestsUptoRow, standIns := [], harness := (true, "483645ea2577aad2a5b5d61201599f4a3f1b2991683cb229a434e62e397a06b8"), looks := false }, kinds := [], alts := [], laidByText := true, laidKinds := [.data], laidTests := true, laidLooks := .later }
def MeasureDigestsUptoCardSaid : Prop := Claim7.holds Tryz.pinned (.plain (OpenSpec.upto measureDigestsSpec)) measureDigestsUptoCard
end Rows
end Go.Proofs.YtcedojmhgmgcgaaGreatDoor
