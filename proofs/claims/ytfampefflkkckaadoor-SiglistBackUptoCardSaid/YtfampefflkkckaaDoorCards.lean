/-
  DERIVED. GIVEN WITH THE SEED: THE CARDS: each row of YtfampefflkkckaaDoorRows.lean that lists a variable, with what it lists TIED to the program's text (the seventh form; the later family's looks); each row that meets fmt, with fmt's text TOLD by the authors' own Lean function (tested against real Go, not proved from fmt's source: count such statements apart). THE CARD IS WHAT COUNTS. Prove the row's statement (the work); the ties are given (YtfampefflkkckaaDoorTie.lean); close each card by the builder's one call (the guide's Derived/Test/ToyasCard.lean, 'card_holds'). Laid BY PROGRAM, IN A SANDBOX (cutbox-door.mjs). By AI agents, Wed Nov 11 2026. No macro, syntax, notation, axiom, sorry.
-/
import Derived.Test.YtfampefflkkckaaDoorRows
import GoSem.ClaimSeven
namespace Go.Proofs.YtfampefflkkckaaDoor
namespace Rows

/-- THE TIED CARD OF 'lintellaw18.SiglistReads'. -/
def siglistReadsCard : Claim7 := { stood := { row := siglistReadsRow, standIns := [], harness := (true, "79543d8489e7a4cae4e4da030f757f36ad46fff39e6f8ba5af48a00e3bd10d05"), looks := false }, kinds := [], alts := [], laidByText := true, laidKinds := [.data], laidTests := true, laidLooks := .later }
def SiglistReadsCardSaid : Prop := Claim7.holds Tryd.pinned (.plain (OpenSpec.ofChange siglistReadsSpec)) siglistReadsCard

/-- THE TIED CARD OF 'lintellaw18.SiglistWrites'. -/
def siglistWritesCard : Claim7 := { stood := { row := siglistWritesRow, standIns := [], harness := (true, "79543d8489e7a4cae4e4da030f757f36ad46fff39e6f8ba5af48a00e3bd10d05"), looks := false }, kinds := [], alts := [], laidByText := true, laidKinds := [.data], laidTests := true, laidLooks := .later }
def SiglistWritesCardSaid : Prop := Claim7.holds Tryd.pinned (.plain (OpenSpec.ofChange siglistWritesSpec)) siglistWritesCard

/-- THE TIED CARD OF 'lintellaw18.SiglistMerges'. -/
def siglistMergesCard : Claim7 := { stood := { row := siglistMergesRow, standIns := [], harness := (true, "79543d8489e7a4cae4e4da030f757f36ad46fff39e6f8ba5af48a00e3bd10d05"), looks := false }, kinds := [], alts := [], laidByText := true, laidKinds := [.data], laidTests := true, laidLooks := .later }
def SiglistMergesCardSaid : Prop := Claim7.holds Tryd.pinned (.plain (OpenSpec.ofChange siglistMergesSpec)) siglistMergesCard

/-- THE TIED CARD OF 'lintellaw18.SiglistBack'. -/
def siglistBackCard : Claim7 := { stood := { row := siglistBackRow, standIns := [], harness := (true, "79543d8489e7a4cae4e4da030f757f36ad46fff39e6f8ba5af48a00e3bd10d05"), looks := false }, kinds := [], alts := [], laidByText := true, laidKinds := [.data], laidTests := true, laidLooks := .later }
def SiglistBackCardSaid : Prop := Claim7.holds Tryd.pinned (.plain (OpenSpec.ofChange siglistBackSpec)) siglistBackCard

/-- THE TIED CARD OF 'lintellaw18.SiglistCuts'. -/
def siglistCutsCard : Claim7 := { stood := { row := siglistCutsRow, standIns := [], harness := (true, "79543d8489e7a4cae4e4da030f757f36ad46fff39e6f8ba5af48a00e3bd10d05"), looks := false }, kinds := [], alts := [], laidByText := true, laidKinds := [.data], laidTests := true, laidLooks := .later }
def SiglistCutsCardSaid : Prop := Claim7.holds Tryd.pinned (.plain (OpenSpec.ofChange siglistCutsSpec)) siglistCutsCard

/-- THE TIED CARD OF 'lintellaw18.SiglistHas'. -/
def siglistHasCard : Claim7 := { stood := { row := siglistHasRow, standIns := [], harness := (true, "79543d8489e7a4cae4e4da030f757f36ad46fff39e6f8ba5af48a00e3bd10d05"), looks := false }, kinds := [], alts := [], laidByText := true, laidKinds := [.data], laidTests := true, laidLooks := .later }
def SiglistHasCardSaid : Prop := Claim7.holds Tryd.pinned (.plain (OpenSpec.ofChange siglistHasSpec)) siglistHasCard

/-- THE SECOND FORM's CARD OF 'lintellaw18.SiglistReads'. -/
def siglistReadsUptoCard : Claim7 := { stood := { row := siglistReadsUptoRow, standIns := [], harness := (true, "79543d8489e7a4cae4e4da030f757f36ad46fff39e6f8ba5af48a00e3bd10d05"), looks := false }, kinds := [], alts := [], laidByText := true, laidKinds := [.data], laidTests := true, laidLooks := .later }
def SiglistReadsUptoCardSaid : Prop := Claim7.holds Tryd.pinned (.plain (OpenSpec.upto siglistReadsSpec)) siglistReadsUptoCard

/-- THE SECOND FORM's CARD OF 'lintellaw18.SiglistWrites'. -/
def siglistWritesUptoCard : Claim7 := { stood := { row := siglistWritesUptoRow, standIns := [], harness := (true, "79543d8489e7a4cae4e4da030f757f36ad46fff39e6f8ba5af48a00e3bd10d05"), looks := false }, kinds := [], alts := [], laidByText := true, laidKinds := [.data], laidTests := true, laidLooks := .later }
def SiglistWritesUptoCardSaid : Prop := Claim7.holds Tryd.pinned (.plain (OpenSpec.upto siglistWritesSpec)) siglistWritesUptoCard

/-- THE SECOND FORM's CARD OF 'lintellaw18.SiglistMerges'. -/
def siglistMergesUptoCard : Claim7 := { stood := { row := siglistMergesUptoRow, standIns := [], harness := (true, "79543d8489e7a4cae4e4da030f757f36ad46fff39e6f8ba5af48a00e3bd10d05"), looks := false }, kinds := [], alts := [], laidByText := true, laidKinds := [.data], laidTests := true, laidLooks := .later }
def SiglistMergesUptoCardSaid : Prop := Claim7.holds Tryd.pinned (.plain (OpenSpec.upto siglistMergesSpec)) siglistMergesUptoCard

/-- THE SECOND FORM's CARD OF 'lintellaw18.SiglistBack'. -/
def siglistBackUptoCard : Claim7 := { stood := { row := siglistBackUptoRow, standIns := [], harness := (true, "79543d8489e7a4cae4e4da030f757f36ad46fff39e6f8ba5af48a00e3bd10d05"), looks := false }, kinds := [], alts := [], laidByText := true, laidKinds := [.data], laidTests := true, laidLooks := .later }
def SiglistBackUptoCardSaid : Prop := Claim7.holds Tryd.pinned (.plain (OpenSpec.upto siglistBackSpec)) siglistBackUptoCard

/-- THE SECOND FORM's CARD OF 'lintellaw18.SiglistCuts'. -/
def siglistCutsUptoCard : Claim7 := { stood := { row := siglistCutsUptoRow, standIns := [], harness := (true, "79543d8489e7a4cae4e4da030f757f36ad46fff39e6f8ba5af48a00e3bd10d05"), looks := false }, kinds := [], alts := [], laidByText := true, laidKinds := [.data], laidTests := true, laidLooks := .later }
def SiglistCutsUptoCardSaid : Prop := Claim7.holds Tryd.pinned (.plain (OpenSpec.upto siglistCutsSpec)) siglistCutsUptoCard

/-- THE SECOND FORM's CARD OF 'lintellaw18.SiglistHas'. -/
def siglistHasUptoCard : Claim7 := { stood := { row := siglistHasUptoRow, standIns := [], harness := (true, "79543d8489e7a4cae4e4da030f757f36ad46fff39e6f8ba5af48a00e3bd10d05"), looks := false }, kinds := [], alts := [], laidByText := true, laidKinds := [.data], laidTests := true, laidLooks := .later }
def SiglistHasUptoCardSaid : Prop := Claim7.holds Tryd.pinned (.plain (OpenSpec.upto siglistHasSpec)) siglistHasUptoCard
end Rows
end Go.Proofs.YtfampefflkkckaaDoor
