/-
  NARROWER THAN 'FOR EVERY INPUT', by the rows' own cells (each row's printed sentence says how): MeasureDigests: laid.
  DERIVED. THE GIVEN ROWS OF THIS SEAT. 1 by the template 'for every input the law returns true; each argument reads behind the call as it read before'; 0 by the template 'total and deterministic' (their statements: YtcedojmhgmgcgaaGreatDoorTotals.lean).
  GIVEN WITH THE SEED: the statements are not yours to turn. If you find one false, say at which input.
  Laid BY PROGRAM, IN A SANDBOX (cutbox-rows.mjs): the forced cells as the released guide's own fill.sh prints them over the translation 57e91b1114c7bfb5… (all of the seat's roots in one cut). By AI agents, Wed Nov 11 2026. No macro, syntax, notation, axiom, sorry.
-/
import Derived.Test.YtcedojmhgmgcgaaGreatDoorChecked
import GoSem.Claim
import GoSem.ClaimJoined
import GoSem.ClaimMapViews
import Derived.JoinedTies
import Derived.KernelRfl
namespace Go.Proofs.YtcedojmhgmgcgaaGreatDoor
/- THE CELL 'sum', in the pinned program and in every row, IS THE sha256 OF THE DUMP (.gsa) THAT YtcedojmhgmgcgaaGreatDoorProg.lean LOADS. Nothing in Lean hashes anything: it is a label: what it is worth is what the hold of that sum in a sandbox is worth. -/
noncomputable def Tryz.pinned : Pinned := { name := "ytcedojmhgmgcgaagreatdoor", sum := "57e91b1114c7bfb532ab543897ad5c31807e44b3f477557d321258843606b8b1", checked := Tryz.checked }
namespace Rows
def none {H : Type} : Left H := { results := [], args := [] }

/- WHAT THE LISTED PACKAGE-LEVEL VARIABLES READ AS WHEN THE CALL BEGINS. Each datum BY PROGRAM (the guide's laid-datum.mjs) off the statement by which the dump's own 'gosem.cut.vars' lays the variable. In a bare row this is a premise. The card (YtcedojmhgmgcgaaGreatDoorCards.lean) ties it to the program's text. -/
def laid_lintel_octet_sizes {H : Type} : DataW H := .agg [.lit (.int .i64 1), .lit (.int .i64 2), .lit (.int .i64 4), .lit (.int .i64 8)]

/-- 'lintellaw17.MeasureDigests': WHATEVER THE INPUT: true; the input reads as it did. -/
def measureDigestsSpec : ChangeSpec := { name := "measureDigests", fn := fun _ => fun
  | [d] => { results := [.lit (.bool true)], args := [d] }
  | _ => none }
def measureDigestsRow : OpenClaim := { program := "ytcedojmhgmgcgaagreatdoor", sum := "57e91b1114c7bfb532ab543897ad5c31807e44b3f477557d321258843606b8b1", func := "lintel/lintellaw17.MeasureDigests", spec := "measureDigests", unfollowed := true, recurses := true, named := ["lintel/octet.sizes"], apart := false, laid := [("lintel/octet.sizes", laid_lintel_octet_sizes)] }
def MeasureDigestsSaid : Prop := measureDigestsRow.holds Tryz.pinned (OpenSpec.ofChange measureDigestsSpec)

/-- ITS FALSE NEIGHBOUR: 'it returns false'. Refute it at one input. -/
def measureDigestsWrong : ChangeSpec := { name := "measureDigests", fn := fun _ => fun
  | [d] => { results := [.lit (.bool false)], args := [d] }
  | _ => none }
def MeasureDigestsWrongFalsely : Prop := measureDigestsRow.holds Tryz.pinned (OpenSpec.ofChange measureDigestsWrong)

/- THE SECOND FORM. 'bulk': how many values and letters a reading holds, each counted each time it is reached (what is shared counts as often as it is met; a slice's spare places count too). A statement '..UptoSaid' is the law's where the arguments, and the package variables that the reading takes, are together of bulk at most 1048576: NARROWER than '..Said'. Prove '..Said' where nothing that the law and all that it calls make is longer than what came in: it says more and counts as full. Else prove '..UptoSaid'. A law counts once. -/
mutual
def uptoBulk {H : Type} : DataW H → Nat
  | .lit (.string bytes) => bytes.length + 1
  | .lit _ => 1
  | .nil => 1
  | .ptr d => uptoBulk d + 1
  | .slice elems spare => uptoBulkAll elems + uptoBulkAll spare + 1
  | .agg parts => uptoBulkAll parts + 1
  | .iface _ d => uptoBulk d + 1
  | .map entries => uptoBulkEntries entries + 1
  | .held _ => 1
def uptoBulkAll {H : Type} : List (DataW H) → Nat
  | [] => 0
  | d :: r => uptoBulk d + uptoBulkAll r
def uptoBulkEntries {H : Type} : List (Lit × DataW H) → Nat
  | [] => 0
  | x :: r => uptoBulkEntry x + uptoBulkEntries r
def uptoBulkEntry {H : Type} : Lit × DataW H → Nat
  | (.string bytes, d) => bytes.length + uptoBulk d + 1
  | (_, d) => uptoBulk d + 1
 end
def uptoSmall : (H : Type) → List (DataW H) → Bool := fun _ ds => decide (uptoBulkAll ds ≤ 1048576)
def OpenSpec.upto (s : _root_.Go.ChangeSpec) : _root_.Go.OpenSpec := { _root_.Go.OpenSpec.ofChange s with cond := some uptoSmall }

/-- 'lintellaw17.MeasureDigests', WHERE WHAT IT READS IS OF BULK AT MOST 1048576: true; the input reads as it did. -/
def measureDigestsUptoRow : OpenClaim := { program := "ytcedojmhgmgcgaagreatdoor", sum := "57e91b1114c7bfb532ab543897ad5c31807e44b3f477557d321258843606b8b1", func := "lintel/lintellaw17.MeasureDigests", spec := "measureDigests", unfollowed := true, recurses := true, named := ["lintel/octet.sizes"], apart := false, laid := [("lintel/octet.sizes", laid_lintel_octet_sizes)], narrowed := true }
def MeasureDigestsUptoSaid : Prop := measureDigestsUptoRow.holds Tryz.pinned (OpenSpec.upto measureDigestsSpec)

end Rows
end Go.Proofs.YtcedojmhgmgcgaaGreatDoor
