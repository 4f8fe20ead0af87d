/-
  NARROWER THAN 'FOR EVERY INPUT', by the rows' own cells (each row's printed sentence says how): OctetGets: laid · OctetPuts: laid · OctetTexts: laid · OctetBack: laid · OctetTurns: laid · OctetCuts: laid · OctetPieces: laid · OctetJoins: laid · OctetOdd: laid.
  DERIVED. THE GIVEN ROWS OF THIS SEAT. 9 by the template 'for every input the law returns true; each argument reads behind the call as it read before'; 0 by the template 'total and deterministic' (their statements: YtkoookknffmgjaaDoorTotals.lean).
  GIVEN WITH THE SEED: the statements are not yours to turn. If you find one false, say at which input.
  Laid BY PROGRAM, IN A SANDBOX (cutbox-rows.mjs): the forced cells as the released guide's own fill.sh prints them over the translation 238ce95c2d134e23… (all of the seat's roots in one cut). By AI agents, Wed Nov 11 2026. No macro, syntax, notation, axiom, sorry.
-/
import Derived.Test.YtkoookknffmgjaaDoorChecked
import GoSem.Claim
import GoSem.ClaimJoined
import GoSem.ClaimMapViews
import Derived.JoinedTies
import Derived.KernelRfl
namespace Go.Proofs.YtkoookknffmgjaaDoor
/- THE CELL 'sum', in the pinned program and in every row, IS THE sha256 OF THE DUMP (.gsa) THAT YtkoookknffmgjaaDoorProg.lean LOADS. Nothing in Lean hashes anything: it is a label: what it is worth is what the hold of that sum in a sandbox is worth. -/
noncomputable def Tryd.pinned : Pinned := { name := "ytkoookknffmgjaadoor", sum := "238ce95c2d134e23a370f2549ef572e3edf9c93f8393bdcb08cd692335119a5d", checked := Tryd.checked }
namespace Rows
def none {H : Type} : Left H := { results := [], args := [] }

/- WHAT THE LISTED PACKAGE-LEVEL VARIABLES READ AS WHEN THE CALL BEGINS. Each datum BY PROGRAM (the guide's laid-datum.mjs) off the statement by which the dump's own 'gosem.cut.vars' lays the variable. In a bare row this is a premise. The card (YtkoookknffmgjaaDoorCards.lean) ties it to the program's text. -/
def laid_lintel_octet_sizes {H : Type} : DataW H := .agg [.lit (.int .i64 1), .lit (.int .i64 2), .lit (.int .i64 4), .lit (.int .i64 8)]

/-- 'lintellaw01.OctetGets': WHATEVER THE INPUT: true; the input reads as it did. -/
def octetGetsSpec : ChangeSpec := { name := "octetGets", fn := fun _ => fun
  | [d1, d2, d3] => { results := [.lit (.bool true)], args := [d1, d2, d3] }
  | _ => none }
def octetGetsRow : OpenClaim := { program := "ytkoookknffmgjaadoor", sum := "238ce95c2d134e23a370f2549ef572e3edf9c93f8393bdcb08cd692335119a5d", func := "lintel/lintellaw01.OctetGets", spec := "octetGets", unfollowed := true, recurses := true, named := ["lintel/octet.sizes"], apart := false, laid := [("lintel/octet.sizes", laid_lintel_octet_sizes)] }
def OctetGetsSaid : Prop := octetGetsRow.holds Tryd.pinned (OpenSpec.ofChange octetGetsSpec)

/-- ITS FALSE NEIGHBOUR: 'it returns false'. Refute it at one input. -/
def octetGetsWrong : ChangeSpec := { name := "octetGets", fn := fun _ => fun
  | [d1, d2, d3] => { results := [.lit (.bool false)], args := [d1, d2, d3] }
  | _ => none }
def OctetGetsWrongFalsely : Prop := octetGetsRow.holds Tryd.pinned (OpenSpec.ofChange octetGetsWrong)

/-- 'lintellaw01.OctetPuts': WHATEVER THE INPUT: true; the input reads as it did. -/
def octetPutsSpec : ChangeSpec := { name := "octetPuts", fn := fun _ => fun
  | [d1, d2, d3] => { results := [.lit (.bool true)], args := [d1, d2, d3] }
  | _ => none }
def octetPutsRow : OpenClaim := { program := "ytkoookknffmgjaadoor", sum := "238ce95c2d134e23a370f2549ef572e3edf9c93f8393bdcb08cd692335119a5d", func := "lintel/lintellaw01.OctetPuts", spec := "octetPuts", unfollowed := true, recurses := true, named := ["lintel/octet.sizes"], apart := false, laid := [("lintel/octet.sizes", laid_lintel_octet_sizes)] }
def OctetPutsSaid : Prop := octetPutsRow.holds Tryd.pinned (OpenSpec.ofChange octetPutsSpec)

/-- ITS FALSE NEIGHBOUR: 'it returns false'. Refute it at one input. -/
def octetPutsWrong : ChangeSpec := { name := "octetPuts", fn := fun _ => fun
  | [d1, d2, d3] => { results := [.lit (.bool false)], args := [d1, d2, d3] }
  | _ => none }
def OctetPutsWrongFalsely : Prop := octetPutsRow.holds Tryd.pinned (OpenSpec.ofChange octetPutsWrong)

/-- 'lintellaw01.OctetTexts': WHATEVER THE INPUT: true; the input reads as it did. -/
def octetTextsSpec : ChangeSpec := { name := "octetTexts", fn := fun _ => fun
  | [d1, d2] => { results := [.lit (.bool true)], args := [d1, d2] }
  | _ => none }
def octetTextsRow : OpenClaim := { program := "ytkoookknffmgjaadoor", sum := "238ce95c2d134e23a370f2549ef572e3edf9c93f8393bdcb08cd692335119a5d", func := "lintel/lintellaw01.OctetTexts", spec := "octetTexts", unfollowed := true, recurses := true, named := ["lintel/octet.sizes"], apart := false, laid := [("lintel/octet.sizes", laid_lintel_octet_sizes)] }
def OctetTextsSaid : Prop := octetTextsRow.holds Tryd.pinned (OpenSpec.ofChange octetTextsSpec)

/-- ITS FALSE NEIGHBOUR: 'it returns false'. Refute it at one input. -/
def octetTextsWrong : ChangeSpec := { name := "octetTexts", fn := fun _ => fun
  | [d1, d2] => { results := [.lit (.bool false)], args := [d1, d2] }
  | _ => none }
def OctetTextsWrongFalsely : Prop := octetTextsRow.holds Tryd.pinned (OpenSpec.ofChange octetTextsWrong)

/-- 'lintellaw01.OctetBack': WHATEVER THE INPUT: true; the input reads as it did. -/
def octetBackSpec : ChangeSpec := { name := "octetBack", fn := fun _ => fun
  | [d1, d2, d3] => { results := [.lit (.bool true)], args := [d1, d2, d3] }
  | _ => none }
def octetBackRow : OpenClaim := { program := "ytkoookknffmgjaadoor", sum := "238ce95c2d134e23a370f2549ef572e3edf9c93f8393bdcb08cd692335119a5d", func := "lintel/lintellaw01.OctetBack", spec := "octetBack", unfollowed := true, recurses := true, named := ["lintel/octet.sizes"], apart := false, laid := [("lintel/octet.sizes", laid_lintel_octet_sizes)] }
def OctetBackSaid : Prop := octetBackRow.holds Tryd.pinned (OpenSpec.ofChange octetBackSpec)

/-- ITS FALSE NEIGHBOUR: 'it returns false'. Refute it at one input. -/
def octetBackWrong : ChangeSpec := { name := "octetBack", fn := fun _ => fun
  | [d1, d2, d3] => { results := [.lit (.bool false)], args := [d1, d2, d3] }
  | _ => none }
def OctetBackWrongFalsely : Prop := octetBackRow.holds Tryd.pinned (OpenSpec.ofChange octetBackWrong)

/-- 'lintellaw01.OctetTurns': WHATEVER THE INPUT: true; the input reads as it did. -/
def octetTurnsSpec : ChangeSpec := { name := "octetTurns", fn := fun _ => fun
  | [d1, d2, d3] => { results := [.lit (.bool true)], args := [d1, d2, d3] }
  | _ => none }
def octetTurnsRow : OpenClaim := { program := "ytkoookknffmgjaadoor", sum := "238ce95c2d134e23a370f2549ef572e3edf9c93f8393bdcb08cd692335119a5d", func := "lintel/lintellaw01.OctetTurns", spec := "octetTurns", unfollowed := true, recurses := true, named := ["lintel/octet.sizes"], apart := false, laid := [("lintel/octet.sizes", laid_lintel_octet_sizes)] }
def OctetTurnsSaid : Prop := octetTurnsRow.holds Tryd.pinned (OpenSpec.ofChange octetTurnsSpec)

/-- ITS FALSE NEIGHBOUR: 'it returns false'. Refute it at one input. -/
def octetTurnsWrong : ChangeSpec := { name := "octetTurns", fn := fun _ => fun
  | [d1, d2, d3] => { results := [.lit (.bool false)], args := [d1, d2, d3] }
  | _ => none }
def OctetTurnsWrongFalsely : Prop := octetTurnsRow.holds Tryd.pinned (OpenSpec.ofChange octetTurnsWrong)

/-- 'lintellaw01.OctetCuts': WHATEVER THE INPUT: true; the input reads as it did. -/
def octetCutsSpec : ChangeSpec := { name := "octetCuts", fn := fun _ => fun
  | [d] => { results := [.lit (.bool true)], args := [d] }
  | _ => none }
def octetCutsRow : OpenClaim := { program := "ytkoookknffmgjaadoor", sum := "238ce95c2d134e23a370f2549ef572e3edf9c93f8393bdcb08cd692335119a5d", func := "lintel/lintellaw01.OctetCuts", spec := "octetCuts", unfollowed := true, recurses := true, named := ["lintel/octet.sizes"], apart := false, laid := [("lintel/octet.sizes", laid_lintel_octet_sizes)] }
def OctetCutsSaid : Prop := octetCutsRow.holds Tryd.pinned (OpenSpec.ofChange octetCutsSpec)

/-- ITS FALSE NEIGHBOUR: 'it returns false'. Refute it at one input. -/
def octetCutsWrong : ChangeSpec := { name := "octetCuts", fn := fun _ => fun
  | [d] => { results := [.lit (.bool false)], args := [d] }
  | _ => none }
def OctetCutsWrongFalsely : Prop := octetCutsRow.holds Tryd.pinned (OpenSpec.ofChange octetCutsWrong)

/-- 'lintellaw01.OctetPieces': WHATEVER THE INPUT: true; the input reads as it did. -/
def octetPiecesSpec : ChangeSpec := { name := "octetPieces", fn := fun _ => fun
  | [d1, d2] => { results := [.lit (.bool true)], args := [d1, d2] }
  | _ => none }
def octetPiecesRow : OpenClaim := { program := "ytkoookknffmgjaadoor", sum := "238ce95c2d134e23a370f2549ef572e3edf9c93f8393bdcb08cd692335119a5d", func := "lintel/lintellaw01.OctetPieces", spec := "octetPieces", unfollowed := true, recurses := true, named := ["lintel/octet.sizes"], apart := false, laid := [("lintel/octet.sizes", laid_lintel_octet_sizes)] }
def OctetPiecesSaid : Prop := octetPiecesRow.holds Tryd.pinned (OpenSpec.ofChange octetPiecesSpec)

/-- ITS FALSE NEIGHBOUR: 'it returns false'. Refute it at one input. -/
def octetPiecesWrong : ChangeSpec := { name := "octetPieces", fn := fun _ => fun
  | [d1, d2] => { results := [.lit (.bool false)], args := [d1, d2] }
  | _ => none }
def OctetPiecesWrongFalsely : Prop := octetPiecesRow.holds Tryd.pinned (OpenSpec.ofChange octetPiecesWrong)

/-- 'lintellaw01.OctetJoins': WHATEVER THE INPUT: true; the input reads as it did. -/
def octetJoinsSpec : ChangeSpec := { name := "octetJoins", fn := fun _ => fun
  | [d1, d2] => { results := [.lit (.bool true)], args := [d1, d2] }
  | _ => none }
def octetJoinsRow : OpenClaim := { program := "ytkoookknffmgjaadoor", sum := "238ce95c2d134e23a370f2549ef572e3edf9c93f8393bdcb08cd692335119a5d", func := "lintel/lintellaw01.OctetJoins", spec := "octetJoins", unfollowed := true, recurses := true, named := ["lintel/octet.sizes"], apart := false, laid := [("lintel/octet.sizes", laid_lintel_octet_sizes)] }
def OctetJoinsSaid : Prop := octetJoinsRow.holds Tryd.pinned (OpenSpec.ofChange octetJoinsSpec)

/-- ITS FALSE NEIGHBOUR: 'it returns false'. Refute it at one input. -/
def octetJoinsWrong : ChangeSpec := { name := "octetJoins", fn := fun _ => fun
  | [d1, d2] => { results := [.lit (.bool false)], args := [d1, d2] }
  | _ => none }
def OctetJoinsWrongFalsely : Prop := octetJoinsRow.holds Tryd.pinned (OpenSpec.ofChange octetJoinsWrong)

/-- 'lintellaw01.OctetOdd': WHATEVER THE INPUT: true; the input reads as it did. -/
def octetOddSpec : ChangeSpec := { name := "octetOdd", fn := fun _ => fun
  | [d1, d2, d3] => { results := [.lit (.bool true)], args := [d1, d2, d3] }
  | _ => none }
def octetOddRow : OpenClaim := { program := "ytkoookknffmgjaadoor", sum := "238ce95c2d134e23a370f2549ef572e3edf9c93f8393bdcb08cd692335119a5d", func := "lintel/lintellaw01.OctetOdd", spec := "octetOdd", unfollowed := true, recurses := true, named := ["lintel/octet.sizes"], apart := false, laid := [("lintel/octet.sizes", laid_lintel_octet_sizes)] }
def OctetOddSaid : Prop := octetOddRow.holds Tryd.pinned (OpenSpec.ofChange octetOddSpec)

/-- ITS FALSE NEIGHBOUR: 'it returns false'. Refute it at one input. -/
def octetOddWrong : ChangeSpec := { name := "octetOdd", fn := fun _ => fun
  | [d1, d2, d3] => { results := [.lit (.bool false)], args := [d1, d2, d3] }
  | _ => none }
def OctetOddWrongFalsely : Prop := octetOddRow.holds Tryd.pinned (OpenSpec.ofChange octetOddWrong)

/- THE SECOND FORM. 'bulk': how many values and letters a reading holds, each counted each time it is reached (what is shared counts as often as it is met; a slice's spare places count too). A statement '..UptoSaid' is the law's where the arguments, and the package variables that the reading takes, are together of bulk at most 1048576: NARROWER than '..Said'. Prove '..Said' where nothing that the law and all that it calls make is longer than what came in: it says more and counts as full. Else prove '..UptoSaid'. A law counts once. -/
mutual
def uptoBulk {H : Type} : DataW H → Nat
  | .lit (.string bytes) => bytes.length + 1
  | .lit _ => 1
  | .nil => 1
  | .ptr d => uptoBulk d + 1
  | .slice elems spare => uptoBulkAll elems + uptoBulkAll spare + 1
  | .agg parts => uptoBulkAll parts + 1
  | .iface _ d => uptoBulk d + 1
  | .map entries => uptoBulkEntries entries + 1
  | .held _ => 1
def uptoBulkAll {H : Type} : List (DataW H) → Nat
  | [] => 0
  | d :: r => uptoBulk d + uptoBulkAll r
def uptoBulkEntries {H : Type} : List (Lit × DataW H) → Nat
  | [] => 0
  | x :: r => uptoBulkEntry x + uptoBulkEntries r
def uptoBulkEntry {H : Type} : Lit × DataW H → Nat
  | (.string bytes, d) => bytes.length + uptoBulk d + 1
  | (_, d) => uptoBulk d + 1
 end
def uptoSmall : (H : Type) → List (DataW H) → Bool := fun _ ds => decide (uptoBulkAll ds ≤ 1048576)
def OpenSpec.upto (s : _root_.Go.ChangeSpec) : _root_.Go.OpenSpec := { _root_.Go.OpenSpec.ofChange s with cond := some uptoSmall }

/-- 'lintellaw01.OctetGets', WHERE WHAT IT READS IS OF BULK AT MOST 1048576: true; the input reads as it did. -/
def octetGetsUptoRow : OpenClaim := { program := "ytkoookknffmgjaadoor", sum := "238ce95c2d134e23a370f2549ef572e3edf9c93f8393bdcb08cd692335119a5d", func := "lintel/lintellaw01.OctetGets", spec := "octetGets", unfollowed := true, recurses := true, named := ["lintel/octet.sizes"], apart := false, laid := [("lintel/octet.sizes", laid_lintel_octet_sizes)], narrowed := true }
def OctetGetsUptoSaid : Prop := octetGetsUptoRow.holds Tryd.pinned (OpenSpec.upto octetGetsSpec)

/-- 'lintellaw01.OctetPuts', WHERE WHAT IT READS IS OF BULK AT MOST 1048576: true; the input reads as it did. -/
def octetPutsUptoRow : OpenClaim := { program := "ytkoookknffmgjaadoor", sum := "238ce95c2d134e23a370f2549ef572e3edf9c93f8393bdcb08cd692335119a5d", func := "lintel/lintellaw01.OctetPuts", spec := "octetPuts", unfollowed := true, recurses := true, named := ["lintel/octet.sizes"], apart := false, laid := [("lintel/octet.sizes", laid_lintel_octet_sizes)], narrowed := true }
def OctetPutsUptoSaid : Prop := octetPutsUptoRow.holds Tryd.pinned (OpenSpec.upto octetPutsSpec)

/-- 'lintellaw01.OctetTexts', WHERE WHAT IT READS IS OF BULK AT MOST 1048576: true; the input reads as it did. -/
def octetTextsUptoRow : OpenClaim := { program := "ytkoookknffmgjaadoor", sum := "238ce95c2d134e23a370f2549ef572e3edf9c93f8393bdcb08cd692335119a5d", func := "lintel/lintellaw01.OctetTexts", spec := "octetTexts", unfollowed := true, recurses := true, named := ["lintel/octet.sizes"], apart := false, laid := [("lintel/octet.sizes", laid_lintel_octet_sizes)], narrowed := true }
def OctetTextsUptoSaid : Prop := octetTextsUptoRow.holds Tryd.pinned (OpenSpec.upto octetTextsSpec)

/-- 'lintellaw01.OctetBack', WHERE WHAT IT READS IS OF BULK AT MOST 1048576: true; the input reads as it did. -/
def octetBackUptoRow : OpenClaim := { program := "ytkoookknffmgjaadoor", sum := "238ce95c2d134e23a370f2549ef572e3edf9c93f8393bdcb08cd692335119a5d", func := "lintel/lintellaw01.OctetBack", spec := "octetBack", unfollowed := true, recurses := true, named := ["lintel/octet.sizes"], apart := false, laid := [("lintel/octet.sizes", laid_lintel_octet_sizes)], narrowed := true }
def OctetBackUptoSaid : Prop := octetBackUptoRow.holds Tryd.pinned (OpenSpec.upto octetBackSpec)

/-- 'lintellaw01.OctetTurns', WHERE WHAT IT READS IS OF BULK AT MOST 1048576: true; the input reads as it did. -/
def octetTurnsUptoRow : OpenClaim := { program := "ytkoookknffmgjaadoor", sum := "238ce95c2d134e23a370f2549ef572e3edf9c93f8393bdcb08cd692335119a5d", func := "lintel/lintellaw01.OctetTurns", spec := "octetTurns", unfollowed := true, recurses := true, named := ["lintel/octet.sizes"], apart := false, laid := [("lintel/octet.sizes", laid_lintel_octet_sizes)], narrowed := true }
def OctetTurnsUptoSaid : Prop := octetTurnsUptoRow.holds Tryd.pinned (OpenSpec.upto octetTurnsSpec)

/-- 'lintellaw01.OctetCuts', WHERE WHAT IT READS IS OF BULK AT MOST 1048576: true; the input reads as it did. -/
def octetCutsUptoRow : OpenClaim := { program := "ytkoookknffmgjaadoor", sum := "238ce95c2d134e23a370f2549ef572e3edf9c93f8393bdcb08cd692335119a5d", func := "lintel/lintellaw01.OctetCuts", spec := "octetCuts", unfollowed := true, recurses := true, named := ["lintel/octet.sizes"], apart := false, laid := [("lintel/octet.sizes", laid_lintel_octet_sizes)], narrowed := true }
def OctetCutsUptoSaid : Prop := octetCutsUptoRow.holds Tryd.pinned (OpenSpec.upto octetCutsSpec)

/-- 'lintellaw01.OctetPieces', WHERE WHAT IT READS IS OF BULK AT MOST 1048576: true; the input reads as it did. -/
def octetPiecesUptoRow : OpenClaim := { program := "ytkoookknffmgjaadoor", sum := "238ce95c2d134e23a370f2549ef572e3edf9c93f8393bdcb08cd692335119a5d", func := "lintel/lintellaw01.OctetPieces", spec := "octetPieces", unfollowed := true, recurses := true, named := ["lintel/octet.sizes"], apart := false, laid := [("lintel/octet.sizes", laid_lintel_octet_sizes)], narrowed := true }
def OctetPiecesUptoSaid : Prop := octetPiecesUptoRow.holds Tryd.pinned (OpenSpec.upto octetPiecesSpec)

/-- 'lintellaw01.OctetJoins', WHERE WHAT IT READS IS OF BULK AT MOST 1048576: true; the input reads as it did. -/
def octetJoinsUptoRow : OpenClaim := { program := "ytkoookknffmgjaadoor", sum := "238ce95c2d134e23a370f2549ef572e3edf9c93f8393bdcb08cd692335119a5d", func := "lintel/lintellaw01.OctetJoins", spec := "octetJoins", unfollowed := true, recurses := true, named := ["lintel/octet.sizes"], apart := false, laid := [("lintel/octet.sizes", laid_lintel_octet_sizes)], narrowed := true }
def OctetJoinsUptoSaid : Prop := octetJoinsUptoRow.holds Tryd.pinned (OpenSpec.upto octetJoinsSpec)

/-- 'lintellaw01.OctetOdd', WHERE WHAT IT READS IS OF BULK AT MOST 1048576: true; the input reads as it did. -/
def octetOddUptoRow : OpenClaim := { program := "ytkoookknffmgjaadoor", sum := "238ce95c2d134e23a370f2549ef572e3edf9c93f8393bdcb08cd692335119a5d", func := "lintel/lintellaw01.OctetOdd", spec := "octetOdd", unfollowed := true, recurses := true, named := ["lintel/octet.sizes"], apart := false, laid := [("lintel/octet.sizes", laid_lintel_octet_sizes)], narrowed := true }
def OctetOddUptoSaid : Prop := octetOddUptoRow.holds Tryd.pinned (OpenSpec.upto octetOddSpec)

end Rows
end Go.Proofs.YtkoookknffmgjaaDoor
