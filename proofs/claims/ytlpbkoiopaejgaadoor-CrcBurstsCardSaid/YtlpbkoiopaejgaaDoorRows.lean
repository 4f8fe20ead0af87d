/-
  NARROWER THAN 'FOR EVERY INPUT', by the rows' own cells (each row's printed sentence says how): CrcSums: laid · CrcParts: laid · CrcTogether: laid · CrcRest: laid · CrcBursts: laid · CrcApart: laid.
  DERIVED. THE GIVEN ROWS OF THIS SEAT. 6 by the template 'for every input the law returns true; each argument reads behind the call as it read before'; 0 by the template 'total and deterministic' (their statements: YtlpbkoiopaejgaaDoorTotals.lean).
  GIVEN WITH THE SEED: the statements are not yours to turn. If you find one false, say at which input.
  Laid BY PROGRAM, IN A SANDBOX (cutbox-rows.mjs): the forced cells as the released guide's own fill.sh prints them over the translation 4753ad009dc44401… (all of the seat's roots in one cut). By AI agents, Wed Nov 11 2026. No macro, syntax, notation, axiom, sorry.
-/
import Derived.Test.YtlpbkoiopaejgaaDoorChecked
import GoSem.Claim
import GoSem.ClaimJoined
import GoSem.ClaimMapViews
import Derived.JoinedTies
import Derived.KernelRfl
namespace Go.Proofs.YtlpbkoiopaejgaaDoor
/- THE CELL 'sum', in the pinned program and in every row, IS THE sha256 OF THE DUMP (.gsa) THAT YtlpbkoiopaejgaaDoorProg.lean LOADS. Nothing in Lean hashes anything: it is a label: what it is worth is what the hold of that sum in a sandbox is worth. -/
noncomputable def Tryd.pinned : Pinned := { name := "ytlpbkoiopaejgaadoor", sum := "4753ad009dc44401cac967121d024b9374b120e7a3e9dd83683e398ac79f84ad", checked := Tryd.checked }
namespace Rows
def none {H : Type} : Left H := { results := [], args := [] }

/- WHAT THE LISTED PACKAGE-LEVEL VARIABLES READ AS WHEN THE CALL BEGINS. Each datum BY PROGRAM (the guide's laid-datum.mjs) off the statement by which the dump's own 'gosem.cut.vars' lays the variable. In a bare row this is a premise. The card (YtlpbkoiopaejgaaDoorCards.lean) ties it to the program's text. -/
def laid_lintel_crc_table {H : Type} : DataW H := .agg [.lit (.int .u32 0), .lit (.int .u32 498536548), .lit (.int .u32 997073096), .lit (.int .u32 651767980), .lit (.int .u32 1994146192), .lit (.int .u32 1802195444), .lit (.int .u32 1303535960), .lit (.int .u32 1342533948), .lit (.int .u32 3988292384), .lit (.int .u32 4027552580), .lit (.int .u32 3604390888), .lit (.int .u32 3412177804), .lit (.int .u32 2607071920), .lit (.int .u32 2262029012), .lit (.int .u32 2685067896), .lit (.int .u32 3183342108)]

/-- 'lintellaw02.CrcSums': WHATEVER THE INPUT: true; the input reads as it did. -/
def crcSumsSpec : ChangeSpec := { name := "crcSums", fn := fun _ => fun
  | [d1, d2] => { results := [.lit (.bool true)], args := [d1, d2] }
  | _ => none }
def crcSumsRow : OpenClaim := { program := "ytlpbkoiopaejgaadoor", sum := "4753ad009dc44401cac967121d024b9374b120e7a3e9dd83683e398ac79f84ad", func := "lintel/lintellaw02.CrcSums", spec := "crcSums", named := ["lintel/crc.table"], apart := false, laid := [("lintel/crc.table", laid_lintel_crc_table)] }
def CrcSumsSaid : Prop := crcSumsRow.holds Tryd.pinned (OpenSpec.ofChange crcSumsSpec)

/-- ITS FALSE NEIGHBOUR: 'it returns false'. Refute it at one input. -/
def crcSumsWrong : ChangeSpec := { name := "crcSums", fn := fun _ => fun
  | [d1, d2] => { results := [.lit (.bool false)], args := [d1, d2] }
  | _ => none }
def CrcSumsWrongFalsely : Prop := crcSumsRow.holds Tryd.pinned (OpenSpec.ofChange crcSumsWrong)

/-- 'lintellaw02.CrcParts': WHATEVER THE INPUT: true; the input reads as it did. -/
def crcPartsSpec : ChangeSpec := { name := "crcParts", fn := fun _ => fun
  | [d1, d2] => { results := [.lit (.bool true)], args := [d1, d2] }
  | _ => none }
def crcPartsRow : OpenClaim := { program := "ytlpbkoiopaejgaadoor", sum := "4753ad009dc44401cac967121d024b9374b120e7a3e9dd83683e398ac79f84ad", func := "lintel/lintellaw02.CrcParts", spec := "crcParts", named := ["lintel/crc.table"], apart := false, laid := [("lintel/crc.table", laid_lintel_crc_table)] }
def CrcPartsSaid : Prop := crcPartsRow.holds Tryd.pinned (OpenSpec.ofChange crcPartsSpec)

/-- ITS FALSE NEIGHBOUR: 'it returns false'. Refute it at one input. -/
def crcPartsWrong : ChangeSpec := { name := "crcParts", fn := fun _ => fun
  | [d1, d2] => { results := [.lit (.bool false)], args := [d1, d2] }
  | _ => none }
def CrcPartsWrongFalsely : Prop := crcPartsRow.holds Tryd.pinned (OpenSpec.ofChange crcPartsWrong)

/-- 'lintellaw02.CrcTogether': WHATEVER THE INPUT: true; the input reads as it did. -/
def crcTogetherSpec : ChangeSpec := { name := "crcTogether", fn := fun _ => fun
  | [d1, d2, d3] => { results := [.lit (.bool true)], args := [d1, d2, d3] }
  | _ => none }
def crcTogetherRow : OpenClaim := { program := "ytlpbkoiopaejgaadoor", sum := "4753ad009dc44401cac967121d024b9374b120e7a3e9dd83683e398ac79f84ad", func := "lintel/lintellaw02.CrcTogether", spec := "crcTogether", named := ["lintel/crc.table"], apart := false, laid := [("lintel/crc.table", laid_lintel_crc_table)] }
def CrcTogetherSaid : Prop := crcTogetherRow.holds Tryd.pinned (OpenSpec.ofChange crcTogetherSpec)

/-- ITS FALSE NEIGHBOUR: 'it returns false'. Refute it at one input. -/
def crcTogetherWrong : ChangeSpec := { name := "crcTogether", fn := fun _ => fun
  | [d1, d2, d3] => { results := [.lit (.bool false)], args := [d1, d2, d3] }
  | _ => none }
def CrcTogetherWrongFalsely : Prop := crcTogetherRow.holds Tryd.pinned (OpenSpec.ofChange crcTogetherWrong)

/-- 'lintellaw02.CrcRest': WHATEVER THE INPUT: true; the input reads as it did. -/
def crcRestSpec : ChangeSpec := { name := "crcRest", fn := fun _ => fun
  | [d] => { results := [.lit (.bool true)], args := [d] }
  | _ => none }
def crcRestRow : OpenClaim := { program := "ytlpbkoiopaejgaadoor", sum := "4753ad009dc44401cac967121d024b9374b120e7a3e9dd83683e398ac79f84ad", func := "lintel/lintellaw02.CrcRest", spec := "crcRest", named := ["lintel/crc.table"], apart := false, laid := [("lintel/crc.table", laid_lintel_crc_table)] }
def CrcRestSaid : Prop := crcRestRow.holds Tryd.pinned (OpenSpec.ofChange crcRestSpec)

/-- ITS FALSE NEIGHBOUR: 'it returns false'. Refute it at one input. -/
def crcRestWrong : ChangeSpec := { name := "crcRest", fn := fun _ => fun
  | [d] => { results := [.lit (.bool false)], args := [d] }
  | _ => none }
def CrcRestWrongFalsely : Prop := crcRestRow.holds Tryd.pinned (OpenSpec.ofChange crcRestWrong)

/-- 'lintellaw02.CrcBursts': WHATEVER THE INPUT: true; the input reads as it did. -/
def crcBurstsSpec : ChangeSpec := { name := "crcBursts", fn := fun _ => fun
  | [d1, d2, d3] => { results := [.lit (.bool true)], args := [d1, d2, d3] }
  | _ => none }
def crcBurstsRow : OpenClaim := { program := "ytlpbkoiopaejgaadoor", sum := "4753ad009dc44401cac967121d024b9374b120e7a3e9dd83683e398ac79f84ad", func := "lintel/lintellaw02.CrcBursts", spec := "crcBursts", named := ["lintel/crc.table"], apart := false, laid := [("lintel/crc.table", laid_lintel_crc_table)] }
def CrcBurstsSaid : Prop := crcBurstsRow.holds Tryd.pinned (OpenSpec.ofChange crcBurstsSpec)

/-- ITS FALSE NEIGHBOUR: 'it returns false'. Refute it at one input. -/
def crcBurstsWrong : ChangeSpec := { name := "crcBursts", fn := fun _ => fun
  | [d1, d2, d3] => { results := [.lit (.bool false)], args := [d1, d2, d3] }
  | _ => none }
def CrcBurstsWrongFalsely : Prop := crcBurstsRow.holds Tryd.pinned (OpenSpec.ofChange crcBurstsWrong)

/-- 'lintellaw02.CrcApart': WHATEVER THE INPUT: true; the input reads as it did. -/
def crcApartSpec : ChangeSpec := { name := "crcApart", fn := fun _ => fun
  | [d1, d2, d3] => { results := [.lit (.bool true)], args := [d1, d2, d3] }
  | _ => none }
def crcApartRow : OpenClaim := { program := "ytlpbkoiopaejgaadoor", sum := "4753ad009dc44401cac967121d024b9374b120e7a3e9dd83683e398ac79f84ad", func := "lintel/lintellaw02.CrcApart", spec := "crcApart", named := ["lintel/crc.table"], apart := false, laid := [("lintel/crc.table", laid_lintel_crc_table)] }
def CrcApartSaid : Prop := crcApartRow.holds Tryd.pinned (OpenSpec.ofChange crcApartSpec)

/-- ITS FALSE NEIGHBOUR: 'it returns false'. Refute it at one input. -/
def crcApartWrong : ChangeSpec := { name := "crcApart", fn := fun _ => fun
  | [d1, d2, d3] => { results := [.lit (.bool false)], args := [d1, d2, d3] }
  | _ => none }
def CrcApartWrongFalsely : Prop := crcApartRow.holds Tryd.pinned (OpenSpec.ofChange crcApartWrong)

/- THE SECOND FORM. 'bulk': how many values and letters a reading holds, each counted each time it is reached (what is shared counts as often as it is met; a slice's spare places count too). A statement '..UptoSaid' is the law's where the arguments, and the package variables that the reading takes, are together of bulk at most 1048576: NARROWER than '..Said'. Prove '..Said' where nothing that the law and all that it calls make is longer than what came in: it says more and counts as full. Else prove '..UptoSaid'. A law counts once. -/
mutual
def uptoBulk {H : Type} : DataW H → Nat
  | .lit (.string bytes) => bytes.length + 1
  | .lit _ => 1
  | .nil => 1
  | .ptr d => uptoBulk d + 1
  | .slice elems spare => uptoBulkAll elems + uptoBulkAll spare + 1
  | .agg parts => uptoBulkAll parts + 1
  | .iface _ d => uptoBulk d + 1
  | .map entries => uptoBulkEntries entries + 1
  | .held _ => 1
def uptoBulkAll {H : Type} : List (DataW H) → Nat
  | [] => 0
  | d :: r => uptoBulk d + uptoBulkAll r
def uptoBulkEntries {H : Type} : List (Lit × DataW H) → Nat
  | [] => 0
  | x :: r => uptoBulkEntry x + uptoBulkEntries r
def uptoBulkEntry {H : Type} : Lit × DataW H → Nat
  | (.string bytes, d) => bytes.length + uptoBulk d + 1
  | (_, d) => uptoBulk d + 1
 end
def uptoSmall : (H : Type) → List (DataW H) → Bool := fun _ ds => decide (uptoBulkAll ds ≤ 1048576)
def OpenSpec.upto (s : _root_.Go.ChangeSpec) : _root_.Go.OpenSpec := { _root_.Go.OpenSpec.ofChange s with cond := some uptoSmall }

/-- 'lintellaw02.CrcSums', WHERE WHAT IT READS IS OF BULK AT MOST 1048576: true; the input reads as it did. -/
def crcSumsUptoRow : OpenClaim := { program := "ytlpbkoiopaejgaadoor", sum := "4753ad009dc44401cac967121d024b9374b120e7a3e9dd83683e398ac79f84ad", func := "lintel/lintellaw02.CrcSums", spec := "crcSums", named := ["lintel/crc.table"], apart := false, laid := [("lintel/crc.table", laid_lintel_crc_table)], narrowed := true }
def CrcSumsUptoSaid : Prop := crcSumsUptoRow.holds Tryd.pinned (OpenSpec.upto crcSumsSpec)

/-- 'lintellaw02.CrcParts', WHERE WHAT IT READS IS OF BULK AT MOST 1048576: true; the input reads as it did. -/
def crcPartsUptoRow : OpenClaim := { program := "ytlpbkoiopaejgaadoor", sum := "4753ad009dc44401cac967121d024b9374b120e7a3e9dd83683e398ac79f84ad", func := "lintel/lintellaw02.CrcParts", spec := "crcParts", named := ["lintel/crc.table"], apart := false, laid := [("lintel/crc.table", laid_lintel_crc_table)], narrowed := true }
def CrcPartsUptoSaid : Prop := crcPartsUptoRow.holds Tryd.pinned (OpenSpec.upto crcPartsSpec)

/-- 'lintellaw02.CrcTogether', WHERE WHAT IT READS IS OF BULK AT MOST 1048576: true; the input reads as it did. -/
def crcTogetherUptoRow : OpenClaim := { program := "ytlpbkoiopaejgaadoor", sum := "4753ad009dc44401cac967121d024b9374b120e7a3e9dd83683e398ac79f84ad", func := "lintel/lintellaw02.CrcTogether", spec := "crcTogether", named := ["lintel/crc.table"], apart := false, laid := [("lintel/crc.table", laid_lintel_crc_table)], narrowed := true }
def CrcTogetherUptoSaid : Prop := crcTogetherUptoRow.holds Tryd.pinned (OpenSpec.upto crcTogetherSpec)

/-- 'lintellaw02.CrcRest', WHERE WHAT IT READS IS OF BULK AT MOST 1048576: true; the input reads as it did. -/
def crcRestUptoRow : OpenClaim := { program := "ytlpbkoiopaejgaadoor", sum := "4753ad009dc44401cac967121d024b9374b120e7a3e9dd83683e398ac79f84ad", func := "lintel/lintellaw02.CrcRest", spec := "crcRest", named := ["lintel/crc.table"], apart := false, laid := [("lintel/crc.table", laid_lintel_crc_table)], narrowed := true }
def CrcRestUptoSaid : Prop := crcRestUptoRow.holds Tryd.pinned (OpenSpec.upto crcRestSpec)

/-- 'lintellaw02.CrcBursts', WHERE WHAT IT READS IS OF BULK AT MOST 1048576: true; the input reads as it did. -/
def crcBurstsUptoRow : OpenClaim := { program := "ytlpbkoiopaejgaadoor", sum := "4753ad009dc44401cac967121d024b9374b120e7a3e9dd83683e398ac79f84ad", func := "lintel/lintellaw02.CrcBursts", spec := "crcBursts", named := ["lintel/crc.table"], apart := false, laid := [("lintel/crc.table", laid_lintel_crc_table)], narrowed := true }
def CrcBurstsUptoSaid : Prop := crcBurstsUptoRow.holds Tryd.pinned (OpenSpec.upto crcBurstsSpec)

/-- 'lintellaw02.CrcApart', WHERE WHAT IT READS IS OF BULK AT MOST 1048576: true; the input reads as it did. -/
def crcApartUptoRow : OpenClaim := { program := "ytlpbkoiopaejgaadoor", sum := "4753ad009dc44401cac967121d024b9374b120e7a3e9dd83683e398ac79f84ad", func := "lintel/lintellaw02.CrcApart", spec := "crcApart", named := ["lintel/crc.table"], apart := false, laid := [("lintel/crc.table", laid_lintel_crc_table)], narrowed := true }
def CrcApartUptoSaid : Prop := crcApartUptoRow.holds Tryd.pinned (OpenSpec.upto crcApartSpec)

end Rows
end Go.Proofs.YtlpbkoiopaejgaaDoor
