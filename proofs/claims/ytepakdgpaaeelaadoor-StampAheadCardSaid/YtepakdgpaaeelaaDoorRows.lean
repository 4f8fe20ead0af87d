/-
  NARROWER THAN 'FOR EVERY INPUT', by the rows' own cells (each row's printed sentence says how): StampTells: laid · StampReads: laid · StampBack: laid · StampOrder: laid · StampYears: laid · StampHours: laid · StampTexts: laid · StampCuts: laid · StampAhead: laid · StampRest: laid.
  DERIVED. THE GIVEN ROWS OF THIS SEAT. 10 by the template 'for every input the law returns true; each argument reads behind the call as it read before'; 0 by the template 'total and deterministic' (their statements: YtepakdgpaaeelaaDoorTotals.lean).
  GIVEN WITH THE SEED: the statements are not yours to turn. If you find one false, say at which input.
  Laid BY PROGRAM, IN A SANDBOX (cutbox-rows.mjs): the forced cells as the released guide's own fill.sh prints them over the translation 582d9a6bef249896… (all of the seat's roots in one cut). By AI agents, Wed Nov 11 2026. No macro, syntax, notation, axiom, sorry.
-/
import Derived.Test.YtepakdgpaaeelaaDoorChecked
import GoSem.Claim
import GoSem.ClaimJoined
import GoSem.ClaimMapViews
import Derived.JoinedTies
import Derived.KernelRfl
namespace Go.Proofs.YtepakdgpaaeelaaDoor
/- THE CELL 'sum', in the pinned program and in every row, IS THE sha256 OF THE DUMP (.gsa) THAT YtepakdgpaaeelaaDoorProg.lean LOADS. Nothing in Lean hashes anything: it is a label: what it is worth is what the hold of that sum in a sandbox is worth. -/
noncomputable def Tryd.pinned : Pinned := { name := "ytepakdgpaaeelaadoor", sum := "582d9a6bef249896710e70bc95cc20cb648216aad2121107d7d6db3b05d94dd7", checked := Tryd.checked }
namespace Rows
def none {H : Type} : Left H := { results := [], args := [] }

/- WHAT THE LISTED PACKAGE-LEVEL VARIABLES READ AS WHEN THE CALL BEGINS. Each datum BY PROGRAM (the guide's laid-datum.mjs) off the statement by which the dump's own 'gosem.cut.vars' lays the variable. In a bare row this is a premise. The card (YtepakdgpaaeelaaDoorCards.lean) ties it to the program's text. -/
def laid_lintel_octet_sizes {H : Type} : DataW H := .agg [.lit (.int .i64 1), .lit (.int .i64 2), .lit (.int .i64 4), .lit (.int .i64 8)]

/-- 'lintellaw11.StampTells': WHATEVER THE INPUT: true; the input reads as it did. -/
def stampTellsSpec : ChangeSpec := { name := "stampTells", fn := fun _ => fun
  | [d1, d2, d3] => { results := [.lit (.bool true)], args := [d1, d2, d3] }
  | _ => none }
def stampTellsRow : OpenClaim := { program := "ytepakdgpaaeelaadoor", sum := "582d9a6bef249896710e70bc95cc20cb648216aad2121107d7d6db3b05d94dd7", func := "lintel/lintellaw11.StampTells", spec := "stampTells", unfollowed := true, recurses := true, named := ["lintel/octet.sizes"], apart := false, laid := [("lintel/octet.sizes", laid_lintel_octet_sizes)] }
def StampTellsSaid : Prop := stampTellsRow.holds Tryd.pinned (OpenSpec.ofChange stampTellsSpec)

/-- ITS FALSE NEIGHBOUR: 'it returns false'. Refute it at one input. -/
def stampTellsWrong : ChangeSpec := { name := "stampTells", fn := fun _ => fun
  | [d1, d2, d3] => { results := [.lit (.bool false)], args := [d1, d2, d3] }
  | _ => none }
def StampTellsWrongFalsely : Prop := stampTellsRow.holds Tryd.pinned (OpenSpec.ofChange stampTellsWrong)

/-- 'lintellaw11.StampReads': WHATEVER THE INPUT: true; the input reads as it did. -/
def stampReadsSpec : ChangeSpec := { name := "stampReads", fn := fun _ => fun
  | [d1, d2] => { results := [.lit (.bool true)], args := [d1, d2] }
  | _ => none }
def stampReadsRow : OpenClaim := { program := "ytepakdgpaaeelaadoor", sum := "582d9a6bef249896710e70bc95cc20cb648216aad2121107d7d6db3b05d94dd7", func := "lintel/lintellaw11.StampReads", spec := "stampReads", unfollowed := true, recurses := true, named := ["lintel/octet.sizes"], apart := false, laid := [("lintel/octet.sizes", laid_lintel_octet_sizes)] }
def StampReadsSaid : Prop := stampReadsRow.holds Tryd.pinned (OpenSpec.ofChange stampReadsSpec)

/-- ITS FALSE NEIGHBOUR: 'it returns false'. Refute it at one input. -/
def stampReadsWrong : ChangeSpec := { name := "stampReads", fn := fun _ => fun
  | [d1, d2] => { results := [.lit (.bool false)], args := [d1, d2] }
  | _ => none }
def StampReadsWrongFalsely : Prop := stampReadsRow.holds Tryd.pinned (OpenSpec.ofChange stampReadsWrong)

/-- 'lintellaw11.StampBack': WHATEVER THE INPUT: true; the input reads as it did. -/
def stampBackSpec : ChangeSpec := { name := "stampBack", fn := fun _ => fun
  | [d1, d2] => { results := [.lit (.bool true)], args := [d1, d2] }
  | _ => none }
def stampBackRow : OpenClaim := { program := "ytepakdgpaaeelaadoor", sum := "582d9a6bef249896710e70bc95cc20cb648216aad2121107d7d6db3b05d94dd7", func := "lintel/lintellaw11.StampBack", spec := "stampBack", unfollowed := true, recurses := true, named := ["lintel/octet.sizes"], apart := false, laid := [("lintel/octet.sizes", laid_lintel_octet_sizes)] }
def StampBackSaid : Prop := stampBackRow.holds Tryd.pinned (OpenSpec.ofChange stampBackSpec)

/-- ITS FALSE NEIGHBOUR: 'it returns false'. Refute it at one input. -/
def stampBackWrong : ChangeSpec := { name := "stampBack", fn := fun _ => fun
  | [d1, d2] => { results := [.lit (.bool false)], args := [d1, d2] }
  | _ => none }
def StampBackWrongFalsely : Prop := stampBackRow.holds Tryd.pinned (OpenSpec.ofChange stampBackWrong)

/-- 'lintellaw11.StampOrder': WHATEVER THE INPUT: true; the input reads as it did. -/
def stampOrderSpec : ChangeSpec := { name := "stampOrder", fn := fun _ => fun
  | [d1, d2, d3] => { results := [.lit (.bool true)], args := [d1, d2, d3] }
  | _ => none }
def stampOrderRow : OpenClaim := { program := "ytepakdgpaaeelaadoor", sum := "582d9a6bef249896710e70bc95cc20cb648216aad2121107d7d6db3b05d94dd7", func := "lintel/lintellaw11.StampOrder", spec := "stampOrder", unfollowed := true, recurses := true, named := ["lintel/octet.sizes"], apart := false, laid := [("lintel/octet.sizes", laid_lintel_octet_sizes)] }
def StampOrderSaid : Prop := stampOrderRow.holds Tryd.pinned (OpenSpec.ofChange stampOrderSpec)

/-- ITS FALSE NEIGHBOUR: 'it returns false'. Refute it at one input. -/
def stampOrderWrong : ChangeSpec := { name := "stampOrder", fn := fun _ => fun
  | [d1, d2, d3] => { results := [.lit (.bool false)], args := [d1, d2, d3] }
  | _ => none }
def StampOrderWrongFalsely : Prop := stampOrderRow.holds Tryd.pinned (OpenSpec.ofChange stampOrderWrong)

/-- 'lintellaw11.StampYears': WHATEVER THE INPUT: true; the input reads as it did. -/
def stampYearsSpec : ChangeSpec := { name := "stampYears", fn := fun _ => fun
  | [d] => { results := [.lit (.bool true)], args := [d] }
  | _ => none }
def stampYearsRow : OpenClaim := { program := "ytepakdgpaaeelaadoor", sum := "582d9a6bef249896710e70bc95cc20cb648216aad2121107d7d6db3b05d94dd7", func := "lintel/lintellaw11.StampYears", spec := "stampYears", unfollowed := true, recurses := true, named := ["lintel/octet.sizes"], apart := false, laid := [("lintel/octet.sizes", laid_lintel_octet_sizes)] }
def StampYearsSaid : Prop := stampYearsRow.holds Tryd.pinned (OpenSpec.ofChange stampYearsSpec)

/-- ITS FALSE NEIGHBOUR: 'it returns false'. Refute it at one input. -/
def stampYearsWrong : ChangeSpec := { name := "stampYears", fn := fun _ => fun
  | [d] => { results := [.lit (.bool false)], args := [d] }
  | _ => none }
def StampYearsWrongFalsely : Prop := stampYearsRow.holds Tryd.pinned (OpenSpec.ofChange stampYearsWrong)

/-- 'lintellaw11.StampHours': WHATEVER THE INPUT: true; the input reads as it did. -/
def stampHoursSpec : ChangeSpec := { name := "stampHours", fn := fun _ => fun
  | [d] => { results := [.lit (.bool true)], args := [d] }
  | _ => none }
def stampHoursRow : OpenClaim := { program := "ytepakdgpaaeelaadoor", sum := "582d9a6bef249896710e70bc95cc20cb648216aad2121107d7d6db3b05d94dd7", func := "lintel/lintellaw11.StampHours", spec := "stampHours", unfollowed := true, recurses := true, named := ["lintel/octet.sizes"], apart := false, laid := [("lintel/octet.sizes", laid_lintel_octet_sizes)] }
def StampHoursSaid : Prop := stampHoursRow.holds Tryd.pinned (OpenSpec.ofChange stampHoursSpec)

/-- ITS FALSE NEIGHBOUR: 'it returns false'. Refute it at one input. -/
def stampHoursWrong : ChangeSpec := { name := "stampHours", fn := fun _ => fun
  | [d] => { results := [.lit (.bool false)], args := [d] }
  | _ => none }
def StampHoursWrongFalsely : Prop := stampHoursRow.holds Tryd.pinned (OpenSpec.ofChange stampHoursWrong)

/-- 'lintellaw11.StampTexts': WHATEVER THE INPUT: true; the input reads as it did. -/
def stampTextsSpec : ChangeSpec := { name := "stampTexts", fn := fun _ => fun
  | [d] => { results := [.lit (.bool true)], args := [d] }
  | _ => none }
def stampTextsRow : OpenClaim := { program := "ytepakdgpaaeelaadoor", sum := "582d9a6bef249896710e70bc95cc20cb648216aad2121107d7d6db3b05d94dd7", func := "lintel/lintellaw11.StampTexts", spec := "stampTexts", unfollowed := true, recurses := true, named := ["lintel/octet.sizes"], apart := false, laid := [("lintel/octet.sizes", laid_lintel_octet_sizes)] }
def StampTextsSaid : Prop := stampTextsRow.holds Tryd.pinned (OpenSpec.ofChange stampTextsSpec)

/-- ITS FALSE NEIGHBOUR: 'it returns false'. Refute it at one input. -/
def stampTextsWrong : ChangeSpec := { name := "stampTexts", fn := fun _ => fun
  | [d] => { results := [.lit (.bool false)], args := [d] }
  | _ => none }
def StampTextsWrongFalsely : Prop := stampTextsRow.holds Tryd.pinned (OpenSpec.ofChange stampTextsWrong)

/-- 'lintellaw11.StampCuts': WHATEVER THE INPUT: true; the input reads as it did. -/
def stampCutsSpec : ChangeSpec := { name := "stampCuts", fn := fun _ => fun
  | [d1, d2, d3] => { results := [.lit (.bool true)], args := [d1, d2, d3] }
  | _ => none }
def stampCutsRow : OpenClaim := { program := "ytepakdgpaaeelaadoor", sum := "582d9a6bef249896710e70bc95cc20cb648216aad2121107d7d6db3b05d94dd7", func := "lintel/lintellaw11.StampCuts", spec := "stampCuts", unfollowed := true, recurses := true, named := ["lintel/octet.sizes"], apart := false, laid := [("lintel/octet.sizes", laid_lintel_octet_sizes)] }
def StampCutsSaid : Prop := stampCutsRow.holds Tryd.pinned (OpenSpec.ofChange stampCutsSpec)

/-- ITS FALSE NEIGHBOUR: 'it returns false'. Refute it at one input. -/
def stampCutsWrong : ChangeSpec := { name := "stampCuts", fn := fun _ => fun
  | [d1, d2, d3] => { results := [.lit (.bool false)], args := [d1, d2, d3] }
  | _ => none }
def StampCutsWrongFalsely : Prop := stampCutsRow.holds Tryd.pinned (OpenSpec.ofChange stampCutsWrong)

/-- 'lintellaw11.StampAhead': WHATEVER THE INPUT: true; the input reads as it did. -/
def stampAheadSpec : ChangeSpec := { name := "stampAhead", fn := fun _ => fun
  | [d1, d2] => { results := [.lit (.bool true)], args := [d1, d2] }
  | _ => none }
def stampAheadRow : OpenClaim := { program := "ytepakdgpaaeelaadoor", sum := "582d9a6bef249896710e70bc95cc20cb648216aad2121107d7d6db3b05d94dd7", func := "lintel/lintellaw11.StampAhead", spec := "stampAhead", unfollowed := true, recurses := true, named := ["lintel/octet.sizes"], apart := false, laid := [("lintel/octet.sizes", laid_lintel_octet_sizes)] }
def StampAheadSaid : Prop := stampAheadRow.holds Tryd.pinned (OpenSpec.ofChange stampAheadSpec)

/-- ITS FALSE NEIGHBOUR: 'it returns false'. Refute it at one input. -/
def stampAheadWrong : ChangeSpec := { name := "stampAhead", fn := fun _ => fun
  | [d1, d2] => { results := [.lit (.bool false)], args := [d1, d2] }
  | _ => none }
def StampAheadWrongFalsely : Prop := stampAheadRow.holds Tryd.pinned (OpenSpec.ofChange stampAheadWrong)

/-- 'lintellaw11.StampRest': WHATEVER THE INPUT: true; the input reads as it did. -/
def stampRestSpec : ChangeSpec := { name := "stampRest", fn := fun _ => fun
  | [d1, d2, d3] => { results := [.lit (.bool true)], args := [d1, d2, d3] }
  | _ => none }
def stampRestRow : OpenClaim := { program := "ytepakdgpaaeelaadoor", sum := "582d9a6bef249896710e70bc95cc20cb648216aad2121107d7d6db3b05d94dd7", func := "lintel/lintellaw11.StampRest", spec := "stampRest", unfollowed := true, recurses := true, named := ["lintel/octet.sizes"], apart := false, laid := [("lintel/octet.sizes", laid_lintel_octet_sizes)] }
def StampRestSaid : Prop := stampRestRow.holds Tryd.pinned (OpenSpec.ofChange stampRestSpec)

/-- ITS FALSE NEIGHBOUR: 'it returns false'. Refute it at one input. -/
def stampRestWrong : ChangeSpec := { name := "stampRest", fn := fun _ => fun
  | [d1, d2, d3] => { results := [.lit (.bool false)], args := [d1, d2, d3] }
  | _ => none }
def StampRestWrongFalsely : Prop := stampRestRow.holds Tryd.pinned (OpenSpec.ofChange stampRestWrong)

/- THE SECOND FORM. 'bulk': how many values and letters a reading holds, each counted each time it is reached (what is shared counts as often as it is met; a slice's spare places count too). A statement '..UptoSaid' is the law's where the arguments, and the package variables that the reading takes, are together of bulk at most 1048576: NARROWER than '..Said'. Prove '..Said' where nothing that the law and all that it calls make is longer than what came in: it says more and counts as full. Else prove '..UptoSaid'. A law counts once. -/
mutual
def uptoBulk {H : Type} : DataW H → Nat
  | .lit (.string bytes) => bytes.length + 1
  | .lit _ => 1
  | .nil => 1
  | .ptr d => uptoBulk d + 1
  | .slice elems spare => uptoBulkAll elems + uptoBulkAll spare + 1
  | .agg parts => uptoBulkAll parts + 1
  | .iface _ d => uptoBulk d + 1
  | .map entries => uptoBulkEntries entries + 1
  | .held _ => 1
def uptoBulkAll {H : Type} : List (DataW H) → Nat
  | [] => 0
  | d :: r => uptoBulk d + uptoBulkAll r
def uptoBulkEntries {H : Type} : List (Lit × DataW H) → Nat
  | [] => 0
  | x :: r => uptoBulkEntry x + uptoBulkEntries r
def uptoBulkEntry {H : Type} : Lit × DataW H → Nat
  | (.string bytes, d) => bytes.length + uptoBulk d + 1
  | (_, d) => uptoBulk d + 1
 end
def uptoSmall : (H : Type) → List (DataW H) → Bool := fun _ ds => decide (uptoBulkAll ds ≤ 1048576)
def OpenSpec.upto (s : _root_.Go.ChangeSpec) : _root_.Go.OpenSpec := { _root_.Go.OpenSpec.ofChange s with cond := some uptoSmall }

/-- 'lintellaw11.StampTells', WHERE WHAT IT READS IS OF BULK AT MOST 1048576: true; the input reads as it did. -/
def stampTellsUptoRow : OpenClaim := { program := "ytepakdgpaaeelaadoor", sum := "582d9a6bef249896710e70bc95cc20cb648216aad2121107d7d6db3b05d94dd7", func := "lintel/lintellaw11.StampTells", spec := "stampTells", unfollowed := true, recurses := true, named := ["lintel/octet.sizes"], apart := false, laid := [("lintel/octet.sizes", laid_lintel_octet_sizes)], narrowed := true }
def StampTellsUptoSaid : Prop := stampTellsUptoRow.holds Tryd.pinned (OpenSpec.upto stampTellsSpec)

/-- 'lintellaw11.StampReads', WHERE WHAT IT READS IS OF BULK AT MOST 1048576: true; the input reads as it did. -/
def stampReadsUptoRow : OpenClaim := { program := "ytepakdgpaaeelaadoor", sum := "582d9a6bef249896710e70bc95cc20cb648216aad2121107d7d6db3b05d94dd7", func := "lintel/lintellaw11.StampReads", spec := "stampReads", unfollowed := true, recurses := true, named := ["lintel/octet.sizes"], apart := false, laid := [("lintel/octet.sizes", laid_lintel_octet_sizes)], narrowed := true }
def StampReadsUptoSaid : Prop := stampReadsUptoRow.holds Tryd.pinned (OpenSpec.upto stampReadsSpec)

/-- 'lintellaw11.StampBack', WHERE WHAT IT READS IS OF BULK AT MOST 1048576: true; the input reads as it did. -/
def stampBackUptoRow : OpenClaim := { program := "ytepakdgpaaeelaadoor", sum := "582d9a6bef249896710e70bc95cc20cb648216aad2121107d7d6db3b05d94dd7", func := "lintel/lintellaw11.StampBack", spec := "stampBack", unfollowed := true, recurses := true, named := ["lintel/octet.sizes"], apart := false, laid := [("lintel/octet.sizes", laid_lintel_octet_sizes)], narrowed := true }
def StampBackUptoSaid : Prop := stampBackUptoRow.holds Tryd.pinned (OpenSpec.upto stampBackSpec)

/-- 'lintellaw11.StampOrder', WHERE WHAT IT READS IS OF BULK AT MOST 1048576: true; the input reads as it did. -/
def stampOrderUptoRow : OpenClaim := { program := "ytepakdgpaaeelaadoor", sum := "582d9a6bef249896710e70bc95cc20cb648216aad2121107d7d6db3b05d94dd7", func := "lintel/lintellaw11.StampOrder", spec := "stampOrder", unfollowed := true, recurses := true, named := ["lintel/octet.sizes"], apart := false, laid := [("lintel/octet.sizes", laid_lintel_octet_sizes)], narrowed := true }
def StampOrderUptoSaid : Prop := stampOrderUptoRow.holds Tryd.pinned (OpenSpec.upto stampOrderSpec)

/-- 'lintellaw11.StampYears', WHERE WHAT IT READS IS OF BULK AT MOST 1048576: true; the input reads as it did. -/
def stampYearsUptoRow : OpenClaim := { program := "ytepakdgpaaeelaadoor", sum := "582d9a6bef249896710e70bc95cc20cb648216aad2121107d7d6db3b05d94dd7", func := "lintel/lintellaw11.StampYears", spec := "stampYears", unfollowed := true, recurses := true, named := ["lintel/octet.sizes"], apart := false, laid := [("lintel/octet.sizes", laid_lintel_octet_sizes)], narrowed := true }
def StampYearsUptoSaid : Prop := stampYearsUptoRow.holds Tryd.pinned (OpenSpec.upto stampYearsSpec)

/-- 'lintellaw11.StampHours', WHERE WHAT IT READS IS OF BULK AT MOST 1048576: true; the input reads as it did. -/
def stampHoursUptoRow : OpenClaim := { program := "ytepakdgpaaeelaadoor", sum := "582d9a6bef249896710e70bc95cc20cb648216aad2121107d7d6db3b05d94dd7", func := "lintel/lintellaw11.StampHours", spec := "stampHours", unfollowed := true, recurses := true, named := ["lintel/octet.sizes"], apart := false, laid := [("lintel/octet.sizes", laid_lintel_octet_sizes)], narrowed := true }
def StampHoursUptoSaid : Prop := stampHoursUptoRow.holds Tryd.pinned (OpenSpec.upto stampHoursSpec)

/-- 'lintellaw11.StampTexts', WHERE WHAT IT READS IS OF BULK AT MOST 1048576: true; the input reads as it did. -/
def stampTextsUptoRow : OpenClaim := { program := "ytepakdgpaaeelaadoor", sum := "582d9a6bef249896710e70bc95cc20cb648216aad2121107d7d6db3b05d94dd7", func := "lintel/lintellaw11.StampTexts", spec := "stampTexts", unfollowed := true, recurses := true, named := ["lintel/octet.sizes"], apart := false, laid := [("lintel/octet.sizes", laid_lintel_octet_sizes)], narrowed := true }
def StampTextsUptoSaid : Prop := stampTextsUptoRow.holds Tryd.pinned (OpenSpec.upto stampTextsSpec)

/-- 'lintellaw11.StampCuts', WHERE WHAT IT READS IS OF BULK AT MOST 1048576: true; the input reads as it did. -/
def stampCutsUptoRow : OpenClaim := { program := "ytepakdgpaaeelaadoor", sum := "582d9a6bef249896710e70bc95cc20cb648216aad2121107d7d6db3b05d94dd7", func := "lintel/lintellaw11.StampCuts", spec := "stampCuts", unfollowed := true, recurses := true, named := ["lintel/octet.sizes"], apart := false, laid := [("lintel/octet.sizes", laid_lintel_octet_sizes)], narrowed := true }
def StampCutsUptoSaid : Prop := stampCutsUptoRow.holds Tryd.pinned (OpenSpec.upto stampCutsSpec)

/-- 'lintellaw11.StampAhead', WHERE WHAT IT READS IS OF BULK AT MOST 1048576: true; the input reads as it did. -/
def stampAheadUptoRow : OpenClaim := { program := "ytepakdgpaaeelaadoor", sum := "582d9a6bef249896710e70bc95cc20cb648216aad2121107d7d6db3b05d94dd7", func := "lintel/lintellaw11.StampAhead", spec := "stampAhead", unfollowed := true, recurses := true, named := ["lintel/octet.sizes"], apart := false, laid := [("lintel/octet.sizes", laid_lintel_octet_sizes)], narrowed := true }
def StampAheadUptoSaid : Prop := stampAheadUptoRow.holds Tryd.pinned (OpenSpec.upto stampAheadSpec)

/-- 'lintellaw11.StampRest', WHERE WHAT IT READS IS OF BULK AT MOST 1048576: true; the input reads as it did. -/
def stampRestUptoRow : OpenClaim := { program := "ytepakdgpaaeelaadoor", sum := "582d9a6bef249896710e70bc95cc20cb648216aad2121107d7d6db3b05d94dd7", func := "lintel/lintellaw11.StampRest", spec := "stampRest", unfollowed := true, recurses := true, named := ["lintel/octet.sizes"], apart := false, laid := [("lintel/octet.sizes", laid_lintel_octet_sizes)], narrowed := true }
def StampRestUptoSaid : Prop := stampRestUptoRow.holds Tryd.pinned (OpenSpec.upto stampRestSpec)

end Rows
end Go.Proofs.YtepakdgpaaeelaaDoor
