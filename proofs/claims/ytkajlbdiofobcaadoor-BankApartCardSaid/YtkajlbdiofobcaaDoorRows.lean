/-
  NARROWER THAN 'FOR EVERY INPUT', by the rows' own cells (each row's printed sentence says how): BankNil: laid · BankFalls: laid · BankKills: laid · BankHolds: laid · BankHeads: laid · BankApart: laid.
  DERIVED. THE GIVEN ROWS OF THIS SEAT. 6 by the template 'for every input the law returns true; each argument reads behind the call as it read before'; 0 by the template 'total and deterministic' (their statements: YtkajlbdiofobcaaDoorTotals.lean).
  GIVEN WITH THE SEED: the statements are not yours to turn. If you find one false, say at which input.
  Laid BY PROGRAM, IN A SANDBOX (cutbox-rows.mjs): the forced cells as the released guide's own fill.sh prints them over the translation be3e19389f84f070… (all of the seat's roots in one cut). By AI agents, Wed Nov 11 2026. No macro, syntax, notation, axiom, sorry.
-/
import Derived.Test.YtkajlbdiofobcaaDoorChecked
import GoSem.Claim
import GoSem.ClaimJoined
import GoSem.ClaimMapViews
import Derived.JoinedTies
import Derived.KernelRfl
namespace Go.Proofs.YtkajlbdiofobcaaDoor
/- THE CELL 'sum', in the pinned program and in every row, IS THE sha256 OF THE DUMP (.gsa) THAT YtkajlbdiofobcaaDoorProg.lean LOADS. Nothing in Lean hashes anything: it is a label: what it is worth is what the hold of that sum in a sandbox is worth. -/
noncomputable def Tryd.pinned : Pinned := { name := "ytkajlbdiofobcaadoor", sum := "be3e19389f84f0704efbb8135bb0eda49dcad8901625cf9a25a4192e39c7629c", checked := Tryd.checked }
namespace Rows
def none {H : Type} : Left H := { results := [], args := [] }

/- WHAT THE LISTED PACKAGE-LEVEL VARIABLES READ AS WHEN THE CALL BEGINS. Each datum BY PROGRAM (the guide's laid-datum.mjs) off the statement by which the dump's own 'gosem.cut.vars' lays the variable. In a bare row this is a premise. The card (YtkajlbdiofobcaaDoorCards.lean) ties it to the program's text. -/
def laid_lintel_crc_table {H : Type} : DataW H := .agg [.lit (.int .u32 0), .lit (.int .u32 498536548), .lit (.int .u32 997073096), .lit (.int .u32 651767980), .lit (.int .u32 1994146192), .lit (.int .u32 1802195444), .lit (.int .u32 1303535960), .lit (.int .u32 1342533948), .lit (.int .u32 3988292384), .lit (.int .u32 4027552580), .lit (.int .u32 3604390888), .lit (.int .u32 3412177804), .lit (.int .u32 2607071920), .lit (.int .u32 2262029012), .lit (.int .u32 2685067896), .lit (.int .u32 3183342108)]
def laid_lintel_octet_sizes {H : Type} : DataW H := .agg [.lit (.int .i64 1), .lit (.int .i64 2), .lit (.int .i64 4), .lit (.int .i64 8)]

/-- 'lintellaw08.BankNil': WHATEVER THE INPUT: true; the input reads as it did. -/
def bankNilSpec : ChangeSpec := { name := "bankNil", fn := fun _ => fun
  | [d1, d2, d3] => { results := [.lit (.bool true)], args := [d1, d2, d3] }
  | _ => none }
def bankNilRow : OpenClaim := { program := "ytkajlbdiofobcaadoor", sum := "be3e19389f84f0704efbb8135bb0eda49dcad8901625cf9a25a4192e39c7629c", func := "lintel/lintellaw08.BankNil", spec := "bankNil", unfollowed := true, recurses := true, named := ["lintel/octet.sizes", "lintel/crc.table"], apart := false, laid := [("lintel/crc.table", laid_lintel_crc_table), ("lintel/octet.sizes", laid_lintel_octet_sizes)] }
def BankNilSaid : Prop := bankNilRow.holds Tryd.pinned (OpenSpec.ofChange bankNilSpec)

/-- ITS FALSE NEIGHBOUR: 'it returns false'. Refute it at one input. -/
def bankNilWrong : ChangeSpec := { name := "bankNil", fn := fun _ => fun
  | [d1, d2, d3] => { results := [.lit (.bool false)], args := [d1, d2, d3] }
  | _ => none }
def BankNilWrongFalsely : Prop := bankNilRow.holds Tryd.pinned (OpenSpec.ofChange bankNilWrong)

/-- 'lintellaw08.BankFalls': WHATEVER THE INPUT: true; the input reads as it did. -/
def bankFallsSpec : ChangeSpec := { name := "bankFalls", fn := fun _ => fun
  | [d1, d2, d3, d4] => { results := [.lit (.bool true)], args := [d1, d2, d3, d4] }
  | _ => none }
def bankFallsRow : OpenClaim := { program := "ytkajlbdiofobcaadoor", sum := "be3e19389f84f0704efbb8135bb0eda49dcad8901625cf9a25a4192e39c7629c", func := "lintel/lintellaw08.BankFalls", spec := "bankFalls", unfollowed := true, recurses := true, named := ["lintel/octet.sizes", "lintel/crc.table"], apart := false, laid := [("lintel/crc.table", laid_lintel_crc_table), ("lintel/octet.sizes", laid_lintel_octet_sizes)] }
def BankFallsSaid : Prop := bankFallsRow.holds Tryd.pinned (OpenSpec.ofChange bankFallsSpec)

/-- ITS FALSE NEIGHBOUR: 'it returns false'. Refute it at one input. -/
def bankFallsWrong : ChangeSpec := { name := "bankFalls", fn := fun _ => fun
  | [d1, d2, d3, d4] => { results := [.lit (.bool false)], args := [d1, d2, d3, d4] }
  | _ => none }
def BankFallsWrongFalsely : Prop := bankFallsRow.holds Tryd.pinned (OpenSpec.ofChange bankFallsWrong)

/-- 'lintellaw08.BankKills': WHATEVER THE INPUT: true; the input reads as it did. -/
def bankKillsSpec : ChangeSpec := { name := "bankKills", fn := fun _ => fun
  | [d1, d2, d3] => { results := [.lit (.bool true)], args := [d1, d2, d3] }
  | _ => none }
def bankKillsRow : OpenClaim := { program := "ytkajlbdiofobcaadoor", sum := "be3e19389f84f0704efbb8135bb0eda49dcad8901625cf9a25a4192e39c7629c", func := "lintel/lintellaw08.BankKills", spec := "bankKills", unfollowed := true, recurses := true, named := ["lintel/octet.sizes", "lintel/crc.table"], apart := false, laid := [("lintel/crc.table", laid_lintel_crc_table), ("lintel/octet.sizes", laid_lintel_octet_sizes)] }
def BankKillsSaid : Prop := bankKillsRow.holds Tryd.pinned (OpenSpec.ofChange bankKillsSpec)

/-- ITS FALSE NEIGHBOUR: 'it returns false'. Refute it at one input. -/
def bankKillsWrong : ChangeSpec := { name := "bankKills", fn := fun _ => fun
  | [d1, d2, d3] => { results := [.lit (.bool false)], args := [d1, d2, d3] }
  | _ => none }
def BankKillsWrongFalsely : Prop := bankKillsRow.holds Tryd.pinned (OpenSpec.ofChange bankKillsWrong)

/-- 'lintellaw08.BankHolds': WHATEVER THE INPUT: true; the input reads as it did. -/
def bankHoldsSpec : ChangeSpec := { name := "bankHolds", fn := fun _ => fun
  | [d1, d2] => { results := [.lit (.bool true)], args := [d1, d2] }
  | _ => none }
def bankHoldsRow : OpenClaim := { program := "ytkajlbdiofobcaadoor", sum := "be3e19389f84f0704efbb8135bb0eda49dcad8901625cf9a25a4192e39c7629c", func := "lintel/lintellaw08.BankHolds", spec := "bankHolds", unfollowed := true, recurses := true, named := ["lintel/octet.sizes", "lintel/crc.table"], apart := false, laid := [("lintel/crc.table", laid_lintel_crc_table), ("lintel/octet.sizes", laid_lintel_octet_sizes)] }
def BankHoldsSaid : Prop := bankHoldsRow.holds Tryd.pinned (OpenSpec.ofChange bankHoldsSpec)

/-- ITS FALSE NEIGHBOUR: 'it returns false'. Refute it at one input. -/
def bankHoldsWrong : ChangeSpec := { name := "bankHolds", fn := fun _ => fun
  | [d1, d2] => { results := [.lit (.bool false)], args := [d1, d2] }
  | _ => none }
def BankHoldsWrongFalsely : Prop := bankHoldsRow.holds Tryd.pinned (OpenSpec.ofChange bankHoldsWrong)

/-- 'lintellaw08.BankHeads': WHATEVER THE INPUT: true; the input reads as it did. -/
def bankHeadsSpec : ChangeSpec := { name := "bankHeads", fn := fun _ => fun
  | [d1, d2, d3, d4] => { results := [.lit (.bool true)], args := [d1, d2, d3, d4] }
  | _ => none }
def bankHeadsRow : OpenClaim := { program := "ytkajlbdiofobcaadoor", sum := "be3e19389f84f0704efbb8135bb0eda49dcad8901625cf9a25a4192e39c7629c", func := "lintel/lintellaw08.BankHeads", spec := "bankHeads", unfollowed := true, recurses := true, named := ["lintel/octet.sizes", "lintel/crc.table"], apart := false, laid := [("lintel/crc.table", laid_lintel_crc_table), ("lintel/octet.sizes", laid_lintel_octet_sizes)] }
def BankHeadsSaid : Prop := bankHeadsRow.holds Tryd.pinned (OpenSpec.ofChange bankHeadsSpec)

/-- ITS FALSE NEIGHBOUR: 'it returns false'. Refute it at one input. -/
def bankHeadsWrong : ChangeSpec := { name := "bankHeads", fn := fun _ => fun
  | [d1, d2, d3, d4] => { results := [.lit (.bool false)], args := [d1, d2, d3, d4] }
  | _ => none }
def BankHeadsWrongFalsely : Prop := bankHeadsRow.holds Tryd.pinned (OpenSpec.ofChange bankHeadsWrong)

/-- 'lintellaw08.BankApart': WHATEVER THE INPUT: true; the input reads as it did. -/
def bankApartSpec : ChangeSpec := { name := "bankApart", fn := fun _ => fun
  | [d1, d2] => { results := [.lit (.bool true)], args := [d1, d2] }
  | _ => none }
def bankApartRow : OpenClaim := { program := "ytkajlbdiofobcaadoor", sum := "be3e19389f84f0704efbb8135bb0eda49dcad8901625cf9a25a4192e39c7629c", func := "lintel/lintellaw08.BankApart", spec := "bankApart", unfollowed := true, recurses := true, named := ["lintel/octet.sizes", "lintel/crc.table"], apart := false, laid := [("lintel/crc.table", laid_lintel_crc_table), ("lintel/octet.sizes", laid_lintel_octet_sizes)] }
def BankApartSaid : Prop := bankApartRow.holds Tryd.pinned (OpenSpec.ofChange bankApartSpec)

/-- ITS FALSE NEIGHBOUR: 'it returns false'. Refute it at one input. -/
def bankApartWrong : ChangeSpec := { name := "bankApart", fn := fun _ => fun
  | [d1, d2] => { results := [.lit (.bool false)], args := [d1, d2] }
  | _ => none }
def BankApartWrongFalsely : Prop := bankApartRow.holds Tryd.pinned (OpenSpec.ofChange bankApartWrong)

/- THE SECOND FORM. 'bulk': how many values and letters a reading holds, each counted each time it is reached (what is shared counts as often as it is met; a slice's spare places count too). A statement '..UptoSaid' is the law's where the arguments, and the package variables that the reading takes, are together of bulk at most 1048576: NARROWER than '..Said'. Prove '..Said' where nothing that the law and all that it calls make is longer than what came in: it says more and counts as full. Else prove '..UptoSaid'. A law counts once. -/
mutual
def uptoBulk {H : Type} : DataW H → Nat
  | .lit (.string bytes) => bytes.length + 1
  | .lit _ => 1
  | .nil => 1
  | .ptr d => uptoBulk d + 1
  | .slice elems spare => uptoBulkAll elems + uptoBulkAll spare + 1
  | .agg parts => uptoBulkAll parts + 1
  | .iface _ d => uptoBulk d + 1
  | .map entries => uptoBulkEntries entries + 1
  | .held _ => 1
def uptoBulkAll {H : Type} : List (DataW H) → Nat
  | [] => 0
  | d :: r => uptoBulk d + uptoBulkAll r
def uptoBulkEntries {H : Type} : List (Lit × DataW H) → Nat
  | [] => 0
  | x :: r => uptoBulkEntry x + uptoBulkEntries r
def uptoBulkEntry {H : Type} : Lit × DataW H → Nat
  | (.string bytes, d) => bytes.length + uptoBulk d + 1
  | (_, d) => uptoBulk d + 1
 end
def uptoSmall : (H : Type) → List (DataW H) → Bool := fun _ ds => decide (uptoBulkAll ds ≤ 1048576)
def OpenSpec.upto (s : _root_.Go.ChangeSpec) : _root_.Go.OpenSpec := { _root_.Go.OpenSpec.ofChange s with cond := some uptoSmall }

/-- 'lintellaw08.BankNil', WHERE WHAT IT READS IS OF BULK AT MOST 1048576: true; the input reads as it did. -/
def bankNilUptoRow : OpenClaim := { program := "ytkajlbdiofobcaadoor", sum := "be3e19389f84f0704efbb8135bb0eda49dcad8901625cf9a25a4192e39c7629c", func := "lintel/lintellaw08.BankNil", spec := "bankNil", unfollowed := true, recurses := true, named := ["lintel/octet.sizes", "lintel/crc.table"], apart := false, laid := [("lintel/crc.table", laid_lintel_crc_table), ("lintel/octet.sizes", laid_lintel_octet_sizes)], narrowed := true }
def BankNilUptoSaid : Prop := bankNilUptoRow.holds Tryd.pinned (OpenSpec.upto bankNilSpec)

/-- 'lintellaw08.BankFalls', WHERE WHAT IT READS IS OF BULK AT MOST 1048576: true; the input reads as it did. -/
def bankFallsUptoRow : OpenClaim := { program := "ytkajlbdiofobcaadoor", sum := "be3e19389f84f0704efbb8135bb0eda49dcad8901625cf9a25a4192e39c7629c", func := "lintel/lintellaw08.BankFalls", spec := "bankFalls", unfollowed := true, recurses := true, named := ["lintel/octet.sizes", "lintel/crc.table"], apart := false, laid := [("lintel/crc.table", laid_lintel_crc_table), ("lintel/octet.sizes", laid_lintel_octet_sizes)], narrowed := true }
def BankFallsUptoSaid : Prop := bankFallsUptoRow.holds Tryd.pinned (OpenSpec.upto bankFallsSpec)

/-- 'lintellaw08.BankKills', WHERE WHAT IT READS IS OF BULK AT MOST 1048576: true; the input reads as it did. -/
def bankKillsUptoRow : OpenClaim := { program := "ytkajlbdiofobcaadoor", sum := "be3e19389f84f0704efbb8135bb0eda49dcad8901625cf9a25a4192e39c7629c", func := "lintel/lintellaw08.BankKills", spec := "bankKills", unfollowed := true, recurses := true, named := ["lintel/octet.sizes", "lintel/crc.table"], apart := false, laid := [("lintel/crc.table", laid_lintel_crc_table), ("lintel/octet.sizes", laid_lintel_octet_sizes)], narrowed := true }
def BankKillsUptoSaid : Prop := bankKillsUptoRow.holds Tryd.pinned (OpenSpec.upto bankKillsSpec)

/-- 'lintellaw08.BankHolds', WHERE WHAT IT READS IS OF BULK AT MOST 1048576: true; the input reads as it did. -/
def bankHoldsUptoRow : OpenClaim := { program := "ytkajlbdiofobcaadoor", sum := "be3e19389f84f0704efbb8135bb0eda49dcad8901625cf9a25a4192e39c7629c", func := "lintel/lintellaw08.BankHolds", spec := "bankHolds", unfollowed := true, recurses := true, named := ["lintel/octet.sizes", "lintel/crc.table"], apart := false, laid := [("lintel/crc.table", laid_lintel_crc_table), ("lintel/octet.sizes", laid_lintel_octet_sizes)], narrowed := true }
def BankHoldsUptoSaid : Prop := bankHoldsUptoRow.holds Tryd.pinned (OpenSpec.upto bankHoldsSpec)

/-- 'lintellaw08.BankHeads', WHERE WHAT IT READS IS OF BULK AT MOST 1048576: true; the input reads as it did. -/
def bankHeadsUptoRow : OpenClaim := { program := "ytkajlbdiofobcaadoor", sum := "be3e19389f84f0704efbb8135bb0eda49dcad8901625cf9a25a4192e39c7629c", func := "lintel/lintellaw08.BankHeads", spec := "bankHeads", unfollowed := true, recurses := true, named := ["lintel/octet.sizes", "lintel/crc.table"], apart := false, laid := [("lintel/crc.table", laid_lintel_crc_table), ("lintel/octet.sizes", laid_lintel_octet_sizes)], narrowed := true }
def BankHeadsUptoSaid : Prop := bankHeadsUptoRow.holds Tryd.pinned (OpenSpec.upto bankHeadsSpec)

/-- 'lintellaw08.BankApart', WHERE WHAT IT READS IS OF BULK AT MOST 1048576: true; the input reads as it did. -/
def bankApartUptoRow : OpenClaim := { program := "ytkajlbdiofobcaadoor", sum := "be3e19389f84f0704efbb8135bb0eda49dcad8901625cf9a25a4192e39c7629c", func := "lintel/lintellaw08.BankApart", spec := "bankApart", unfollowed := true, recurses := true, named := ["lintel/octet.sizes", "lintel/crc.table"], apart := false, laid := [("lintel/crc.table", laid_lintel_crc_table), ("lintel/octet.sizes", laid_lintel_octet_sizes)], narrowed := true }
def BankApartUptoSaid : Prop := bankApartUptoRow.holds Tryd.pinned (OpenSpec.upto bankApartSpec)

end Rows
end Go.Proofs.YtkajlbdiofobcaaDoor
