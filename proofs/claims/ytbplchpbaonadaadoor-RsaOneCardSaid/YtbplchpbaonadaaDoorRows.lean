/-
  NARROWER THAN 'FOR EVERY INPUT', by the rows' own cells (each row's printed sentence says how): RsaEncodes: laid · RsaVerifies: laid · RsaOne: laid · RsaTurned: laid · RsaShape: laid · RsaKeys: laid.
  DERIVED. THE GIVEN ROWS OF THIS SEAT. 6 by the template 'for every input the law returns true; each argument reads behind the call as it read before'; 0 by the template 'total and deterministic' (their statements: YtbplchpbaonadaaDoorTotals.lean).
  GIVEN WITH THE SEED: the statements are not yours to turn. If you find one false, say at which input.
  Laid BY PROGRAM, IN A SANDBOX (cutbox-rows.mjs): the forced cells as the released guide's own fill.sh prints them over the translation 7f214797d2c8e93d… (all of the seat's roots in one cut). By AI agents, Wed Nov 11 2026. No macro, syntax, notation, axiom, sorry.
-/
import Derived.Test.YtbplchpbaonadaaDoorChecked
import GoSem.Claim
import GoSem.ClaimJoined
import GoSem.ClaimMapViews
import Derived.JoinedTies
import Derived.KernelRfl
namespace Go.Proofs.YtbplchpbaonadaaDoor
/- THE CELL 'sum', in the pinned program and in every row, IS THE sha256 OF THE DUMP (.gsa) THAT YtbplchpbaonadaaDoorProg.lean LOADS. Nothing in Lean hashes anything: it is a label: what it is worth is what the hold of that sum in a sandbox is worth. -/
noncomputable def Tryd.pinned : Pinned := { name := "ytbplchpbaonadaadoor", sum := "7f214797d2c8e93dd33dd48230e88e627037748f62124f1df3701dd58d60a8aa", checked := Tryd.checked }
namespace Rows
def none {H : Type} : Left H := { results := [], args := [] }

/- WHAT THE LISTED PACKAGE-LEVEL VARIABLES READ AS WHEN THE CALL BEGINS. Each datum BY PROGRAM (the guide's laid-datum.mjs) off the statement by which the dump's own 'gosem.cut.vars' lays the variable. In a bare row this is a premise. The card (YtbplchpbaonadaaDoorCards.lean) ties it to the program's text. -/
def laid_lintel_rsa_lengths {H : Type} : DataW H := .agg [.lit (.int .i64 256), .lit (.int .i64 384), .lit (.int .i64 512)]

/-- 'lintellaw06.RsaEncodes': WHATEVER THE INPUT: true; the input reads as it did. -/
def rsaEncodesSpec : ChangeSpec := { name := "rsaEncodes", fn := fun _ => fun
  | [d1, d2, d3] => { results := [.lit (.bool true)], args := [d1, d2, d3] }
  | _ => none }
def rsaEncodesRow : OpenClaim := { program := "ytbplchpbaonadaadoor", sum := "7f214797d2c8e93dd33dd48230e88e627037748f62124f1df3701dd58d60a8aa", func := "lintel/lintellaw06.RsaEncodes", spec := "rsaEncodes", inPlace := ["internal/bytealg.MakeNoZero"], unfollowed := true, recurses := true, named := ["lintel/rsa.lengths"], apart := false, laid := [("lintel/rsa.lengths", laid_lintel_rsa_lengths)] }
def RsaEncodesSaid : Prop := rsaEncodesRow.holds Tryd.pinned (OpenSpec.ofChange rsaEncodesSpec)

/-- ITS FALSE NEIGHBOUR: 'it returns false'. Refute it at one input. -/
def rsaEncodesWrong : ChangeSpec := { name := "rsaEncodes", fn := fun _ => fun
  | [d1, d2, d3] => { results := [.lit (.bool false)], args := [d1, d2, d3] }
  | _ => none }
def RsaEncodesWrongFalsely : Prop := rsaEncodesRow.holds Tryd.pinned (OpenSpec.ofChange rsaEncodesWrong)

/-- 'lintellaw06.RsaVerifies': WHATEVER THE INPUT: true; the input reads as it did. -/
def rsaVerifiesSpec : ChangeSpec := { name := "rsaVerifies", fn := fun _ => fun
  | [d1, d2, d3] => { results := [.lit (.bool true)], args := [d1, d2, d3] }
  | _ => none }
def rsaVerifiesRow : OpenClaim := { program := "ytbplchpbaonadaadoor", sum := "7f214797d2c8e93dd33dd48230e88e627037748f62124f1df3701dd58d60a8aa", func := "lintel/lintellaw06.RsaVerifies", spec := "rsaVerifies", inPlace := ["internal/bytealg.MakeNoZero"], unfollowed := true, recurses := true, named := ["lintel/rsa.lengths"], apart := false, laid := [("lintel/rsa.lengths", laid_lintel_rsa_lengths)] }
def RsaVerifiesSaid : Prop := rsaVerifiesRow.holds Tryd.pinned (OpenSpec.ofChange rsaVerifiesSpec)

/-- ITS FALSE NEIGHBOUR: 'it returns false'. Refute it at one input. -/
def rsaVerifiesWrong : ChangeSpec := { name := "rsaVerifies", fn := fun _ => fun
  | [d1, d2, d3] => { results := [.lit (.bool false)], args := [d1, d2, d3] }
  | _ => none }
def RsaVerifiesWrongFalsely : Prop := rsaVerifiesRow.holds Tryd.pinned (OpenSpec.ofChange rsaVerifiesWrong)

/-- 'lintellaw06.RsaOne': WHATEVER THE INPUT: true; the input reads as it did. -/
def rsaOneSpec : ChangeSpec := { name := "rsaOne", fn := fun _ => fun
  | [d1, d2, d3] => { results := [.lit (.bool true)], args := [d1, d2, d3] }
  | _ => none }
def rsaOneRow : OpenClaim := { program := "ytbplchpbaonadaadoor", sum := "7f214797d2c8e93dd33dd48230e88e627037748f62124f1df3701dd58d60a8aa", func := "lintel/lintellaw06.RsaOne", spec := "rsaOne", inPlace := ["internal/bytealg.MakeNoZero"], unfollowed := true, recurses := true, named := ["lintel/rsa.lengths"], apart := false, laid := [("lintel/rsa.lengths", laid_lintel_rsa_lengths)] }
def RsaOneSaid : Prop := rsaOneRow.holds Tryd.pinned (OpenSpec.ofChange rsaOneSpec)

/-- ITS FALSE NEIGHBOUR: 'it returns false'. Refute it at one input. -/
def rsaOneWrong : ChangeSpec := { name := "rsaOne", fn := fun _ => fun
  | [d1, d2, d3] => { results := [.lit (.bool false)], args := [d1, d2, d3] }
  | _ => none }
def RsaOneWrongFalsely : Prop := rsaOneRow.holds Tryd.pinned (OpenSpec.ofChange rsaOneWrong)

/-- 'lintellaw06.RsaTurned': WHATEVER THE INPUT: true; the input reads as it did. -/
def rsaTurnedSpec : ChangeSpec := { name := "rsaTurned", fn := fun _ => fun
  | [d1, d2] => { results := [.lit (.bool true)], args := [d1, d2] }
  | _ => none }
def rsaTurnedRow : OpenClaim := { program := "ytbplchpbaonadaadoor", sum := "7f214797d2c8e93dd33dd48230e88e627037748f62124f1df3701dd58d60a8aa", func := "lintel/lintellaw06.RsaTurned", spec := "rsaTurned", inPlace := ["internal/bytealg.MakeNoZero"], unfollowed := true, recurses := true, named := ["lintel/rsa.lengths"], apart := false, laid := [("lintel/rsa.lengths", laid_lintel_rsa_lengths)] }
def RsaTurnedSaid : Prop := rsaTurnedRow.holds Tryd.pinned (OpenSpec.ofChange rsaTurnedSpec)

/-- ITS FALSE NEIGHBOUR: 'it returns false'. Refute it at one input. -/
def rsaTurnedWrong : ChangeSpec := { name := "rsaTurned", fn := fun _ => fun
  | [d1, d2] => { results := [.lit (.bool false)], args := [d1, d2] }
  | _ => none }
def RsaTurnedWrongFalsely : Prop := rsaTurnedRow.holds Tryd.pinned (OpenSpec.ofChange rsaTurnedWrong)

/-- 'lintellaw06.RsaShape': WHATEVER THE INPUT: true; the input reads as it did. -/
def rsaShapeSpec : ChangeSpec := { name := "rsaShape", fn := fun _ => fun
  | [d1, d2] => { results := [.lit (.bool true)], args := [d1, d2] }
  | _ => none }
def rsaShapeRow : OpenClaim := { program := "ytbplchpbaonadaadoor", sum := "7f214797d2c8e93dd33dd48230e88e627037748f62124f1df3701dd58d60a8aa", func := "lintel/lintellaw06.RsaShape", spec := "rsaShape", inPlace := ["internal/bytealg.MakeNoZero"], unfollowed := true, recurses := true, named := ["lintel/rsa.lengths"], apart := false, laid := [("lintel/rsa.lengths", laid_lintel_rsa_lengths)] }
def RsaShapeSaid : Prop := rsaShapeRow.holds Tryd.pinned (OpenSpec.ofChange rsaShapeSpec)

/-- ITS FALSE NEIGHBOUR: 'it returns false'. Refute it at one input. -/
def rsaShapeWrong : ChangeSpec := { name := "rsaShape", fn := fun _ => fun
  | [d1, d2] => { results := [.lit (.bool false)], args := [d1, d2] }
  | _ => none }
def RsaShapeWrongFalsely : Prop := rsaShapeRow.holds Tryd.pinned (OpenSpec.ofChange rsaShapeWrong)

/-- 'lintellaw06.RsaKeys': WHATEVER THE INPUT: true; the input reads as it did. -/
def rsaKeysSpec : ChangeSpec := { name := "rsaKeys", fn := fun _ => fun
  | [d1, d2, d3, d4] => { results := [.lit (.bool true)], args := [d1, d2, d3, d4] }
  | _ => none }
def rsaKeysRow : OpenClaim := { program := "ytbplchpbaonadaadoor", sum := "7f214797d2c8e93dd33dd48230e88e627037748f62124f1df3701dd58d60a8aa", func := "lintel/lintellaw06.RsaKeys", spec := "rsaKeys", inPlace := ["internal/bytealg.MakeNoZero"], unfollowed := true, recurses := true, named := ["lintel/rsa.lengths"], apart := false, laid := [("lintel/rsa.lengths", laid_lintel_rsa_lengths)] }
def RsaKeysSaid : Prop := rsaKeysRow.holds Tryd.pinned (OpenSpec.ofChange rsaKeysSpec)

/-- ITS FALSE NEIGHBOUR: 'it returns false'. Refute it at one input. -/
def rsaKeysWrong : ChangeSpec := { name := "rsaKeys", fn := fun _ => fun
  | [d1, d2, d3, d4] => { results := [.lit (.bool false)], args := [d1, d2, d3, d4] }
  | _ => none }
def RsaKeysWrongFalsely : Prop := rsaKeysRow.holds Tryd.pinned (OpenSpec.ofChange rsaKeysWrong)

/- THE SECOND FORM. 'bulk': how many values and letters a reading holds, each counted each time it is reached (what is shared counts as often as it is met; a slice's spare places count too). A statement '..UptoSaid' is the law's where the arguments, and the package variables that the reading takes, are together of bulk at most 1048576: NARROWER than '..Said'. Prove '..Said' where nothing that the law and all that it calls make is longer than what came in: it says more and counts as full. Else prove '..UptoSaid'. A law counts once. -/
mutual
def uptoBulk {H : Type} : DataW H → Nat
  | .lit (.string bytes) => bytes.length + 1
  | .lit _ => 1
  | .nil => 1
  | .ptr d => uptoBulk d + 1
  | .slice elems spare => uptoBulkAll elems + uptoBulkAll spare + 1
  | .agg parts => uptoBulkAll parts + 1
  | .iface _ d => uptoBulk d + 1
  | .map entries => uptoBulkEntries entries + 1
  | .held _ => 1
def uptoBulkAll {H : Type} : List (DataW H) → Nat
  | [] => 0
  | d :: r => uptoBulk d + uptoBulkAll r
def uptoBulkEntries {H : Type} : List (Lit × DataW H) → Nat
  | [] => 0
  | x :: r => uptoBulkEntry x + uptoBulkEntries r
def uptoBulkEntry {H : Type} : Lit × DataW H → Nat
  | (.string bytes, d) => bytes.length + uptoBulk d + 1
  | (_, d) => uptoBulk d + 1
 end
def uptoSmall : (H : Type) → List (DataW H) → Bool := fun _ ds => decide (uptoBulkAll ds ≤ 1048576)
def OpenSpec.upto (s : _root_.Go.ChangeSpec) : _root_.Go.OpenSpec := { _root_.Go.OpenSpec.ofChange s with cond := some uptoSmall }

/-- 'lintellaw06.RsaEncodes', WHERE WHAT IT READS IS OF BULK AT MOST 1048576: true; the input reads as it did. -/
def rsaEncodesUptoRow : OpenClaim := { program := "ytbplchpbaonadaadoor", sum := "7f214797d2c8e93dd33dd48230e88e627037748f62124f1df3701dd58d60a8aa", func := "lintel/lintellaw06.RsaEncodes", spec := "rsaEncodes", inPlace := ["internal/bytealg.MakeNoZero"], unfollowed := true, recurses := true, named := ["lintel/rsa.lengths"], apart := false, laid := [("lintel/rsa.lengths", laid_lintel_rsa_lengths)], narrowed := true }
def RsaEncodesUptoSaid : Prop := rsaEncodesUptoRow.holds Tryd.pinned (OpenSpec.upto rsaEncodesSpec)

/-- 'lintellaw06.RsaVerifies', WHERE WHAT IT READS IS OF BULK AT MOST 1048576: true; the input reads as it did. -/
def rsaVerifiesUptoRow : OpenClaim := { program := "ytbplchpbaonadaadoor", sum := "7f214797d2c8e93dd33dd48230e88e627037748f62124f1df3701dd58d60a8aa", func := "lintel/lintellaw06.RsaVerifies", spec := "rsaVerifies", inPlace := ["internal/bytealg.MakeNoZero"], unfollowed := true, recurses := true, named := ["lintel/rsa.lengths"], apart := false, laid := [("lintel/rsa.lengths", laid_lintel_rsa_lengths)], narrowed := true }
def RsaVerifiesUptoSaid : Prop := rsaVerifiesUptoRow.holds Tryd.pinned (OpenSpec.upto rsaVerifiesSpec)

/-- 'lintellaw06.RsaOne', WHERE WHAT IT READS IS OF BULK AT MOST 1048576: true; the input reads as it did. -/
def rsaOneUptoRow : OpenClaim := { program := "ytbplchpbaonadaadoor", sum := "7f214797d2c8e93dd33dd48230e88e627037748f62124f1df3701dd58d60a8aa", func := "lintel/lintellaw06.RsaOne", spec := "rsaOne", inPlace := ["internal/bytealg.MakeNoZero"], unfollowed := true, recurses := true, named := ["lintel/rsa.lengths"], apart := false, laid := [("lintel/rsa.lengths", laid_lintel_rsa_lengths)], narrowed := true }
def RsaOneUptoSaid : Prop := rsaOneUptoRow.holds Tryd.pinned (OpenSpec.upto rsaOneSpec)

/-- 'lintellaw06.RsaTurned', WHERE WHAT IT READS IS OF BULK AT MOST 1048576: true; the input reads as it did. -/
def rsaTurnedUptoRow : OpenClaim := { program := "ytbplchpbaonadaadoor", sum := "7f214797d2c8e93dd33dd48230e88e627037748f62124f1df3701dd58d60a8aa", func := "lintel/lintellaw06.RsaTurned", spec := "rsaTurned", inPlace := ["internal/bytealg.MakeNoZero"], unfollowed := true, recurses := true, named := ["lintel/rsa.lengths"], apart := false, laid := [("lintel/rsa.lengths", laid_lintel_rsa_lengths)], narrowed := true }
def RsaTurnedUptoSaid : Prop := rsaTurnedUptoRow.holds Tryd.pinned (OpenSpec.upto rsaTurnedSpec)

/-- 'lintellaw06.RsaShape', WHERE WHAT IT READS IS OF BULK AT MOST 1048576: true; the input reads as it did. -/
def rsaShapeUptoRow : OpenClaim := { program := "ytbplchpbaonadaadoor", sum := "7f214797d2c8e93dd33dd48230e88e627037748f62124f1df3701dd58d60a8aa", func := "lintel/lintellaw06.RsaShape", spec := "rsaShape", inPlace := ["internal/bytealg.MakeNoZero"], unfollowed := true, recurses := true, named := ["lintel/rsa.lengths"], apart := false, laid := [("lintel/rsa.lengths", laid_lintel_rsa_lengths)], narrowed := true }
def RsaShapeUptoSaid : Prop := rsaShapeUptoRow.holds Tryd.pinned (OpenSpec.upto rsaShapeSpec)

/-- 'lintellaw06.RsaKeys', WHERE WHAT IT READS IS OF BULK AT MOST 1048576: true; the input reads as it did. -/
def rsaKeysUptoRow : OpenClaim := { program := "ytbplchpbaonadaadoor", sum := "7f214797d2c8e93dd33dd48230e88e627037748f62124f1df3701dd58d60a8aa", func := "lintel/lintellaw06.RsaKeys", spec := "rsaKeys", inPlace := ["internal/bytealg.MakeNoZero"], unfollowed := true, recurses := true, named := ["lintel/rsa.lengths"], apart := false, laid := [("lintel/rsa.lengths", laid_lintel_rsa_lengths)], narrowed := true }
def RsaKeysUptoSaid : Prop := rsaKeysUptoRow.holds Tryd.pinned (OpenSpec.upto rsaKeysSpec)

end Rows
end Go.Proofs.YtbplchpbaonadaaDoor
