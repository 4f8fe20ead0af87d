/-
  No cell of these rows narrows 'for every input' (looked for: loops, veiled, ifaces, maps, wideKeys, modest, calm, conditions, laid).
  DERIVED. THE GIVEN ROWS OF THIS SEAT. 4 by the template 'for every input the law returns true; each argument reads behind the call as it read before'; 0 by the template 'total and deterministic' (their statements: YtamkbedbkjndgaaTotals.lean).
  GIVEN WITH THE SEED: the statements are not yours to turn. If you find one false, say at which input.
  Laid BY PROGRAM, IN A SANDBOX (cutbox-rows.mjs): the forced cells as the released guide's own fill.sh prints them over the translation 7040f275b295a0b2… (all of the seat's roots in one cut). By AI agents, Wed Nov 11 2026. No macro, syntax, notation, axiom, sorry.
-/
import Derived.Test.YtamkbedbkjndgaaChecked
import GoSem.Claim
import GoSem.ClaimJoined
import GoSem.ClaimMapViews
import Derived.JoinedTies
import Derived.KernelRfl
namespace Go.Proofs.Ytamkbedbkjndgaa
/- THE CELL 'sum', in the pinned program and in every row, IS THE sha256 OF THE DUMP (.gsa) THAT YtamkbedbkjndgaaProg.lean LOADS. Nothing in Lean hashes anything: it is a label: what it is worth is what the hold of that sum in a sandbox is worth. -/
noncomputable def Try.pinned : Pinned := { name := "ytamkbedbkjndgaa", sum := "7040f275b295a0b27a190f54ca812344ad4140d601e0403b696fce89a155d1e7", checked := Try.checked }
namespace Rows
def none {H : Type} : Left H := { results := [], args := [] }

/-- 'lintellaw10.DerAlls': WHATEVER THE INPUT: true; the input reads as it did. -/
def derAllsSpec : ChangeSpec := { name := "derAlls", fn := fun _ => fun
  | [d] => { results := [.lit (.bool true)], args := [d] }
  | _ => none }
def derAllsRow : OpenClaim := { program := "ytamkbedbkjndgaa", sum := "7040f275b295a0b27a190f54ca812344ad4140d601e0403b696fce89a155d1e7", func := "lintel/lintellaw10.DerAlls", spec := "derAlls", inPlace := ["internal/bytealg.Compare"], unfollowed := true, recurses := true, apart := false }
def DerAllsSaid : Prop := derAllsRow.holds Try.pinned (OpenSpec.ofChange derAllsSpec)

/-- ITS FALSE NEIGHBOUR: 'it returns false'. Refute it at one input. -/
def derAllsWrong : ChangeSpec := { name := "derAlls", fn := fun _ => fun
  | [d] => { results := [.lit (.bool false)], args := [d] }
  | _ => none }
def DerAllsWrongFalsely : Prop := derAllsRow.holds Try.pinned (OpenSpec.ofChange derAllsWrong)

/-- 'lintellaw10.DerSets': WHATEVER THE INPUT: true; the input reads as it did. -/
def derSetsSpec : ChangeSpec := { name := "derSets", fn := fun _ => fun
  | [d] => { results := [.lit (.bool true)], args := [d] }
  | _ => none }
def derSetsRow : OpenClaim := { program := "ytamkbedbkjndgaa", sum := "7040f275b295a0b27a190f54ca812344ad4140d601e0403b696fce89a155d1e7", func := "lintel/lintellaw10.DerSets", spec := "derSets", inPlace := ["internal/bytealg.Compare"], unfollowed := true, recurses := true, apart := false }
def DerSetsSaid : Prop := derSetsRow.holds Try.pinned (OpenSpec.ofChange derSetsSpec)

/-- ITS FALSE NEIGHBOUR: 'it returns false'. Refute it at one input. -/
def derSetsWrong : ChangeSpec := { name := "derSets", fn := fun _ => fun
  | [d] => { results := [.lit (.bool false)], args := [d] }
  | _ => none }
def DerSetsWrongFalsely : Prop := derSetsRow.holds Try.pinned (OpenSpec.ofChange derSetsWrong)

/-- 'lintellaw10.DerBack': WHATEVER THE INPUT: true; the input reads as it did. -/
def derBackSpec : ChangeSpec := { name := "derBack", fn := fun _ => fun
  | [d] => { results := [.lit (.bool true)], args := [d] }
  | _ => none }
def derBackRow : OpenClaim := { program := "ytamkbedbkjndgaa", sum := "7040f275b295a0b27a190f54ca812344ad4140d601e0403b696fce89a155d1e7", func := "lintel/lintellaw10.DerBack", spec := "derBack", inPlace := ["internal/bytealg.Compare"], unfollowed := true, recurses := true, apart := false }
def DerBackSaid : Prop := derBackRow.holds Try.pinned (OpenSpec.ofChange derBackSpec)

/-- ITS FALSE NEIGHBOUR: 'it returns false'. Refute it at one input. -/
def derBackWrong : ChangeSpec := { name := "derBack", fn := fun _ => fun
  | [d] => { results := [.lit (.bool false)], args := [d] }
  | _ => none }
def DerBackWrongFalsely : Prop := derBackRow.holds Try.pinned (OpenSpec.ofChange derBackWrong)

/-- 'lintellaw10.DerSorted': WHATEVER THE INPUT: true; the input reads as it did. -/
def derSortedSpec : ChangeSpec := { name := "derSorted", fn := fun _ => fun
  | [d1, d2] => { results := [.lit (.bool true)], args := [d1, d2] }
  | _ => none }
def derSortedRow : OpenClaim := { program := "ytamkbedbkjndgaa", sum := "7040f275b295a0b27a190f54ca812344ad4140d601e0403b696fce89a155d1e7", func := "lintel/lintellaw10.DerSorted", spec := "derSorted", inPlace := ["internal/bytealg.Compare"], unfollowed := true, recurses := true, apart := false }
def DerSortedSaid : Prop := derSortedRow.holds Try.pinned (OpenSpec.ofChange derSortedSpec)

/-- ITS FALSE NEIGHBOUR: 'it returns false'. Refute it at one input. -/
def derSortedWrong : ChangeSpec := { name := "derSorted", fn := fun _ => fun
  | [d1, d2] => { results := [.lit (.bool false)], args := [d1, d2] }
  | _ => none }
def DerSortedWrongFalsely : Prop := derSortedRow.holds Try.pinned (OpenSpec.ofChange derSortedWrong)

/- THE SECOND FORM. 'bulk': how many values and letters a reading holds, each counted each time it is reached (what is shared counts as often as it is met; a slice's spare places count too). A statement '..UptoSaid' is the law's where the arguments, and the package variables that the reading takes, are together of bulk at most 1048576: NARROWER than '..Said'. Prove '..Said' where nothing that the law and all that it calls make is longer than what came in: it says more and counts as full. Else prove '..UptoSaid'. A law counts once. -/
mutual
def uptoBulk {H : Type} : DataW H → Nat
  | .lit (.string bytes) => bytes.length + 1
  | .lit _ => 1
  | .nil => 1
  | .ptr d => uptoBulk d + 1
  | .slice elems spare => uptoBulkAll elems + uptoBulkAll spare + 1
  | .agg parts => uptoBulkAll parts + 1
  | .iface _ d => uptoBulk d + 1
  | .map entries => uptoBulkEntries entries + 1
  | .held _ => 1
def uptoBulkAll {H : Type} : List (DataW H) → Nat
  | [] => 0
  | d :: r => uptoBulk d + uptoBulkAll r
def uptoBulkEntries {H : Type} : List (Lit × DataW H) → Nat
  | [] => 0
  | x :: r => uptoBulkEntry x + uptoBulkEntries r
def uptoBulkEntry {H : Type} : Lit × DataW H → Nat
  | (.string bytes, d) => bytes.length + uptoBulk d + 1
  | (_, d) => uptoBulk d + 1
 end
def uptoSmall : (H : Type) → List (DataW H) → Bool := fun _ ds => decide (uptoBulkAll ds ≤ 1048576)
def OpenSpec.upto (s : _root_.Go.ChangeSpec) : _root_.Go.OpenSpec := { _root_.Go.OpenSpec.ofChange s with cond := some uptoSmall }

/-- 'lintellaw10.DerAlls', WHERE WHAT IT READS IS OF BULK AT MOST 1048576: true; the input reads as it did. -/
def derAllsUptoRow : OpenClaim := { program := "ytamkbedbkjndgaa", sum := "7040f275b295a0b27a190f54ca812344ad4140d601e0403b696fce89a155d1e7", func := "lintel/lintellaw10.DerAlls", spec := "derAlls", inPlace := ["internal/bytealg.Compare"], unfollowed := true, recurses := true, apart := false, narrowed := true }
def DerAllsUptoSaid : Prop := derAllsUptoRow.holds Try.pinned (OpenSpec.upto derAllsSpec)

/-- 'lintellaw10.DerSets', WHERE WHAT IT READS IS OF BULK AT MOST 1048576: true; the input reads as it did. -/
def derSetsUptoRow : OpenClaim := { program := "ytamkbedbkjndgaa", sum := "7040f275b295a0b27a190f54ca812344ad4140d601e0403b696fce89a155d1e7", func := "lintel/lintellaw10.DerSets", spec := "derSets", inPlace := ["internal/bytealg.Compare"], unfollowed := true, recurses := true, apart := false, narrowed := true }
def DerSetsUptoSaid : Prop := derSetsUptoRow.holds Try.pinned (OpenSpec.upto derSetsSpec)

/-- 'lintellaw10.DerBack', WHERE WHAT IT READS IS OF BULK AT MOST 1048576: true; the input reads as it did. -/
def derBackUptoRow : OpenClaim := { program := "ytamkbedbkjndgaa", sum := "7040f275b295a0b27a190f54ca812344ad4140d601e0403b696fce89a155d1e7", func := "lintel/lintellaw10.DerBack", spec := "derBack", inPlace := ["internal/bytealg.Compare"], unfollowed := true, recurses := true, apart := false, narrowed := true }
def DerBackUptoSaid : Prop := derBackUptoRow.holds Try.pinned (OpenSpec.upto derBackSpec)

/-- 'lintellaw10.DerSorted', WHERE WHAT IT READS IS OF BULK AT MOST 1048576: true; the input reads as it did. -/
def derSortedUptoRow : OpenClaim := { program := "ytamkbedbkjndgaa", sum := "7040f275b295a0b27a190f54ca812344ad4140d601e0403b696fce89a155d1e7", func := "lintel/lintellaw10.DerSorted", spec := "derSorted", inPlace := ["internal/bytealg.Compare"], unfollowed := true, recurses := true, apart := false, narrowed := true }
def DerSortedUptoSaid : Prop := derSortedUptoRow.holds Try.pinned (OpenSpec.upto derSortedSpec)

end Rows
end Go.Proofs.Ytamkbedbkjndgaa
