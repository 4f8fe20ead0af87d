/-
  No cell of these rows narrows 'for every input' (looked for: loops, veiled, ifaces, maps, wideKeys, modest, calm, conditions, laid).
  DERIVED. THE GIVEN ROWS OF THIS SEAT. 5 by the template 'for every input the law returns true; each argument reads behind the call as it read before'; 0 by the template 'total and deterministic' (their statements: YtcmhacecnahfoaaTotals.lean).
  GIVEN WITH THE SEED: the statements are not yours to turn. If you find one false, say at which input.
  Laid BY PROGRAM, IN A SANDBOX (cutbox-rows.mjs): the forced cells as the released guide's own fill.sh prints them over the translation 3cd031025300a222… (all of the seat's roots in one cut). By AI agents, Wed Nov 11 2026. No macro, syntax, notation, axiom, sorry.
-/
import Derived.Test.YtcmhacecnahfoaaChecked
import GoSem.Claim
import GoSem.ClaimJoined
import GoSem.ClaimMapViews
import Derived.JoinedTies
import Derived.KernelRfl
namespace Go.Proofs.Ytcmhacecnahfoaa
/- THE CELL 'sum', in the pinned program and in every row, IS THE sha256 OF THE DUMP (.gsa) THAT YtcmhacecnahfoaaProg.lean LOADS. Nothing in Lean hashes anything: it is a label: what it is worth is what the hold of that sum in a sandbox is worth. -/
noncomputable def Try.pinned : Pinned := { name := "ytcmhacecnahfoaa", sum := "3cd031025300a222b8e1c694608b53262cba3a6997dd208fba3f8037b3e8046c", checked := Try.checked }
namespace Rows
def none {H : Type} : Left H := { results := [], args := [] }

/-- 'lintellaw05.MontReckons': WHATEVER THE INPUT: true; the input reads as it did. -/
def montReckonsSpec : ChangeSpec := { name := "montReckons", fn := fun _ => fun
  | [d1, d2, d3, d4] => { results := [.lit (.bool true)], args := [d1, d2, d3, d4] }
  | _ => none }
def montReckonsRow : OpenClaim := { program := "ytcmhacecnahfoaa", sum := "3cd031025300a222b8e1c694608b53262cba3a6997dd208fba3f8037b3e8046c", func := "lintel/lintellaw05.MontReckons", spec := "montReckons", unfollowed := true, recurses := true, apart := false }
def MontReckonsSaid : Prop := montReckonsRow.holds Try.pinned (OpenSpec.ofChange montReckonsSpec)

/-- ITS FALSE NEIGHBOUR: 'it returns false'. Refute it at one input. -/
def montReckonsWrong : ChangeSpec := { name := "montReckons", fn := fun _ => fun
  | [d1, d2, d3, d4] => { results := [.lit (.bool false)], args := [d1, d2, d3, d4] }
  | _ => none }
def MontReckonsWrongFalsely : Prop := montReckonsRow.holds Try.pinned (OpenSpec.ofChange montReckonsWrong)

/-- 'lintellaw05.MontPowers': WHATEVER THE INPUT: true; the input reads as it did. -/
def montPowersSpec : ChangeSpec := { name := "montPowers", fn := fun _ => fun
  | [d1, d2, d3, d4, d5] => { results := [.lit (.bool true)], args := [d1, d2, d3, d4, d5] }
  | _ => none }
def montPowersRow : OpenClaim := { program := "ytcmhacecnahfoaa", sum := "3cd031025300a222b8e1c694608b53262cba3a6997dd208fba3f8037b3e8046c", func := "lintel/lintellaw05.MontPowers", spec := "montPowers", unfollowed := true, recurses := true, apart := false }
def MontPowersSaid : Prop := montPowersRow.holds Try.pinned (OpenSpec.ofChange montPowersSpec)

/-- ITS FALSE NEIGHBOUR: 'it returns false'. Refute it at one input. -/
def montPowersWrong : ChangeSpec := { name := "montPowers", fn := fun _ => fun
  | [d1, d2, d3, d4, d5] => { results := [.lit (.bool false)], args := [d1, d2, d3, d4, d5] }
  | _ => none }
def MontPowersWrongFalsely : Prop := montPowersRow.holds Try.pinned (OpenSpec.ofChange montPowersWrong)

/-- 'lintellaw05.MontNil': WHATEVER THE INPUT: true; the input reads as it did. -/
def montNilSpec : ChangeSpec := { name := "montNil", fn := fun _ => fun
  | [d1, d2] => { results := [.lit (.bool true)], args := [d1, d2] }
  | _ => none }
def montNilRow : OpenClaim := { program := "ytcmhacecnahfoaa", sum := "3cd031025300a222b8e1c694608b53262cba3a6997dd208fba3f8037b3e8046c", func := "lintel/lintellaw05.MontNil", spec := "montNil", unfollowed := true, recurses := true, apart := false }
def MontNilSaid : Prop := montNilRow.holds Try.pinned (OpenSpec.ofChange montNilSpec)

/-- ITS FALSE NEIGHBOUR: 'it returns false'. Refute it at one input. -/
def montNilWrong : ChangeSpec := { name := "montNil", fn := fun _ => fun
  | [d1, d2] => { results := [.lit (.bool false)], args := [d1, d2] }
  | _ => none }
def MontNilWrongFalsely : Prop := montNilRow.holds Try.pinned (OpenSpec.ofChange montNilWrong)

/-- 'lintellaw05.MontSmall': WHATEVER THE INPUT: true; the input reads as it did. -/
def montSmallSpec : ChangeSpec := { name := "montSmall", fn := fun _ => fun
  | [d1, d2, d3, d4] => { results := [.lit (.bool true)], args := [d1, d2, d3, d4] }
  | _ => none }
def montSmallRow : OpenClaim := { program := "ytcmhacecnahfoaa", sum := "3cd031025300a222b8e1c694608b53262cba3a6997dd208fba3f8037b3e8046c", func := "lintel/lintellaw05.MontSmall", spec := "montSmall", unfollowed := true, recurses := true, apart := false }
def MontSmallSaid : Prop := montSmallRow.holds Try.pinned (OpenSpec.ofChange montSmallSpec)

/-- ITS FALSE NEIGHBOUR: 'it returns false'. Refute it at one input. -/
def montSmallWrong : ChangeSpec := { name := "montSmall", fn := fun _ => fun
  | [d1, d2, d3, d4] => { results := [.lit (.bool false)], args := [d1, d2, d3, d4] }
  | _ => none }
def MontSmallWrongFalsely : Prop := montSmallRow.holds Try.pinned (OpenSpec.ofChange montSmallWrong)

/-- 'lintellaw05.MontPrimes': WHATEVER THE INPUT: true; the input reads as it did. -/
def montPrimesSpec : ChangeSpec := { name := "montPrimes", fn := fun _ => fun
  | [d1, d2] => { results := [.lit (.bool true)], args := [d1, d2] }
  | _ => none }
def montPrimesRow : OpenClaim := { program := "ytcmhacecnahfoaa", sum := "3cd031025300a222b8e1c694608b53262cba3a6997dd208fba3f8037b3e8046c", func := "lintel/lintellaw05.MontPrimes", spec := "montPrimes", unfollowed := true, recurses := true, apart := false }
def MontPrimesSaid : Prop := montPrimesRow.holds Try.pinned (OpenSpec.ofChange montPrimesSpec)

/-- ITS FALSE NEIGHBOUR: 'it returns false'. Refute it at one input. -/
def montPrimesWrong : ChangeSpec := { name := "montPrimes", fn := fun _ => fun
  | [d1, d2] => { results := [.lit (.bool false)], args := [d1, d2] }
  | _ => none }
def MontPrimesWrongFalsely : Prop := montPrimesRow.holds Try.pinned (OpenSpec.ofChange montPrimesWrong)

/- THE SECOND FORM. 'bulk': how many values and letters a reading holds, each counted each time it is reached (what is shared counts as often as it is met; a slice's spare places count too). A statement '..UptoSaid' is the law's where the arguments, and the package variables that the reading takes, are together of bulk at most 1048576: NARROWER than '..Said'. Prove '..Said' where nothing that the law and all that it calls make is longer than what came in: it says more and counts as full. Else prove '..UptoSaid'. A law counts once. -/
mutual
def uptoBulk {H : Type} : DataW H → Nat
  | .lit (.string bytes) => bytes.length + 1
  | .lit _ => 1
  | .nil => 1
  | .ptr d => uptoBulk d + 1
  | .slice elems spare => uptoBulkAll elems + uptoBulkAll spare + 1
  | .agg parts => uptoBulkAll parts + 1
  | .iface _ d => uptoBulk d + 1
  | .map entries => uptoBulkEntries entries + 1
  | .held _ => 1
def uptoBulkAll {H : Type} : List (DataW H) → Nat
  | [] => 0
  | d :: r => uptoBulk d + uptoBulkAll r
def uptoBulkEntries {H : Type} : List (Lit × DataW H) → Nat
  | [] => 0
  | x :: r => uptoBulkEntry x + uptoBulkEntries r
def uptoBulkEntry {H : Type} : Lit × DataW H → Nat
  | (.string bytes, d) => bytes.length + uptoBulk d + 1
  | (_, d) => uptoBulk d + 1
 end
def uptoSmall : (H : Type) → List (DataW H) → Bool := fun _ ds => decide (uptoBulkAll ds ≤ 1048576)
def OpenSpec.upto (s : _root_.Go.ChangeSpec) : _root_.Go.OpenSpec := { _root_.Go.OpenSpec.ofChange s with cond := some uptoSmall }

/-- 'lintellaw05.MontReckons', WHERE WHAT IT READS IS OF BULK AT MOST 1048576: true; the input reads as it did. -/
def montReckonsUptoRow : OpenClaim := { program := "ytcmhacecnahfoaa", sum := "3cd031025300a222b8e1c694608b53262cba3a6997dd208fba3f8037b3e8046c", func := "lintel/lintellaw05.MontReckons", spec := "montReckons", unfollowed := true, recurses := true, apart := false, narrowed := true }
def MontReckonsUptoSaid : Prop := montReckonsUptoRow.holds Try.pinned (OpenSpec.upto montReckonsSpec)

/-- 'lintellaw05.MontPowers', WHERE WHAT IT READS IS OF BULK AT MOST 1048576: true; the input reads as it did. -/
def montPowersUptoRow : OpenClaim := { program := "ytcmhacecnahfoaa", sum := "3cd031025300a222b8e1c694608b53262cba3a6997dd208fba3f8037b3e8046c", func := "lintel/lintellaw05.MontPowers", spec := "montPowers", unfollowed := true, recurses := true, apart := false, narrowed := true }
def MontPowersUptoSaid : Prop := montPowersUptoRow.holds Try.pinned (OpenSpec.upto montPowersSpec)

/-- 'lintellaw05.MontNil', WHERE WHAT IT READS IS OF BULK AT MOST 1048576: true; the input reads as it did. -/
def montNilUptoRow : OpenClaim := { program := "ytcmhacecnahfoaa", sum := "3cd031025300a222b8e1c694608b53262cba3a6997dd208fba3f8037b3e8046c", func := "lintel/lintellaw05.MontNil", spec := "montNil", unfollowed := true, recurses := true, apart := false, narrowed := true }
def MontNilUptoSaid : Prop := montNilUptoRow.holds Try.pinned (OpenSpec.upto montNilSpec)

/-- 'lintellaw05.MontSmall', WHERE WHAT IT READS IS OF BULK AT MOST 1048576: true; the input reads as it did. -/
def montSmallUptoRow : OpenClaim := { program := "ytcmhacecnahfoaa", sum := "3cd031025300a222b8e1c694608b53262cba3a6997dd208fba3f8037b3e8046c", func := "lintel/lintellaw05.MontSmall", spec := "montSmall", unfollowed := true, recurses := true, apart := false, narrowed := true }
def MontSmallUptoSaid : Prop := montSmallUptoRow.holds Try.pinned (OpenSpec.upto montSmallSpec)

/-- 'lintellaw05.MontPrimes', WHERE WHAT IT READS IS OF BULK AT MOST 1048576: true; the input reads as it did. -/
def montPrimesUptoRow : OpenClaim := { program := "ytcmhacecnahfoaa", sum := "3cd031025300a222b8e1c694608b53262cba3a6997dd208fba3f8037b3e8046c", func := "lintel/lintellaw05.MontPrimes", spec := "montPrimes", unfollowed := true, recurses := true, apart := false, narrowed := true }
def MontPrimesUptoSaid : Prop := montPrimesUptoRow.holds Try.pinned (OpenSpec.upto montPrimesSpec)

end Rows
end Go.Proofs.Ytcmhacecnahfoaa
