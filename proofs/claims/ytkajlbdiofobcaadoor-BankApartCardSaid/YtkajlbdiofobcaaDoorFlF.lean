/-
  flash: what is done with no flash; the statement FlashNil.
-/
import Derived.Test.YtkajlbdiofobcaaDoorFlE
import Derived.Lib.SmallJoins
import Derived.OpenShut
import Derived.Deep.Slices
import Derived.Deep.MidRow
import Derived.MakeChecks
import Derived.WalkSpells
import Derived.Outline
import Derived.WalkLawsBesides
namespace Go.Proofs.YtkajlbdiofobcaaDoor
open Go.RowKit Go
set_option linter.unusedVariables false
set_option linter.unusedSimpArgs false
set_option maxRecDepth 100000
section
open Go.ChangeShapes Go.WideShapes Go.ChangeAt Go.Joins
theorem slice_of {H : Type} {enc : TypeId × Value → H} {W : World} {base n : Nat} {sp : Nat → Bool} {c : Value} {x : DataW H × List MemPlace} (h : DataW.trod enc Tryd.prog W base sp true n 22 [c] = some x) : ∃ A n k, c = Value.slice A n k := by
  rcases DataW.trod_slice Tryd.underlying22 h with ⟨e, _⟩ | ⟨a, l, k, _, _, _, _, e, _⟩
  · injection e with e _; exact ⟨_, _, _, e⟩
  · injection e with e _; exact ⟨_, _, _, e⟩
end
/-- lintellaw07.Op, as the model holds it. -/
structure FOp where
  kd : Int
  p : Int
  m : Int
  Xb : Option Addr
  nb : Nat
  cb : Nat
  bb : List UInt8
def FOp.cells (o : FOp) : Array Value := #[.int .i64 o.kd, .int .i64 o.p, .int .i64 o.m, .slice o.Xb o.nb o.cb]
def FOp.val (o : FOp) : Value := .agg o.cells
structure IsFOp (w : World) (o : FOp) : Prop where
  kd : -9223372036854775808 ≤ o.kd ∧ o.kd ≤ 9223372036854775807
  p : -9223372036854775808 ≤ o.p ∧ o.p ≤ 9223372036854775807
  m : -9223372036854775808 ≤ o.m ∧ o.m ≤ 9223372036854775807
  b : IsBs w o.Xb o.nb o.cb o.bb
section
open Go.ChangeShapes Go.WideShapes Go.ChangeAt Go.Joins
end
end Go.Proofs.YtkajlbdiofobcaaDoor
