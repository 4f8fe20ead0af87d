/-
  crc: Sum (for seats that have no law of stage 2).
-/
import Derived.Test.YtkajlbdiofobcaaDoorCrcA
namespace Go.Proofs.YtkajlbdiofobcaaDoor
open Go.RowKit Go
set_option linter.unusedVariables false
theorem wv0 : wv 0#32 = .int .u32 0 := rfl
theorem sum_any (A : Option Addr) (n c : Nat) (bs : List UInt8) (w : World) (ht : Tab w) (hb : RB w A n bs) (hn : n ≤ 9223372036854775807) :
    Calls Tryd.prog 56 #[.slice A n c] w fun e w' => e = .returned (wv (ext 0#32 bs)) ∧ w = w' := by
  have H := Lib.hid (extend_any 0#32 A n c bs w ht hb hn)
  rw [wv0] at H
  go_enter Tryd.func56, Tryd.ntmps56
  go_wp2_with fail
  refine H.out.mono ?_
  rintro e w' ⟨rfl, rfl⟩
  go_wp2
  go_ret
  exact ⟨rfl, rfl⟩
end Go.Proofs.YtkajlbdiofobcaaDoor
