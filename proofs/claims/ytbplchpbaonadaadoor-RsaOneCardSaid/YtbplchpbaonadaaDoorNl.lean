/-
  nat: how many bits a limb has: the library's own contracts at this program, and what they come to.
-/
import Derived.Shelf.Small.Bits
import Derived.Test.YtbplchpbaonadaaDoorProg
import Derived.Test.YtbplchpbaonadaaDoorNd
namespace Go.Proofs.YtbplchpbaonadaaDoor
open Go.Shelf Go.RowKit Go
set_option linter.unusedVariables false
def lays128_ren : Go.Shelf.Ren := ⟨fun | 128 => 72 | n => n, fun | 51 => 59 | 3 => 3 | 4 => 4 | 46 => 40 | 5 => 5 | 9 => 9 | n => n, fun | n => n⟩
theorem lays128 : Go.Proofs.Lays.n128 Tryd.prog lays128_ren := {
  mixed := by kernel_rfl
  f128 := Tryd.func72.trans (congrArg some (by kernel_rfl))
  t3 := Tryd.underlying3
  a3 := Tryd.isAgg3
  z3 := Tryd.sizeOf3
  v3 := Tryd.zeroValue3
  t4 := Tryd.underlying4
  a4 := Tryd.isAgg4
  z4 := Tryd.sizeOf4
  v4 := Tryd.zeroValue4
  t5 := Tryd.underlying5
  a5 := Tryd.isAgg5
  z5 := Tryd.sizeOf5
  v5 := Tryd.zeroValue5
  t9 := Tryd.underlying9
  a9 := Tryd.isAgg9
  z9 := Tryd.sizeOf9
  v9 := Tryd.zeroValue9
  t46 := Tryd.underlying40
  a46 := Tryd.isAgg40
  z46 := Tryd.sizeOf40
  v46 := Tryd.zeroValue40
  t51 := Tryd.underlying59
  a51 := Tryd.isAgg59
  z51 := Tryd.sizeOf59
  v51 := Tryd.zeroValue59 }
def lays133_ren : Go.Shelf.Ren := ⟨fun | 133 => 63 | 128 => 72 | n => n, fun | 51 => 59 | 3 => 3 | 4 => 4 | 46 => 40 | 5 => 5 | 9 => 9 | n => n, fun | n => n⟩
theorem lays133 : Go.Proofs.Lays.n133 Tryd.prog lays133_ren := {
  mixed := by kernel_rfl
  f128 := Tryd.func72.trans (congrArg some (by kernel_rfl))
  f133 := Tryd.func63.trans (congrArg some (by kernel_rfl))
  t3 := Tryd.underlying3
  a3 := Tryd.isAgg3
  z3 := Tryd.sizeOf3
  v3 := Tryd.zeroValue3
  t4 := Tryd.underlying4
  a4 := Tryd.isAgg4
  z4 := Tryd.sizeOf4
  v4 := Tryd.zeroValue4
  t5 := Tryd.underlying5
  a5 := Tryd.isAgg5
  z5 := Tryd.sizeOf5
  v5 := Tryd.zeroValue5
  t9 := Tryd.underlying9
  a9 := Tryd.isAgg9
  z9 := Tryd.sizeOf9
  v9 := Tryd.zeroValue9
  t46 := Tryd.underlying40
  a46 := Tryd.isAgg40
  z46 := Tryd.sizeOf40
  v46 := Tryd.zeroValue40
  t51 := Tryd.underlying59
  a51 := Tryd.isAgg59
  z51 := Tryd.sizeOf59
  v51 := Tryd.zeroValue59 }
theorem bitsN_half (x : Nat) (h : x ≠ 0) : bitsN x = 1 + bitsN (x / 2) := by
  by_cases h2 : x / 2 = 0
  · have : x = 1 := by omega
    subst this
    decide
  · have h3 := Nat.log2_self_le h2
    have h4 := @Nat.lt_log2_self (x / 2)
    rw [show bitsN (x / 2) = Nat.log2 (x / 2) + 1 from by unfold bitsN; rw [if_neg h2]]
    rw [Nat.add_comm 1]
    refine bits_of x _ ?_ ?_
    · rw [Nat.pow_succ]; omega
    · rw [Nat.pow_succ]; omega
theorem bitLenAux_eq : ∀ (f x : Nat), x < 2 ^ f → Lib.bitLenAux f x = bitsN x
  | 0, x, h => by
    have : x = 0 := by simpa using h
    subst this
    rfl
  | f + 1, x, h => by
    rw [Lib.bitLenAux]
    by_cases hx : x = 0
    · subst hx; rfl
    · rw [if_neg hx, bitLenAux_eq f (x / 2) (by rw [Nat.pow_succ] at h; omega), bitsN_half x hx]
theorem bitLen_eq (x : Nat) (h : x < 4294967296) : Lib.bitLen x = bitsN x := bitLenAux_eq 64 x (by omega)
theorem len32_any (x : Nat) (hx : x < 4294967296) (w : World) : Calls Tryd.prog 72 #[.int .u32 (x : Int)] w fun e w' => e = .returned (.int .i64 (bitsN x : Nat)) ∧ w = w' := by
  refine (Any.bits_Len32 lays128 (x : Int) w (by omega) (by omega)).mono ?_
  rintro e w' ⟨rfl, rfl⟩
  rw [Int.toNat_natCast, bitLen_eq x hx]
  exact ⟨rfl, rfl⟩
theorem lead32_any (x : Nat) (hx : x < 4294967296) (w : World) : Calls Tryd.prog 63 #[.int .u32 (x : Int)] w fun e w' => e = .returned (.int .i64 ((32 - bitsN x : Nat) : Int)) ∧ w = w' := by
  refine (Any.bits_LeadingZeros32 lays133 (x : Int) w (by omega) (by omega)).mono ?_
  rintro e w' ⟨rfl, rfl⟩
  have h1 : bitsN x ≤ 32 := (bits_le x 32).2 hx
  rw [Int.toNat_natCast, bitLen_eq x hx, show ((32 - bitsN x : Nat) : Int) = 32 - (bitsN x : Int) by omega]
  exact ⟨rfl, rfl⟩
end Go.Proofs.YtbplchpbaonadaaDoor
