/-
  nat: how many bits a limb has: the library's own contracts at this program, and what they come to.
-/
import Derived.Shelf.Small.Bits
import Derived.Test.YtcmhacecnahfoaaProg
import Derived.Test.YtcmhacecnahfoaaNd
namespace Go.Proofs.Ytcmhacecnahfoaa
open Go.Shelf Go.RowKit Go
set_option linter.unusedVariables false
def lays128_ren : Go.Shelf.Ren := ⟨fun | 128 => 49 | n => n, fun | 51 => 31 | 3 => 3 | 4 => 4 | 46 => 57 | 5 => 5 | 9 => 9 | n => n, fun | n => n⟩
theorem lays128 : Go.Proofs.Lays.n128 Try.prog lays128_ren := {
  mixed := by kernel_rfl
  f128 := Try.func49.trans (congrArg some (by kernel_rfl))
  t3 := Try.underlying3
  a3 := Try.isAgg3
  z3 := Try.sizeOf3
  v3 := Try.zeroValue3
  t4 := Try.underlying4
  a4 := Try.isAgg4
  z4 := Try.sizeOf4
  v4 := Try.zeroValue4
  t5 := Try.underlying5
  a5 := Try.isAgg5
  z5 := Try.sizeOf5
  v5 := Try.zeroValue5
  t9 := Try.underlying9
  a9 := Try.isAgg9
  z9 := Try.sizeOf9
  v9 := Try.zeroValue9
  t46 := Try.underlying57
  a46 := Try.isAgg57
  z46 := Try.sizeOf57
  v46 := Try.zeroValue57
  t51 := Try.underlying31
  a51 := Try.isAgg31
  z51 := Try.sizeOf31
  v51 := Try.zeroValue31 }
def lays133_ren : Go.Shelf.Ren := ⟨fun | 133 => 35 | 128 => 49 | n => n, fun | 51 => 31 | 3 => 3 | 4 => 4 | 46 => 57 | 5 => 5 | 9 => 9 | n => n, fun | n => n⟩
theorem lays133 : Go.Proofs.Lays.n133 Try.prog lays133_ren := {
  mixed := by kernel_rfl
  f128 := Try.func49.trans (congrArg some (by kernel_rfl))
  f133 := Try.func35.trans (congrArg some (by kernel_rfl))
  t3 := Try.underlying3
  a3 := Try.isAgg3
  z3 := Try.sizeOf3
  v3 := Try.zeroValue3
  t4 := Try.underlying4
  a4 := Try.isAgg4
  z4 := Try.sizeOf4
  v4 := Try.zeroValue4
  t5 := Try.underlying5
  a5 := Try.isAgg5
  z5 := Try.sizeOf5
  v5 := Try.zeroValue5
  t9 := Try.underlying9
  a9 := Try.isAgg9
  z9 := Try.sizeOf9
  v9 := Try.zeroValue9
  t46 := Try.underlying57
  a46 := Try.isAgg57
  z46 := Try.sizeOf57
  v46 := Try.zeroValue57
  t51 := Try.underlying31
  a51 := Try.isAgg31
  z51 := Try.sizeOf31
  v51 := Try.zeroValue31 }
theorem bitsN_half (x : Nat) (h : x ≠ 0) : bitsN x = 1 + bitsN (x / 2) := by
  by_cases h2 : x / 2 = 0
  · have : x = 1 := by omega
    subst this
    decide
  · have h3 := Nat.log2_self_le h2
    have h4 := @Nat.lt_log2_self (x / 2)
    rw [show bitsN (x / 2) = Nat.log2 (x / 2) + 1 from by unfold bitsN; rw [if_neg h2]]
    rw [Nat.add_comm 1]
    refine bits_of x _ ?_ ?_
    · rw [Nat.pow_succ]; omega
    · rw [Nat.pow_succ]; omega
theorem bitLenAux_eq : ∀ (f x : Nat), x < 2 ^ f → Lib.bitLenAux f x = bitsN x
  | 0, x, h => by
    have : x = 0 := by simpa using h
    subst this
    rfl
  | f + 1, x, h => by
    rw [Lib.bitLenAux]
    by_cases hx : x = 0
    · subst hx; rfl
    · rw [if_neg hx, bitLenAux_eq f (x / 2) (by rw [Nat.pow_succ] at h; omega), bitsN_half x hx]
theorem bitLen_eq (x : Nat) (h : x < 4294967296) : Lib.bitLen x = bitsN x := bitLenAux_eq 64 x (by omega)
theorem len32_any (x : Nat) (hx : x < 4294967296) (w : World) : Calls Try.prog 49 #[.int .u32 (x : Int)] w fun e w' => e = .returned (.int .i64 (bitsN x : Nat)) ∧ w = w' := by
  refine (Any.bits_Len32 lays128 (x : Int) w (by omega) (by omega)).mono ?_
  rintro e w' ⟨rfl, rfl⟩
  rw [Int.toNat_natCast, bitLen_eq x hx]
  exact ⟨rfl, rfl⟩
theorem lead32_any (x : Nat) (hx : x < 4294967296) (w : World) : Calls Try.prog 35 #[.int .u32 (x : Int)] w fun e w' => e = .returned (.int .i64 ((32 - bitsN x : Nat) : Int)) ∧ w = w' := by
  refine (Any.bits_LeadingZeros32 lays133 (x : Int) w (by omega) (by omega)).mono ?_
  rintro e w' ⟨rfl, rfl⟩
  have h1 : bitsN x ≤ 32 := (bits_le x 32).2 hx
  rw [Int.toNat_natCast, bitLen_eq x hx, show ((32 - bitsN x : Nat) : Int) = 32 - (bitsN x : Int) by omega]
  exact ⟨rfl, rfl⟩
end Go.Proofs.Ytcmhacecnahfoaa
