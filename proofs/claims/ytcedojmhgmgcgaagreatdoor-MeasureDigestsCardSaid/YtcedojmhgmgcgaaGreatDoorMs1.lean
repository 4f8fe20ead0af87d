/-
  sha: the arithmetic of words.
-/
import Derived.Test.YtcedojmhgmgcgaaGreatDoorRef
import Derived.Shelf.Bits.Mul64
import Derived.Laws.BitsAllLaws
import Derived.Test.YtcedojmhgmgcgaaGreatDoorSg
import Derived.Test.YtcedojmhgmgcgaaGreatDoorRow
import Derived.Laws.Tables
import Derived.Laws.CopyOwn
import Derived.BigRegion
import Derived.Deep.RegionHeld3
import Derived.Deep.QuietTactic
import Derived.BigQuiet
import Derived.Great.BuildSlice
namespace Go.Proofs.YtcedojmhgmgcgaaGreatDoor
open Go.RowKit Go
set_option linter.unusedVariables false
set_option linter.unusedSimpArgs false
set_option maxRecDepth 100000
set_option maxHeartbeats 1000000 in
theorem mul64_any (x y : Nat) (hx : x < 18446744073709551616) (hy : y < 18446744073709551616) (w : World) :
    Calls Tryz.prog 79 #[.int .u64 x, .int .u64 y] w fun e w' => e = .returned (.tuple #[.int .u64 ((x * y / 18446744073709551616 : Nat) : Int), .int .u64 ((x * y % 18446744073709551616 : Nat) : Int)]) ∧ w = w' := by
  obtain ⟨bd, bt, bw, hhi⟩ := Lib.mul64_hi x y hx hy
  have ba := Lib.half_mul_le (a := x / 4294967296) (b := y / 4294967296) (by omega) (by omega)
  have bb := Lib.half_mul_le (a := x / 4294967296) (b := y % 4294967296) (by omega) (by omega)
  have bc := Lib.half_mul_le (a := x % 4294967296) (b := y / 4294967296) (by omega) (by omega)
  have ba' : x / 4294967296 * (y / 4294967296) < 18446744073709551616 := by omega
  have bb' : x / 4294967296 * (y % 4294967296) < 18446744073709551616 := by omega
  have bc' : x % 4294967296 * (y / 4294967296) < 18446744073709551616 := by omega
  have bh1 : x / 4294967296 * (y / 4294967296) + (x / 4294967296 * (y % 4294967296) + x % 4294967296 * (y % 4294967296) / 4294967296) / 4294967296 < 18446744073709551616 := by omega
  have bh : x / 4294967296 * (y / 4294967296) + (x / 4294967296 * (y % 4294967296) + x % 4294967296 * (y % 4294967296) / 4294967296) / 4294967296 + ((x / 4294967296 * (y % 4294967296) + x % 4294967296 * (y % 4294967296) / 4294967296) % 4294967296 + x % 4294967296 * (y / 4294967296)) / 4294967296 < 18446744073709551616 := by omega
  go_enter Tryz.func79, Tryz.ntmps79
  go_wp2
  simp only [Mul64.maskN x hx, Mul64.maskN y hy, Mul64.divN, Mul64.mulN, Mul64.addN, Mul64.wrapN _ bd, Mul64.wrapN _ bb', Mul64.wrapN _ bt, Mul64.maskN _ bt, Mul64.wrapN _ bc', Mul64.wrapN _ bw, Mul64.wrapN _ ba', Mul64.wrapN _ bh1, Mul64.wrapN _ bh, Mul64.wrapM (x * y)]
  rw [hhi]
  go_ret2
  exact ⟨rfl, rfl⟩
/-- A word whose bits go round to the right. -/
def rotr (x n : Nat) : Nat := (x * 2 ^ (32 - n) % 4294967296) ||| (x / 2 ^ n)
theorem rotr_lt (x n : Nat) (hx : x < 4294967296) : rotr x n < 4294967296 := by
  unfold rotr
  have h2 : x / 2 ^ n < 2 ^ 32 := Nat.lt_of_le_of_lt (Nat.div_le_self _ _) hx
  have h1 : x * 2 ^ (32 - n) % 4294967296 < 2 ^ 32 := Nat.mod_lt _ (by decide)
  exact Nat.or_lt_two_pow h1 h2
theorem rot_2 (x : Nat) (hx : x < 4294967296) (w : World) :
    Calls Tryz.prog 61 #[.int .u32 x, .int .i64 2] w fun e w' => e = .returned (.int .u32 (rotr x 2 : Nat)) ∧ w = w' := by
  have hr : bits .or .u32 ((x : Int) * 1073741824 % 4294967296) ((x : Int) / 4) = ((rotr x 2 : Nat) : Int) := by
    have e1 : (x : Int) * 1073741824 % 4294967296 = ((x * 2 ^ (32 - 2) % 4294967296 : Nat) : Int) := by omega
    have e2 : (x : Int) / 4 = ((x / 2 ^ 2 : Nat) : Int) := by omega
    rw [e1, e2, u32_or_nat _ _ (Nat.mod_lt _ (by decide)) (by omega)]
    rfl
  have C : Hid (Calls Tryz.prog 81 #[.int .u32 x, .int .i64 (-2)] w fun e w' => e = .returned (.int .u32 (rotr x 2 : Nat)) ∧ w = w') := by
    have hk : bits BinOp.and IntKind.u64 (IntKind.u64.wrap (-2)) 31 = 30 := by decide
    have hk2 : bits BinOp.and IntKind.u64 18446744073709551614 31 = 30 := by decide
    go_enter Tryz.func81, Tryz.ntmps81
    go_wp2
    go_ret
    exact ⟨rfl, rfl⟩
  clear hr
  go_enter Tryz.func61, Tryz.ntmps61
  go_wp2_with fail
  refine C.out.mono ?_
  rintro e w' ⟨rfl, rfl⟩
  go_wp2
  go_ret
  exact ⟨rfl, rfl⟩
theorem rot_6 (x : Nat) (hx : x < 4294967296) (w : World) :
    Calls Tryz.prog 61 #[.int .u32 x, .int .i64 6] w fun e w' => e = .returned (.int .u32 (rotr x 6 : Nat)) ∧ w = w' := by
  have hr : bits .or .u32 ((x : Int) * 67108864 % 4294967296) ((x : Int) / 64) = ((rotr x 6 : Nat) : Int) := by
    have e1 : (x : Int) * 67108864 % 4294967296 = ((x * 2 ^ (32 - 6) % 4294967296 : Nat) : Int) := by omega
    have e2 : (x : Int) / 64 = ((x / 2 ^ 6 : Nat) : Int) := by omega
    rw [e1, e2, u32_or_nat _ _ (Nat.mod_lt _ (by decide)) (by omega)]
    rfl
  have C : Hid (Calls Tryz.prog 81 #[.int .u32 x, .int .i64 (-6)] w fun e w' => e = .returned (.int .u32 (rotr x 6 : Nat)) ∧ w = w') := by
    have hk : bits BinOp.and IntKind.u64 (IntKind.u64.wrap (-6)) 31 = 26 := by decide
    have hk2 : bits BinOp.and IntKind.u64 18446744073709551610 31 = 26 := by decide
    go_enter Tryz.func81, Tryz.ntmps81
    go_wp2
    go_ret
    exact ⟨rfl, rfl⟩
  clear hr
  go_enter Tryz.func61, Tryz.ntmps61
  go_wp2_with fail
  refine C.out.mono ?_
  rintro e w' ⟨rfl, rfl⟩
  go_wp2
  go_ret
  exact ⟨rfl, rfl⟩
theorem rot_7 (x : Nat) (hx : x < 4294967296) (w : World) :
    Calls Tryz.prog 61 #[.int .u32 x, .int .i64 7] w fun e w' => e = .returned (.int .u32 (rotr x 7 : Nat)) ∧ w = w' := by
  have hr : bits .or .u32 ((x : Int) * 33554432 % 4294967296) ((x : Int) / 128) = ((rotr x 7 : Nat) : Int) := by
    have e1 : (x : Int) * 33554432 % 4294967296 = ((x * 2 ^ (32 - 7) % 4294967296 : Nat) : Int) := by omega
    have e2 : (x : Int) / 128 = ((x / 2 ^ 7 : Nat) : Int) := by omega
    rw [e1, e2, u32_or_nat _ _ (Nat.mod_lt _ (by decide)) (by omega)]
    rfl
  have C : Hid (Calls Tryz.prog 81 #[.int .u32 x, .int .i64 (-7)] w fun e w' => e = .returned (.int .u32 (rotr x 7 : Nat)) ∧ w = w') := by
    have hk : bits BinOp.and IntKind.u64 (IntKind.u64.wrap (-7)) 31 = 25 := by decide
    have hk2 : bits BinOp.and IntKind.u64 18446744073709551609 31 = 25 := by decide
    go_enter Tryz.func81, Tryz.ntmps81
    go_wp2
    go_ret
    exact ⟨rfl, rfl⟩
  clear hr
  go_enter Tryz.func61, Tryz.ntmps61
  go_wp2_with fail
  refine C.out.mono ?_
  rintro e w' ⟨rfl, rfl⟩
  go_wp2
  go_ret
  exact ⟨rfl, rfl⟩
theorem rot_11 (x : Nat) (hx : x < 4294967296) (w : World) :
    Calls Tryz.prog 61 #[.int .u32 x, .int .i64 11] w fun e w' => e = .returned (.int .u32 (rotr x 11 : Nat)) ∧ w = w' := by
  have hr : bits .or .u32 ((x : Int) * 2097152 % 4294967296) ((x : Int) / 2048) = ((rotr x 11 : Nat) : Int) := by
    have e1 : (x : Int) * 2097152 % 4294967296 = ((x * 2 ^ (32 - 11) % 4294967296 : Nat) : Int) := by omega
    have e2 : (x : Int) / 2048 = ((x / 2 ^ 11 : Nat) : Int) := by omega
    rw [e1, e2, u32_or_nat _ _ (Nat.mod_lt _ (by decide)) (by omega)]
    rfl
  have C : Hid (Calls Tryz.prog 81 #[.int .u32 x, .int .i64 (-11)] w fun e w' => e = .returned (.int .u32 (rotr x 11 : Nat)) ∧ w = w') := by
    have hk : bits BinOp.and IntKind.u64 (IntKind.u64.wrap (-11)) 31 = 21 := by decide
    have hk2 : bits BinOp.and IntKind.u64 18446744073709551605 31 = 21 := by decide
    go_enter Tryz.func81, Tryz.ntmps81
    go_wp2
    go_ret
    exact ⟨rfl, rfl⟩
  clear hr
  go_enter Tryz.func61, Tryz.ntmps61
  go_wp2_with fail
  refine C.out.mono ?_
  rintro e w' ⟨rfl, rfl⟩
  go_wp2
  go_ret
  exact ⟨rfl, rfl⟩
theorem rot_13 (x : Nat) (hx : x < 4294967296) (w : World) :
    Calls Tryz.prog 61 #[.int .u32 x, .int .i64 13] w fun e w' => e = .returned (.int .u32 (rotr x 13 : Nat)) ∧ w = w' := by
  have hr : bits .or .u32 ((x : Int) * 524288 % 4294967296) ((x : Int) / 8192) = ((rotr x 13 : Nat) : Int) := by
    have e1 : (x : Int) * 524288 % 4294967296 = ((x * 2 ^ (32 - 13) % 4294967296 : Nat) : Int) := by omega
    have e2 : (x : Int) / 8192 = ((x / 2 ^ 13 : Nat) : Int) := by omega
    rw [e1, e2, u32_or_nat _ _ (Nat.mod_lt _ (by decide)) (by omega)]
    rfl
  have C : Hid (Calls Tryz.prog 81 #[.int .u32 x, .int .i64 (-13)] w fun e w' => e = .returned (.int .u32 (rotr x 13 : Nat)) ∧ w = w') := by
    have hk : bits BinOp.and IntKind.u64 (IntKind.u64.wrap (-13)) 31 = 19 := by decide
    have hk2 : bits BinOp.and IntKind.u64 18446744073709551603 31 = 19 := by decide
    go_enter Tryz.func81, Tryz.ntmps81
    go_wp2
    go_ret
    exact ⟨rfl, rfl⟩
  clear hr
  go_enter Tryz.func61, Tryz.ntmps61
  go_wp2_with fail
  refine C.out.mono ?_
  rintro e w' ⟨rfl, rfl⟩
  go_wp2
  go_ret
  exact ⟨rfl, rfl⟩
theorem rot_17 (x : Nat) (hx : x < 4294967296) (w : World) :
    Calls Tryz.prog 61 #[.int .u32 x, .int .i64 17] w fun e w' => e = .returned (.int .u32 (rotr x 17 : Nat)) ∧ w = w' := by
  have hr : bits .or .u32 ((x : Int) * 32768 % 4294967296) ((x : Int) / 131072) = ((rotr x 17 : Nat) : Int) := by
    have e1 : (x : Int) * 32768 % 4294967296 = ((x * 2 ^ (32 - 17) % 4294967296 : Nat) : Int) := by omega
    have e2 : (x : Int) / 131072 = ((x / 2 ^ 17 : Nat) : Int) := by omega
    rw [e1, e2, u32_or_nat _ _ (Nat.mod_lt _ (by decide)) (by omega)]
    rfl
  have C : Hid (Calls Tryz.prog 81 #[.int .u32 x, .int .i64 (-17)] w fun e w' => e = .returned (.int .u32 (rotr x 17 : Nat)) ∧ w = w') := by
    have hk : bits BinOp.and IntKind.u64 (IntKind.u64.wrap (-17)) 31 = 15 := by decide
    have hk2 : bits BinOp.and IntKind.u64 18446744073709551599 31 = 15 := by decide
    go_enter Tryz.func81, Tryz.ntmps81
    go_wp2
    go_ret
    exact ⟨rfl, rfl⟩
  clear hr
  go_enter Tryz.func61, Tryz.ntmps61
  go_wp2_with fail
  refine C.out.mono ?_
  rintro e w' ⟨rfl, rfl⟩
  go_wp2
  go_ret
  exact ⟨rfl, rfl⟩
theorem rot_18 (x : Nat) (hx : x < 4294967296) (w : World) :
    Calls Tryz.prog 61 #[.int .u32 x, .int .i64 18] w fun e w' => e = .returned (.int .u32 (rotr x 18 : Nat)) ∧ w = w' := by
  have hr : bits .or .u32 ((x : Int) * 16384 % 4294967296) ((x : Int) / 262144) = ((rotr x 18 : Nat) : Int) := by
    have e1 : (x : Int) * 16384 % 4294967296 = ((x * 2 ^ (32 - 18) % 4294967296 : Nat) : Int) := by omega
    have e2 : (x : Int) / 262144 = ((x / 2 ^ 18 : Nat) : Int) := by omega
    rw [e1, e2, u32_or_nat _ _ (Nat.mod_lt _ (by decide)) (by omega)]
    rfl
  have C : Hid (Calls Tryz.prog 81 #[.int .u32 x, .int .i64 (-18)] w fun e w' => e = .returned (.int .u32 (rotr x 18 : Nat)) ∧ w = w') := by
    have hk : bits BinOp.and IntKind.u64 (IntKind.u64.wrap (-18)) 31 = 14 := by decide
    have hk2 : bits BinOp.and IntKind.u64 18446744073709551598 31 = 14 := by decide
    go_enter Tryz.func81, Tryz.ntmps81
    go_wp2
    go_ret
    exact ⟨rfl, rfl⟩
  clear hr
  go_enter Tryz.func61, Tryz.ntmps61
  go_wp2_with fail
  refine C.out.mono ?_
  rintro e w' ⟨rfl, rfl⟩
  go_wp2
  go_ret
  exact ⟨rfl, rfl⟩
theorem rot_19 (x : Nat) (hx : x < 4294967296) (w : World) :
    Calls Tryz.prog 61 #[.int .u32 x, .int .i64 19] w fun e w' => e = .returned (.int .u32 (rotr x 19 : Nat)) ∧ w = w' := by
  have hr : bits .or .u32 ((x : Int) * 8192 % 4294967296) ((x : Int) / 524288) = ((rotr x 19 : Nat) : Int) := by
    have e1 : (x : Int) * 8192 % 4294967296 = ((x * 2 ^ (32 - 19) % 4294967296 : Nat) : Int) := by omega
    have e2 : (x : Int) / 524288 = ((x / 2 ^ 19 : Nat) : Int) := by omega
    rw [e1, e2, u32_or_nat _ _ (Nat.mod_lt _ (by decide)) (by omega)]
    rfl
  have C : Hid (Calls Tryz.prog 81 #[.int .u32 x, .int .i64 (-19)] w fun e w' => e = .returned (.int .u32 (rotr x 19 : Nat)) ∧ w = w') := by
    have hk : bits BinOp.and IntKind.u64 (IntKind.u64.wrap (-19)) 31 = 13 := by decide
    have hk2 : bits BinOp.and IntKind.u64 18446744073709551597 31 = 13 := by decide
    go_enter Tryz.func81, Tryz.ntmps81
    go_wp2
    go_ret
    exact ⟨rfl, rfl⟩
  clear hr
  go_enter Tryz.func61, Tryz.ntmps61
  go_wp2_with fail
  refine C.out.mono ?_
  rintro e w' ⟨rfl, rfl⟩
  go_wp2
  go_ret
  exact ⟨rfl, rfl⟩
theorem rot_22 (x : Nat) (hx : x < 4294967296) (w : World) :
    Calls Tryz.prog 61 #[.int .u32 x, .int .i64 22] w fun e w' => e = .returned (.int .u32 (rotr x 22 : Nat)) ∧ w = w' := by
  have hr : bits .or .u32 ((x : Int) * 1024 % 4294967296) ((x : Int) / 4194304) = ((rotr x 22 : Nat) : Int) := by
    have e1 : (x : Int) * 1024 % 4294967296 = ((x * 2 ^ (32 - 22) % 4294967296 : Nat) : Int) := by omega
    have e2 : (x : Int) / 4194304 = ((x / 2 ^ 22 : Nat) : Int) := by omega
    rw [e1, e2, u32_or_nat _ _ (Nat.mod_lt _ (by decide)) (by omega)]
    rfl
  have C : Hid (Calls Tryz.prog 81 #[.int .u32 x, .int .i64 (-22)] w fun e w' => e = .returned (.int .u32 (rotr x 22 : Nat)) ∧ w = w') := by
    have hk : bits BinOp.and IntKind.u64 (IntKind.u64.wrap (-22)) 31 = 10 := by decide
    have hk2 : bits BinOp.and IntKind.u64 18446744073709551594 31 = 10 := by decide
    go_enter Tryz.func81, Tryz.ntmps81
    go_wp2
    go_ret
    exact ⟨rfl, rfl⟩
  clear hr
  go_enter Tryz.func61, Tryz.ntmps61
  go_wp2_with fail
  refine C.out.mono ?_
  rintro e w' ⟨rfl, rfl⟩
  go_wp2
  go_ret
  exact ⟨rfl, rfl⟩
theorem rot_25 (x : Nat) (hx : x < 4294967296) (w : World) :
    Calls Tryz.prog 61 #[.int .u32 x, .int .i64 25] w fun e w' => e = .returned (.int .u32 (rotr x 25 : Nat)) ∧ w = w' := by
  have hr : bits .or .u32 ((x : Int) * 128 % 4294967296) ((x : Int) / 33554432) = ((rotr x 25 : Nat) : Int) := by
    have e1 : (x : Int) * 128 % 4294967296 = ((x * 2 ^ (32 - 25) % 4294967296 : Nat) : Int) := by omega
    have e2 : (x : Int) / 33554432 = ((x / 2 ^ 25 : Nat) : Int) := by omega
    rw [e1, e2, u32_or_nat _ _ (Nat.mod_lt _ (by decide)) (by omega)]
    rfl
  have C : Hid (Calls Tryz.prog 81 #[.int .u32 x, .int .i64 (-25)] w fun e w' => e = .returned (.int .u32 (rotr x 25 : Nat)) ∧ w = w') := by
    have hk : bits BinOp.and IntKind.u64 (IntKind.u64.wrap (-25)) 31 = 7 := by decide
    have hk2 : bits BinOp.and IntKind.u64 18446744073709551591 31 = 7 := by decide
    go_enter Tryz.func81, Tryz.ntmps81
    go_wp2
    go_ret
    exact ⟨rfl, rfl⟩
  clear hr
  go_enter Tryz.func61, Tryz.ntmps61
  go_wp2_with fail
  refine C.out.mono ?_
  rintro e w' ⟨rfl, rfl⟩
  go_wp2
  go_ret
  exact ⟨rfl, rfl⟩
end Go.Proofs.YtcedojmhgmgcgaaGreatDoor
namespace Go.Proofs.YtcedojmhgmgcgaaGreatDoor
open Go.RowKit Go
set_option linter.unusedVariables false
set_option linter.unusedSimpArgs false
set_option maxRecDepth 100000
/-- The greatest number below 2^35 that fits, from bit i down. -/
def srch (f : Nat → Bool) : Nat → Nat → Nat
  | 0, x => x
  | i + 1, x => srch f i (if f (x + 2 ^ i) then x + 2 ^ i else x)
theorem or_bit (x i : Nat) (h : x % 2 ^ (i + 1) = 0) (hx : x < 34359738368) (hi : i < 35) : bits .or .u64 (x : Int) ((2 ^ i : Nat) : Int) = ((x + 2 ^ i : Nat) : Int) := by
  have hp : 2 ^ i < 18446744073709551616 := Nat.lt_of_lt_of_le (Nat.pow_lt_pow_right (by decide) (show i < 64 by omega)) (by decide)
  rw [u64_or_nat _ _ (by omega) hp]
  have hm : x % 2 ^ (i + 1) = 0 := h
  have : x ||| 2 ^ i = x + 2 ^ i := by
    have e : x = 2 ^ (i + 1) * (x / 2 ^ (i + 1)) := by have := Nat.div_add_mod x (2 ^ (i + 1)); omega
    have h1 := Nat.two_pow_add_eq_or_of_lt (i := i + 1) (b := 2 ^ i) (Nat.pow_lt_pow_right (by decide) (Nat.lt_succ_self i)) (x / 2 ^ (i + 1))
    rw [← e] at h1
    exact h1.symm
  rw [this]
/-- A function that says whether a number fits, called in a world in which it reads only. -/
def FitsIn (F : FuncId) (caps : Array Value) (f : Nat → Bool) (w : World) : Prop := ∀ x : Nat, x < 34359738368 → Calls Tryz.prog F (#[.int .u64 (x : Int)] ++ caps) w fun e w' => e = .returned (.bool (f x)) ∧ w = w'
theorem bit_room (x j : Nat) (h : x % 2 ^ (j + 1) = 0) (hx : x < 34359738368) (hj : j < 35) : x + 2 ^ j < 34359738368 := by
  have e : x = 2 ^ (j + 1) * (x / 2 ^ (j + 1)) := by have := Nat.div_add_mod x (2 ^ (j + 1)); omega
  have e2 : 34359738368 = 2 ^ (j + 1) * 2 ^ (34 - j) := by rw [← Nat.pow_add, show j + 1 + (34 - j) = 35 by omega]
  have h1 : x / 2 ^ (j + 1) < 2 ^ (34 - j) := by
    rw [Nat.div_lt_iff_lt_mul (Nat.two_pow_pos _), Nat.mul_comm, ← e2]; exact hx
  have h2 : 2 ^ (j + 1) * (x / 2 ^ (j + 1) + 1) ≤ 2 ^ (j + 1) * 2 ^ (34 - j) := Nat.mul_le_mul_left _ h1
  rw [← e2, Nat.mul_add, ← e, Nat.mul_one] at h2
  have h3 : 2 ^ (j + 1) = 2 * 2 ^ j := by rw [Nat.pow_succ, Nat.mul_comm]
  have h4 := Nat.two_pow_pos j
  omega
theorem bit_next (x j : Nat) (h : x % 2 ^ (j + 1) = 0) : x % 2 ^ j = 0 ∧ (x + 2 ^ j) % 2 ^ j = 0 := by
  have e : x = 2 ^ (j + 1) * (x / 2 ^ (j + 1)) := by have := Nat.div_add_mod x (2 ^ (j + 1)); omega
  have h1 : x % 2 ^ j = 0 := by rw [e, Nat.pow_succ, Nat.mul_assoc, Nat.mul_mod_right]
  exact ⟨h1, by rw [Nat.add_mod_right]; exact h1⟩
theorem search_sq (p : Addr) (f : Nat → Bool) (w : World) (hf : FitsIn 78 #[.pointer (some p)] f w) :
    Calls Tryz.prog 77 #[.func (Fn.func 78) #[] #[.pointer (some p)]] w fun e w' => e = .returned (.int .u64 (srch f 35 0 : Nat)) ∧ w = w' := by
  have HF := Lib.hid hf
  clear hf
  go_enter Tryz.func77, Tryz.ntmps77
  go_wp2
  go_loop [3, 4] (fun vx vi => ∃ x i : Nat, vx = .int .u64 (x : Int) ∧ vi = .int .i64 ((i : Int) - 1) ∧ i ≤ 35 ∧ x < 34359738368 ∧ Hid (x % 2 ^ i = 0 ∧ srch f i x = srch f 35 0)) (fun _ vi => (intOf vi + 1).toNat)
  case atStart => exact ⟨0, 35, rfl, by go_num, Nat.le_refl _, by decide, Nat.zero_mod _, rfl⟩
  case round =>
    obtain ⟨x, i, rfl, rfl, hi, hx, HX⟩ := hrel
    by_cases h0 : i = 0
    · subst h0
      go_wp2
      go_ret
      exact ⟨by rw [← HX.out.2]; rfl, rfl⟩
    · obtain ⟨j, rfl⟩ : ∃ j, i = j + 1 := ⟨i - 1, by omega⟩
      have i1 : (0 : Int) ≤ (j : Int) := by omega
      have i2 : (j : Int) ≤ 64 := by omega
      obtain ⟨y, hy⟩ : ∃ y, x + 2 ^ j = y := ⟨_, rfl⟩
      have hyl : y < 34359738368 := by rw [← hy]; exact bit_room x j HX.out.1 hx (by omega)
      have hb : bits BinOp.or IntKind.u64 (x : Int) (IntKind.u64.wrap (2 ^ j)) = (y : Int) := by
        have hp : 2 ^ j < 18446744073709551616 := Nat.lt_of_lt_of_le (Nat.pow_lt_pow_right (by decide) (show j < 64 by omega)) (by decide)
        have e1 : ((2 : Int) ^ j) = ((2 ^ j : Nat) : Int) := by simp
        have e2 : IntKind.u64.wrap ((2 : Int) ^ j) = ((2 ^ j : Nat) : Int) := by
          rw [e1]
          generalize (2 ^ j : Nat) = P at hp ⊢
          rw [IntKind.wrap_u64]
          omega
        rw [e2, or_bit x j HX.out.1 hx (by omega), hy]
      have C := Lib.hid (HF.out y hyl)
      simp only [List.append_toArray, List.cons_append, List.nil_append] at C
      have HN : Hid (y % 2 ^ j = 0 ∧ x % 2 ^ j = 0 ∧ srch f (j + 1) x = srch f j (if f y then y else x)) := ⟨by rw [← hy]; exact (bit_next x j HX.out.1).2, (bit_next x j HX.out.1).1, by rw [← hy]; rfl⟩
      clear hy
      cases hfy : f y with
      | true =>
        rw [hfy] at C HN
        clear hfy
        go_wp2_with fail
        refine C.out.mono ?_
        rintro e w' ⟨rfl, rfl⟩
        clear hb
        go_wp2
        go_round
        case rel => exact ⟨y, j, rfl, by go_num, by omega, hyl, HN.out.1, by rw [← HX.out.2, HN.out.2.2]; rfl⟩
        case measure => (first | (simp [intOf]; done) | (simp [intOf]; omega))
      | false =>
        rw [hfy] at C HN
        clear hfy
        go_wp2_with fail
        refine C.out.mono ?_
        rintro e w' ⟨rfl, rfl⟩
        clear hb
        go_wp2
        go_round
        case rel => exact ⟨x, j, rfl, by go_num, by omega, hx, HN.out.2.1, by rw [← HX.out.2, HN.out.2.2]; rfl⟩
        case measure => (first | (simp [intOf]; done) | (simp [intOf]; omega))
theorem search_cb (p : Addr) (f : Nat → Bool) (w : World) (hf : FitsIn 80 #[.pointer (some p)] f w) :
    Calls Tryz.prog 77 #[.func (Fn.func 80) #[] #[.pointer (some p)]] w fun e w' => e = .returned (.int .u64 (srch f 35 0 : Nat)) ∧ w = w' := by
  have HF := Lib.hid hf
  clear hf
  go_enter Tryz.func77, Tryz.ntmps77
  go_wp2
  go_loop [3, 4] (fun vx vi => ∃ x i : Nat, vx = .int .u64 (x : Int) ∧ vi = .int .i64 ((i : Int) - 1) ∧ i ≤ 35 ∧ x < 34359738368 ∧ Hid (x % 2 ^ i = 0 ∧ srch f i x = srch f 35 0)) (fun _ vi => (intOf vi + 1).toNat)
  case atStart => exact ⟨0, 35, rfl, by go_num, Nat.le_refl _, by decide, Nat.zero_mod _, rfl⟩
  case round =>
    obtain ⟨x, i, rfl, rfl, hi, hx, HX⟩ := hrel
    by_cases h0 : i = 0
    · subst h0
      go_wp2
      go_ret
      exact ⟨by rw [← HX.out.2]; rfl, rfl⟩
    · obtain ⟨j, rfl⟩ : ∃ j, i = j + 1 := ⟨i - 1, by omega⟩
      have i1 : (0 : Int) ≤ (j : Int) := by omega
      have i2 : (j : Int) ≤ 64 := by omega
      obtain ⟨y, hy⟩ : ∃ y, x + 2 ^ j = y := ⟨_, rfl⟩
      have hyl : y < 34359738368 := by rw [← hy]; exact bit_room x j HX.out.1 hx (by omega)
      have hb : bits BinOp.or IntKind.u64 (x : Int) (IntKind.u64.wrap (2 ^ j)) = (y : Int) := by
        have hp : 2 ^ j < 18446744073709551616 := Nat.lt_of_lt_of_le (Nat.pow_lt_pow_right (by decide) (show j < 64 by omega)) (by decide)
        have e1 : ((2 : Int) ^ j) = ((2 ^ j : Nat) : Int) := by simp
        have e2 : IntKind.u64.wrap ((2 : Int) ^ j) = ((2 ^ j : Nat) : Int) := by
          rw [e1]
          generalize (2 ^ j : Nat) = P at hp ⊢
          rw [IntKind.wrap_u64]
          omega
        rw [e2, or_bit x j HX.out.1 hx (by omega), hy]
      have C := Lib.hid (HF.out y hyl)
      simp only [List.append_toArray, List.cons_append, List.nil_append] at C
      have HN : Hid (y % 2 ^ j = 0 ∧ x % 2 ^ j = 0 ∧ srch f (j + 1) x = srch f j (if f y then y else x)) := ⟨by rw [← hy]; exact (bit_next x j HX.out.1).2, (bit_next x j HX.out.1).1, by rw [← hy]; rfl⟩
      clear hy
      cases hfy : f y with
      | true =>
        rw [hfy] at C HN
        clear hfy
        go_wp2_with fail
        refine C.out.mono ?_
        rintro e w' ⟨rfl, rfl⟩
        clear hb
        go_wp2
        go_round
        case rel => exact ⟨y, j, rfl, by go_num, by omega, hyl, HN.out.1, by rw [← HX.out.2, HN.out.2.2]; rfl⟩
        case measure => (first | (simp [intOf]; done) | (simp [intOf]; omega))
      | false =>
        rw [hfy] at C HN
        clear hfy
        go_wp2_with fail
        refine C.out.mono ?_
        rintro e w' ⟨rfl, rfl⟩
        clear hb
        go_wp2
        go_round
        case rel => exact ⟨x, j, rfl, by go_num, by omega, hx, HN.out.2.1, by rw [← HX.out.2, HN.out.2.2]; rfl⟩
        case measure => (first | (simp [intOf]; done) | (simp [intOf]; omega))
/-- The square root's bits. -/
def sqFit (p x : Nat) : Bool := decide (x * x / 18446744073709551616 < p) || (decide (x * x / 18446744073709551616 = p) && decide (x * x % 18446744073709551616 = 0))
def sqRoot (p : Nat) : Nat := srch (sqFit p) 35 0 % 4294967296
theorem sq_fits (p : Nat) (hp : p < 1000) (g : Nat) (t : TypeId) (w : World) (hg : w.heap[g]? = some (.cells #[.int .u64 (p : Int)] t)) : FitsIn 78 #[.pointer (some ⟨g, 0, none⟩)] (sqFit p) w := by
  intro x hx
  have hc := cells_1 hg
  have M := Lib.hid (mul64_any x x (by omega) (by omega) w)
  obtain ⟨hi, hhi⟩ : ∃ z, x * x / 18446744073709551616 = z := ⟨_, rfl⟩
  obtain ⟨lo, hlo⟩ : ∃ z, x * x % 18446744073709551616 = z := ⟨_, rfl⟩
  have HS : Hid (sqFit p x = (decide (hi < p) || (decide (hi = p) && decide (lo = 0)))) := by unfold Hid sqFit; rw [hhi, hlo]
  rw [hhi, hlo] at M
  clear hhi hlo hg
  simp only [List.append_toArray, List.cons_append, List.nil_append]
  go_enter Tryz.func78, Tryz.ntmps78
  go_wp2_with fail
  refine M.out.mono ?_
  rintro e w' ⟨rfl, rfl⟩
  by_cases a1 : hi < p
  · have i1 : (hi : Int) < (p : Int) := by omega
    go_wp2
    go_ret
    exact ⟨by rw [HS.out]; simp [a1], rfl⟩
  · have i1 : ¬ (hi : Int) < (p : Int) := by omega
    by_cases a2 : hi = p
    · have t2 : ((hi : Int) == (p : Int)) = true := by simp; omega
      by_cases a3 : lo = 0
      · have t3 : ((lo : Int) == 0) = true := by simp; omega
        have HA := Lib.hid (show hi = p ∧ lo = 0 from ⟨a2, a3⟩)
        clear a2 a3
        go_wp2
        go_ret
        exact ⟨by rw [HS.out]; simp [HA.out.1, HA.out.2], rfl⟩
      · have t3 : ((lo : Int) == 0) = false := by simp; omega
        have HA := Lib.hid (show hi = p ∧ lo ≠ 0 from ⟨a2, a3⟩)
        clear a2 a3
        go_wp2
        go_ret
        exact ⟨by rw [HS.out]; simp [HA.out.1, HA.out.2], rfl⟩
    · have t2 : ((hi : Int) == (p : Int)) = false := by simp; omega
      have HA := Lib.hid (show ¬ hi < p ∧ hi ≠ p from ⟨a1, a2⟩)
      clear a2
      go_wp2
      go_ret
      exact ⟨by rw [HS.out]; simp [HA.out.1, HA.out.2], rfl⟩
theorem sqroot_any (p : Nat) (hp : p < 1000) (w : World) : Calls Tryz.prog 58 #[.int .u64 (p : Int)] w fun e w' => e = .returned (.int .u32 (sqRoot p : Nat)) ∧ Below w.heap.size w w' := by
  have S := Lib.hid (search_sq ⟨w.heap.size, 0, none⟩ (sqFit p) (w.alloc (.cells #[.int .u64 (p : Int)] 61)) (sq_fits p hp w.heap.size _ _ (has_new w _)))
  obtain ⟨r, hr⟩ : ∃ r, srch (sqFit p) 35 0 = r := ⟨_, rfl⟩
  rw [hr] at S
  have HR : Hid (((sqRoot p : Nat) : Int) = (r : Int) % 4294967296) := by unfold Hid sqRoot; rw [hr]; omega
  clear hr
  go_enter Tryz.func58, Tryz.ntmps58
  go_wp2_with fail
  refine S.out.mono ?_
  rintro e w' ⟨rfl, rfl⟩
  go_wp2
  go_ret
  exact ⟨by rw [HR.out]; rfl, kp_alloc (Below.refl _ _) _⟩
end Go.Proofs.YtcedojmhgmgcgaaGreatDoor
namespace Go.Proofs.YtcedojmhgmgcgaaGreatDoor
open Go.RowKit Go
set_option linter.unusedVariables false
set_option linter.unusedSimpArgs false
set_option maxRecDepth 100000
/-- The cube root's bits. -/
def cbFit (p x : Nat) : Bool := decide (x * x % 18446744073709551616 * x / 18446744073709551616 + x * x / 18446744073709551616 * x < p * 4294967296) || (decide (x * x % 18446744073709551616 * x / 18446744073709551616 + x * x / 18446744073709551616 * x = p * 4294967296) && decide (x * x % 18446744073709551616 * x % 18446744073709551616 = 0))
def cbRoot (p : Nat) : Nat := srch (cbFit p) 35 0 % 4294967296
theorem cb_fits (p : Nat) (hp : p < 1000) (g : Nat) (t : TypeId) (w : World) (hg : w.heap[g]? = some (.cells #[.int .u64 (p : Int)] t)) : FitsIn 80 #[.pointer (some ⟨g, 0, none⟩)] (cbFit p) w := by
  intro x hx
  have hc := cells_1 hg
  have M := Lib.hid (mul64_any x x (by omega) (by omega) w)
  have bsh : x * x / 18446744073709551616 ≤ 63 := by
    have h1 : x * x ≤ 34359738367 * 34359738367 := Nat.mul_le_mul (by omega) (by omega)
    omega
  have bq : x * x / 18446744073709551616 * x ≤ 63 * 34359738367 := Nat.mul_le_mul bsh (by omega)
  have M2 := Lib.hid (mul64_any (x * x % 18446744073709551616) x (by omega) (by omega) w)
  have bhi : x * x % 18446744073709551616 * x / 18446744073709551616 ≤ 34359738367 := by
    have h1 : x * x % 18446744073709551616 * x ≤ 18446744073709551615 * 34359738367 := Nat.mul_le_mul (by omega) (by omega)
    omega
  obtain ⟨sh, hsh⟩ : ∃ z, x * x / 18446744073709551616 = z := ⟨_, rfl⟩
  obtain ⟨sl, hsl⟩ : ∃ z, x * x % 18446744073709551616 = z := ⟨_, rfl⟩
  obtain ⟨hi, hhi⟩ : ∃ z, sl * x / 18446744073709551616 = z := ⟨_, rfl⟩
  obtain ⟨lo, hlo⟩ : ∃ z, sl * x % 18446744073709551616 = z := ⟨_, rfl⟩
  obtain ⟨q, hq⟩ : ∃ z, sh * x = z := ⟨_, rfl⟩
  obtain ⟨P, hP⟩ : ∃ z, p * 4294967296 = z := ⟨_, rfl⟩
  have HS : Hid (cbFit p x = (decide (hi + q < P) || (decide (hi + q = P) && decide (lo = 0)))) := by unfold Hid cbFit; rw [hsl, hsh, hhi, hlo, hq, hP]
  rw [hsh, hsl] at M
  rw [hsl, hhi, hlo] at M2
  rw [hsl, hhi] at bhi
  rw [hsh, hq] at bq
  rw [hsh] at bsh
  have hsll : sl < 18446744073709551616 := by rw [← hsl]; exact Nat.mod_lt _ (by decide)
  have hqi : (sh : Int) * (x : Int) = (q : Int) := by rw [← hq]; simp
  have hqw : IntKind.u64.wrap ((sh : Int) * (x : Int)) = (q : Int) := by rw [hqi, IntKind.wrap_u64]; omega
  have hPi : (p : Int) * 4294967296 = (P : Int) := by omega
  clear hhi hlo hg hsh hsl hq hqi hP
  simp only [List.append_toArray, List.cons_append, List.nil_append]
  go_enter Tryz.func80, Tryz.ntmps80
  go_wp2_with fail
  refine M.out.mono ?_
  rintro e w' ⟨rfl, rfl⟩
  go_wp2_with fail
  refine M2.out.mono ?_
  rintro e w' ⟨rfl, rfl⟩
  by_cases a1 : hi + q < P
  · have i1 : (hi : Int) + (q : Int) < (P : Int) := by omega
    have HA := Lib.hid (decide_eq_true a1)
    clear a1
    go_wp2
    go_ret
    exact ⟨by rw [HS.out, HA.out]; rfl, rfl⟩
  · have i1 : decide ((hi : Int) + (q : Int) < (P : Int)) = false := by simp; omega
    have HA := Lib.hid (decide_eq_false a1)
    by_cases a2 : hi + q = P
    · have t2 : ((hi : Int) + (q : Int) == (P : Int)) = true := by simp; omega
      have HB := Lib.hid (decide_eq_true a2)
      clear a1 a2
      by_cases a3 : lo = 0
      · have t3 : ((lo : Int) == 0) = true := by simp; omega
        have HC := Lib.hid (decide_eq_true a3)
        clear a3
        go_wp2
        go_ret
        exact ⟨by rw [HS.out, HA.out, HB.out, HC.out]; rfl, rfl⟩
      · have t3 : ((lo : Int) == 0) = false := by simp; omega
        have HC := Lib.hid (decide_eq_false a3)
        clear a3
        go_wp2
        go_ret
        exact ⟨by rw [HS.out, HA.out, HB.out, HC.out]; rfl, rfl⟩
    · have t2 : ((hi : Int) + (q : Int) == (P : Int)) = false := by simp; omega
      have HB := Lib.hid (decide_eq_false a2)
      clear a1 a2
      go_wp2
      go_ret
      exact ⟨by rw [HS.out, HA.out, HB.out]; rfl, rfl⟩
theorem cbroot_any (p : Nat) (hp : p < 1000) (w : World) : Calls Tryz.prog 59 #[.int .u64 (p : Int)] w fun e w' => e = .returned (.int .u32 (cbRoot p : Nat)) ∧ Below w.heap.size w w' := by
  have S := Lib.hid (search_cb ⟨w.heap.size, 0, none⟩ (cbFit p) (w.alloc (.cells #[.int .u64 (p : Int)] 61)) (cb_fits p hp w.heap.size _ _ (has_new w _)))
  obtain ⟨r, hr⟩ : ∃ r, srch (cbFit p) 35 0 = r := ⟨_, rfl⟩
  rw [hr] at S
  have HR : Hid (((cbRoot p : Nat) : Int) = (r : Int) % 4294967296) := by unfold Hid cbRoot; rw [hr]; omega
  clear hr
  go_enter Tryz.func59, Tryz.ntmps59
  go_wp2_with fail
  refine S.out.mono ?_
  rintro e w' ⟨rfl, rfl⟩
  go_wp2
  go_ret
  exact ⟨by rw [HR.out]; rfl, kp_alloc (Below.refl _ _) _⟩
end Go.Proofs.YtcedojmhgmgcgaaGreatDoor
namespace Go.Proofs.YtcedojmhgmgcgaaGreatDoor
open Go.RowKit Go
set_option linter.unusedVariables false
set_option linter.unusedSimpArgs false
set_option maxRecDepth 100000
/-- Block g holds an array of these values. -/
def ArrIs (w : World) (g : Nat) (t : TypeId) (vs : List Value) : Prop := w.heap[g]? = some (.cells vs.toArray t)
section
variable {w w' : World} {g : Nat} {t : TypeId} {vs : List Value}
theorem ArrIs.cell (h : ArrIs w g t vs) {j : Nat} {u : Value} (hu : vs[j]? = some u) : w.cell? ⟨g, j, none⟩ = some u := by
  rw [cell_of_row _ g j _ t _ h]; simpa using hu
theorem ArrIs.free (h : ArrIs w g t vs) (j : Nat) : w.frozen? ⟨g, j, none⟩ = false := frozen_of_row _ g j _ t h
theorem ArrIs.set (h : ArrIs w g t vs) (j : Nat) (u : Value) : ArrIs (w.setCell ⟨g, j, none⟩ u) g t (vs.set j u) := by
  unfold ArrIs
  rw [heap_setCell_same w g j _ t u h]
  simp
theorem ArrIs.below (h : ArrIs w g t vs) (hb : Below w.heap.size w w') : ArrIs w' g t vs := has_below h hb
theorem ArrIs.drew (h : ArrIs w g t vs) : ArrIs w.drew g t vs := h
theorem ArrIs.drewN (h : ArrIs w g t vs) (k : Nat) : ArrIs (w.drewN k) g t vs := h
theorem ArrIs.alloc (h : ArrIs w g t vs) (o : Obj) : ArrIs (w.alloc o) g t vs := has_alloc h o
theorem ArrIs.far (h : ArrIs w g t vs) {k j : Nat} {u : Value} (hne : g ≠ k) : ArrIs (w.setCell ⟨k, j, none⟩ u) g t vs := has_set h hne
theorem ArrIs.lt (h : ArrIs w g t vs) : g < w.heap.size := block_lt h
end
/-- The first 64 primes. -/
def PR64 : List Nat := [2, 3, 5, 7, 11, 13, 17, 19, 23, 29, 31, 37, 41, 43, 47, 53, 59, 61, 67, 71, 73, 79, 83, 89, 97, 101, 103, 107, 109, 113, 127, 131, 137, 139, 149, 151, 157, 163, 167, 173, 179, 181, 191, 193, 197, 199, 211, 223, 227, 229, 233, 239, 241, 251, 257, 263, 269, 271, 277, 281, 283, 293, 307, 311]
/-- Those below x. -/
def psB (x : Nat) : List Nat := PR64.filter fun p => decide (p < x)
theorem ps_step : ∀ x, x < 312 → 2 ≤ x → psB (x + 1) = (if (psB x).all (fun p => x % p != 0) then psB x ++ [x] else psB x) ∧ (psB x).length < 64 := by
  have h : ((List.range 312).all fun x => decide (x < 2) || (decide (psB (x + 1) = (if (psB x).all (fun p => x % p != 0) then psB x ++ [x] else psB x)) && decide ((psB x).length < 64))) = true := by kernel_rfl
  intro x h1 h2
  have := List.all_eq_true.1 h x (List.mem_range.2 h1)
  simp only [Bool.or_eq_true, Bool.and_eq_true, decide_eq_true_eq] at this
  rcases this with h3 | h3
  · omega
  · exact h3
theorem ps_all : psB 312 = PR64 := by kernel_rfl
theorem ps_two : psB 2 = [] := by kernel_rfl
theorem pr_len : PR64.length = 64 := by kernel_rfl
theorem pr_bd : ∀ p ∈ PR64, 2 ≤ p ∧ p ≤ 311 := by
  have h : (PR64.all fun p => decide (2 ≤ p) && decide (p ≤ 311)) = true := by kernel_rfl
  intro p hp
  have := List.all_eq_true.1 h p hp
  simpa using this
abbrev v64 (x : Nat) : Value := .int .u64 (x : Int)
def prArr (x : Nat) : List Value := (psB x).map v64 ++ List.replicate (64 - (psB x).length) (.int .u64 0)
theorem prArr_len (x : Nat) (h : (psB x).length ≤ 64) : (prArr x).length = 64 := by unfold prArr; simp; omega
theorem prArr_get (x i : Nat) (p : Nat) (h : (psB x)[i]? = some p) : (prArr x)[i]? = some (v64 p) := by
  have hl : i < (psB x).length := (List.getElem?_eq_some_iff.1 h).1
  unfold prArr
  rw [List.getElem?_append_left (by simpa using hl), List.getElem?_map, h]
  rfl
theorem prArr_next (x : Nat) (h : (psB x).length < 64) (hs : psB (x + 1) = psB x ++ [x]) : prArr (x + 1) = (prArr x).set (psB x).length (v64 x) := by
  unfold prArr
  rw [hs, List.set_append_right _ _ (by simp), List.length_map, Nat.sub_self]
  obtain ⟨k, hk⟩ : ∃ k, 64 - (psB x).length = k + 1 := ⟨63 - (psB x).length, by omega⟩
  rw [hk, List.length_append, show 64 - ((psB x).length + [x].length) = k by simp; omega, List.replicate_succ]
  simp
theorem prArr_full : prArr 312 = PR64.map v64 := by unfold prArr; rw [ps_all, pr_len]; simp
set_option maxHeartbeats 2000000 in
theorem primes_any (w : World) : Calls Tryz.prog 57 #[] w fun e w' => e = .returned (.agg (PR64.map v64).toArray) ∧ Below w.heap.size w w' := by
  go_enter Tryz.func57, Tryz.ntmps57
  go_wp2
  refine wp_nm fun W0 hW0 => ?_
  have k0 : Hid (∃ vs : List Value, vs.length = 64 ∧ ArrIs W0 w.heap.size 115 vs) := ⟨List.replicate 64 (.int .u64 0), rfl, by rw [← hW0]; exact (has_alloc (has_new w _) _)⟩
  have k1 : Hid (ArrIs W0 (w.heap.size + 1) 115 (prArr 2)) := by
    rw [← hW0]
    unfold prArr
    rw [ps_two]
    exact has_new' _ _ _ (by simp)
  have hb0 : Below w.heap.size w W0 := by rw [← hW0]; exact kp_alloc (kp_alloc (Below.refl _ _) _) _
  have HB0 := Lib.hid hb0
  have hs0 : W0.heap.size = w.heap.size + 2 := by rw [← hW0]; simp
  have HS0 := Lib.hid hs0
  clear hW0 hb0 hs0
  obtain ⟨G, hG⟩ : ∃ G, w.heap.size = G := ⟨_, rfl⟩
  have HG := Lib.hid hG
  rw [hG] at k0 k1 HB0 HS0 ⊢
  clear hG
  go_wp2
  go_loopw [2, 3] (fun vn vx wl => ∃ n x : Nat, vn = .int .i64 (n : Int) ∧ vx = .int .u64 (x : Int) ∧ 2 ≤ x ∧ x ≤ 312 ∧ Hid (n = (psB x).length ∧ ArrIs wl (G + 1) 115 (prArr x) ∧ (∃ vs : List Value, vs.length = 64 ∧ ArrIs wl G 115 vs) ∧ Below G w wl)) (fun _ vx _ => 312 - (intOf vx).toNat)
  case atStart => exact ⟨0, 2, rfl, rfl, Nat.le_refl _, by omega, by rw [ps_two]; rfl, k1.out, k0.out, HB0.out⟩
  case round =>
    obtain ⟨n, x, rfl, rfl, hx2, hx3, HK⟩ := hrel
    by_cases hx : x = 312
    · subst hx
      obtain ⟨hn, ha, ⟨vs, hvl, hv⟩, hb⟩ := HK.out
      rw [ps_all, pr_len] at hn
      subst hn
      rw [prArr_full] at ha
      have H1 : Hid (wr.heap[G + 1]? = some (.cells (PR64.map v64).toArray 115 (0, 0))) := ha
      have H0 : Hid (wr.heap[G]? = some (.cells vs.toArray 115 (0, 0))) := hv
      have HS : Hid ((wr.setRow G (PR64.map v64).toArray).heap[G]? = some (.cells (PR64.map v64).toArray 115 (0, 0))) := setRow_heap wr G _ _ _ _ hv
      have HB := Lib.hid (below_setRow hb (Nat.le_refl G) (PR64.map v64).toArray)
      have HVL := Lib.hid hvl
      clear ha hv hb hvl
      go_wp2_with (first
        | (refine wpList_load_row rfl _ _ rfl (G + 1) rfl _ _ _ _ H1.out Tryz.underlying115 rfl (by kernel_rfl) ?_)
        | (refine wpList_store_row rfl _ _ _ rfl G (PR64.map v64).toArray rfl rfl _ _ H0.out (by kernel_rfl) (by simp [HVL.out, pr_len]) (by kernel_rfl) ?_))
      refine bodyPost_ret (results_cell_row rfl _ _ G _ _ _ _ rfl HS.out Tryz.underlying115 rfl (by kernel_rfl)) rfl ?_
      exact ⟨rfl, by rw [HG.out]; exact HB.out⟩
    · have hstep := ps_step x (by omega) hx2
      have HST := Lib.hid hstep
      have hn64 : n < 64 := by have := HK.out.1; omega
      have i1 : (n : Int) < 64 := by omega
      have i2 : (n : Int) ≤ 64 := by omega
      clear hstep
      go_wp2
      go_loop [4, 14] (fun vb vi => ∃ (i : Nat) (b : Bool), vb = .bool b ∧ vi = .int .i64 (i : Int) ∧ i ≤ n ∧ Hid (b = ((psB x).take i).all (fun p => x % p != 0))) (fun _ vi => n - (intOf vi).toNat)
      case atStart => exact ⟨0, true, rfl, rfl, Nat.zero_le _, rfl⟩
      case round =>
        obtain ⟨i, b, rfl, rfl, hi, HB⟩ := hrel
        by_cases hin : i < n
        · as_aux_lemma =>
          obtain ⟨p, hp⟩ : ∃ p, (psB x)[i]? = some p := ⟨_, List.getElem?_eq_getElem (by rw [← HK.out.1]; exact hin)⟩
          have hc := HK.out.2.1.cell (prArr_get x i p hp)
          have hpm : p ∈ PR64 := (List.mem_filter.1 (List.mem_of_getElem? hp)).1
          have hpb := pr_bd p hpm
          obtain ⟨r, hr⟩ : ∃ r, x % p = r := ⟨_, rfl⟩
          have e1 : (x : Int) % (p : Int) = (r : Int) := by rw [← hr]; rfl
          have e2 : (x : Int).tmod (p : Int) = (r : Int) := by rw [Int.tmod_eq_emod_of_nonneg (by omega)]; exact e1
          have p0 : ((p : Int) == 0) = false := by simp; omega
          have HT : Hid (((psB x).take (i + 1)).all (fun p => x % p != 0) = (b && (r != 0))) := by
            unfold Hid
            rw [List.take_add_one, hp, List.all_append, ← HB.out]
            simp [hr]
          have hrb : r < p := by rw [← hr]; exact Nat.mod_lt _ (by omega)
          clear hp hpm hr
          cases b with
          | false =>
            go_wp2
            go_round
            case rel => exact ⟨i + 1, false, rfl, by go_num, by omega, by unfold Hid; rw [HT.out]; rfl⟩
            case measure => simp [intOf]; omega
          | true =>
            by_cases hr0 : r = 0
            · have t1 : ((r : Int) != 0) = false := by simp; omega
              have HR := Lib.hid hr0
              clear hr0
              go_wp2
              go_round
              case rel => exact ⟨i + 1, false, rfl, by go_num, by omega, by unfold Hid; rw [HT.out, HR.out]; rfl⟩
              case measure => simp [intOf]; omega
            · have t1 : ((r : Int) != 0) = true := by simp; omega
              have HR := Lib.hid (show (r != 0) = true by simp [hr0])
              clear hr0
              go_wp2
              go_round
              case rel => exact ⟨i + 1, true, rfl, by go_num, by omega, by unfold Hid; rw [HT.out, HR.out]; rfl⟩
              case measure => simp [intOf]; omega
        · obtain rfl : i = n := by omega
          have hb : b = (psB x).all (fun p => x % p != 0) := by
            rw [HB.out, List.take_of_length_le (by rw [← HK.out.1]; exact Nat.le_refl _)]
          obtain ⟨hn, ha, hv, hbl⟩ := HK.out
          have hst := HST.out.1
          cases b with
          | true =>
            rw [if_pos hb.symm] at hst
            have hnx := prArr_next x (by rw [← hn]; exact hn64) hst
            rw [← hn] at hnx
            have hlen := prArr_len x (by omega)
            obtain ⟨u, hu⟩ : ∃ u, (prArr x)[i]? = some u := ⟨_, List.getElem?_eq_getElem (by omega)⟩
            have hc := ha.cell hu
            have hf := ha.free i
            have HN : Hid (i + 1 = (psB (x + 1)).length ∧ ArrIs (wr.setCell ⟨G + 1, i, none⟩ (v64 x)) (G + 1) 115 (prArr (x + 1)) ∧ (∃ vs : List Value, vs.length = 64 ∧ ArrIs (wr.setCell ⟨G + 1, i, none⟩ (v64 x)) G 115 vs) ∧ Below G w (wr.setCell ⟨G + 1, i, none⟩ (v64 x))) := by
              obtain ⟨vs, v1, v2⟩ := hv
              refine ⟨by rw [hst]; simp; omega, by rw [hnx]; exact ha.set i _, ⟨vs, v1, v2.far (by omega)⟩, hbl.setCell (by simp) _⟩
            clear hb hst hnx hlen hu hn ha hv hbl HB HK HST
            go_wp2
            go_roundw
            case rel => exact ⟨i + 1, x + 1, by go_num, by go_num, by omega, by omega, HN.out⟩
            case measure => simp [intOf]; omega
          | false =>
            rw [if_neg (by rw [← hb]; simp)] at hst
            have HN : Hid (i = (psB (x + 1)).length ∧ ArrIs wr (G + 1) 115 (prArr (x + 1)) ∧ (∃ vs : List Value, vs.length = 64 ∧ ArrIs wr G 115 vs) ∧ Below G w wr) := by
              refine ⟨by rw [hst]; exact hn, ?_, hv, hbl⟩
              unfold prArr at ha ⊢
              rw [hst]; exact ha
            clear hb hst hn ha hv hbl HB HK HST
            go_wp2
            go_roundw
            case rel => exact ⟨i, x + 1, rfl, by go_num, by omega, by omega, HN.out⟩
            case measure => simp [intOf]; omega
end Go.Proofs.YtcedojmhgmgcgaaGreatDoor
namespace Go.Proofs.YtcedojmhgmgcgaaGreatDoor
open Go.RowKit Go
set_option linter.unusedVariables false
set_option linter.unusedSimpArgs false
set_option maxRecDepth 100000
theorem index_u64 (cs : Array Value) (i : Nat) (x : Int) (hi : i < 64) (hu : cs[i]? = some (.int .u64 x)) (w : World) : (Instr.index 115 (.agg cs) (.int .i64 (i : Int))).run Tryz.prog w = .ok (.int .u64 x) w := by
  have h1 : (i : Int) < 64 := by omega
  simp [Instr.index, go_sem, run_underlying Tryz.underlying115, h1, hu]
  intro h; omega
theorem index_u32 (cs : Array Value) (i : Nat) (x : Int) (hi : i < 8) (hu : cs[i]? = some (.int .u32 x)) (w : World) : (Instr.index 75 (.agg cs) (.int .i64 (i : Int))).run Tryz.prog w = .ok (.int .u32 x) w := by
  have h1 : (i : Int) < 8 := by omega
  simp [Instr.index, go_sem, run_underlying Tryz.underlying75, h1, hu]
  intro h; omega
abbrev v32 (x : Nat) : Value := .int .u32 (x : Int)
theorem all32 (l : List Nat) : (l.map v32).toArray.all (·.oneCell') = true := by
  simp only [List.all_toArray, List.all_map, List.all_eq_true]
  intro x _
  rfl
/-- An array of n words of which the first ones are told. -/
def part32 (n : Nat) (l : List Nat) : List Value := l.map v32 ++ List.replicate (n - l.length) (.int .u32 0)
theorem part32_len (n : Nat) (l : List Nat) (h : l.length ≤ n) : (part32 n l).length = n := by unfold part32; simp; omega
theorem part32_next (n : Nat) (l : List Nat) (x : Nat) (h : l.length < n) : part32 n (l ++ [x]) = (part32 n l).set l.length (v32 x) := by
  unfold part32
  rw [List.set_append_right _ _ (by simp), List.length_map, Nat.sub_self]
  obtain ⟨k, hk⟩ : ∃ k, n - l.length = k + 1 := ⟨n - l.length - 1, by omega⟩
  rw [hk, List.length_append, show n - (l.length + [x].length) = k by simp; omega, List.replicate_succ]
  simp
theorem part32_full (n : Nat) (l : List Nat) (h : l.length = n) : part32 n l = l.map v32 := by unfold part32; rw [h]; simp
theorem pr_get (k : Nat) (hk : k < 64) : ∃ p, PR64[k]? = some p ∧ p < 1000 := by
  refine ⟨_, List.getElem?_eq_getElem (by rw [pr_len]; exact hk), ?_⟩
  have := pr_bd _ (List.getElem_mem (show k < PR64.length by rw [pr_len]; exact hk))
  omega
def H0 : List Nat := (PR64.take 8).map sqRoot
def K0 : List Nat := PR64.map cbRoot
theorem H0_len : H0.length = 8 := by unfold H0; rw [List.length_map, List.length_take, pr_len]; rfl
theorem K0_len : K0.length = 64 := by unfold K0; rw [List.length_map, pr_len]
theorem H0_snoc (k p : Nat) (hk : k < 8) (h : PR64[k]? = some p) : H0.take (k + 1) = H0.take k ++ [sqRoot p] := by
  have : H0[k]? = some (sqRoot p) := by unfold H0; rw [List.getElem?_map, List.getElem?_take, if_pos hk, h]; rfl
  rw [List.take_add_one, this]; rfl
theorem K0_snoc (k p : Nat) (h : PR64[k]? = some p) : K0.take (k + 1) = K0.take k ++ [cbRoot p] := by
  have : K0[k]? = some (cbRoot p) := by unfold K0; rw [List.getElem?_map, h]; rfl
  rw [List.take_add_one, this]; rfl
set_option maxHeartbeats 2000000 in
theorem firstWords_any (w : World) : Calls Tryz.prog 33 #[] w fun e w' => e = .returned (.agg (H0.map v32).toArray) ∧ Below w.heap.size w w' := by
  have PA := Lib.hid (fun W => primes_any W)
  go_enter Tryz.func33, Tryz.ntmps33
  go_wp2_with fail
  refine (PA.out _).mono ?_
  rintro e w1 ⟨rfl, hb1⟩
  have b0 := kp_alloc (kp_alloc (Below.refl w.heap.size w) (.cells #[.int .u32 0, .int .u32 0, .int .u32 0, .int .u32 0, .int .u32 0, .int .u32 0, .int .u32 0, .int .u32 0] 75)) (.cells #[.int .u32 0, .int .u32 0, .int .u32 0, .int .u32 0, .int .u32 0, .int .u32 0, .int .u32 0, .int .u32 0] 75)
  have k0 : ArrIs w1 w.heap.size 75 (List.replicate 8 (.int .u32 0)) := has_below (has_alloc (has_new w _) _) hb1
  have k1 : ArrIs w1 (w.heap.size + 1) 75 (part32 8 (H0.take 0)) := has_below (has_new' _ _ _ (by simp)) hb1
  have hz1 := hb1.size
  simp only [World.size_alloc] at hz1
  have HB1 := Lib.hid (kp_call b0 hb1)
  have HK0 := Lib.hid k0
  have HK1 := Lib.hid k1
  clear b0 hb1 k0 k1
  obtain ⟨cs, hcs⟩ : ∃ cs, (PR64.map v64).toArray = cs := ⟨_, rfl⟩
  have HCS := Lib.hid hcs
  have hcsz : cs.size = 64 := by rw [← hcs]; simp [pr_len]
  have hone : cs.all (·.oneCell') = true := by rw [← hcs]; kernel_rfl
  have hi : (Tryz.prog.info? 115).map (·.size) = some cs.size := by rw [hcsz]; kernel_rfl
  rw [hcs]
  have HC := Lib.hid (show _ ∧ _ ∧ _ from ⟨hcsz, hone, hi⟩)
  clear hcs hcsz hone hi
  go_wp2_with (refine wpList_store_row rfl _ _ _ rfl w1.heap.size cs rfl rfl _ _ (has_new w1 _) HC.out.2.2 (by rw [HC.out.1]; rfl) HC.out.2.1 ?_)
  refine wp_nm fun W2 hW2 => ?_
  have hb2 : Below w1.heap.size w1 W2 := by rw [← hW2]; exact below_setRow (kp_alloc (Below.refl _ _) _) (Nat.le_refl _) _
  have k2 : ArrIs W2 w1.heap.size 115 (PR64.map v64) := by
    rw [← hW2]
    unfold ArrIs
    rw [setRow_heap _ w1.heap.size _ _ _ _ (has_new w1 _), ← HCS.out]
  have HB2 := Lib.hid (kp_call HB1.out hb2)
  have H2 : Hid (ArrIs W2 w.heap.size 75 (List.replicate 8 (.int .u32 0)) ∧ ArrIs W2 (w.heap.size + 1) 75 (part32 8 (H0.take 0)) ∧ ArrIs W2 w1.heap.size 115 (PR64.map v64)) := ⟨HK0.out.below hb2, HK1.out.below hb2, k2⟩
  clear hW2 hb2 k2 HK0 HK1 HC
  obtain ⟨G1, hG1⟩ : ∃ G1, w1.heap.size = G1 := ⟨_, rfl⟩
  rw [hG1] at hz1 H2 ⊢
  clear hG1
  go_wp2
  go_loopw [5] (fun vi wl => ∃ k : Nat, vi = .int .i64 (k : Int) ∧ k ≤ 8 ∧ Hid (ArrIs wl w.heap.size 75 (List.replicate 8 (.int .u32 0)) ∧ ArrIs wl (w.heap.size + 1) 75 (part32 8 (H0.take k)) ∧ ArrIs wl G1 115 (PR64.map v64) ∧ Below w.heap.size w wl)) (fun vi _ => 8 - (intOf vi).toNat)
  case atStart => exact ⟨0, rfl, Nat.zero_le _, H2.out.1, H2.out.2.1, H2.out.2.2, HB2.out⟩
  case round =>
    obtain ⟨k, rfl, hk, HK⟩ := hrel
    clear H2 HB2 HB1
    by_cases hlt : k < 8
    · obtain ⟨p, hp, hpb⟩ := pr_get k (by omega)
      obtain ⟨a0, a1, a2, hb⟩ := HK.out
      have hc := a2.cell (j := k) (u := v64 p) (by rw [List.getElem?_map, hp]; rfl)
      have SQ := Lib.hid (sqroot_any p hpb wr)
      have HP := Lib.hid hp
      have i1 : (k : Int) < 8 := by omega
      clear a0 a1 a2 hb hp
      go_wp2_with fail
      refine SQ.out.mono ?_
      rintro e w3 ⟨rfl, hb3⟩
      obtain ⟨a0, a1, a2, hb⟩ := HK.out
      have hl8 := part32_len 8 (H0.take k) (by rw [List.length_take, H0_len]; omega)
      have hln : (H0.take k).length = k := by rw [List.length_take, H0_len]; omega
      have a1' := a1.below hb3
      obtain ⟨u, hu⟩ : ∃ u, (part32 8 (H0.take k))[k]? = some u := ⟨_, List.getElem?_eq_getElem (by omega)⟩
      have hcc := a1'.cell hu
      have hf := a1'.free k
      have HN : Hid (ArrIs (w3.setCell ⟨w.heap.size + 1, k, none⟩ (v32 (sqRoot p))) w.heap.size 75 (List.replicate 8 (.int .u32 0)) ∧ ArrIs (w3.setCell ⟨w.heap.size + 1, k, none⟩ (v32 (sqRoot p))) (w.heap.size + 1) 75 (part32 8 (H0.take (k + 1))) ∧ ArrIs (w3.setCell ⟨w.heap.size + 1, k, none⟩ (v32 (sqRoot p))) G1 115 (PR64.map v64) ∧ Below w.heap.size w (w3.setCell ⟨w.heap.size + 1, k, none⟩ (v32 (sqRoot p)))) := by
        refine ⟨(a0.below hb3).far (by omega), ?_, (a2.below hb3).far (by omega), kp_set (kp_call hb hb3) (by omega)⟩
        rw [H0_snoc k p hlt HP.out, part32_next 8 _ _ (by rw [hln]; exact hlt), hln]
        exact a1'.set k _
      clear a0 a1 a2 hb a1' hu hl8 hln hb3 HK
      go_wp2
      go_roundw
      case rel => exact ⟨k + 1, by go_num, by omega, HN.out⟩
      case measure => simp [intOf]; omega
    · obtain ⟨a0, a1, a2, hb⟩ := HK.out
      have i1 : ¬ (k : Int) < 8 := by omega
      rw [List.take_of_length_le (by rw [H0_len]; omega), part32_full 8 _ H0_len] at a1
      obtain ⟨ds, hds⟩ : ∃ ds, (H0.map v32).toArray = ds := ⟨_, rfl⟩
      have hone : ds.all (·.oneCell') = true := by rw [← hds]; exact all32 _
      have hsz : ds.size = 8 := by rw [← hds]; simp [H0_len]
      have hi : (Tryz.prog.info? 75).map (·.size) = some ds.size := by rw [hsz]; kernel_rfl
      have A1 : Hid (wr.heap[w.heap.size + 1]? = some (.cells ds 75 (0, 0))) := by rw [← hds]; exact a1
      have A0 : Hid (wr.heap[w.heap.size]? = some (.cells (List.replicate 8 (.int .u32 0)).toArray 75 (0, 0))) := a0
      have AR : Hid ((wr.setRow w.heap.size ds).heap[w.heap.size]? = some (.cells ds 75 (0, 0))) := setRow_heap wr _ _ _ _ _ a0
      have HB := Lib.hid (below_setRow hb (Nat.le_refl w.heap.size) ds)
      have HDS := Lib.hid hds
      have HC := Lib.hid (show _ ∧ _ ∧ _ from ⟨hsz, hone, hi⟩)
      clear hds a0 a1 a2 hb hsz hone hi HK
      go_wp2_with (first
        | (refine wpList_load_row rfl _ _ rfl (w.heap.size + 1) rfl _ _ _ _ A1.out Tryz.underlying75 rfl HC.out.2.2 ?_)
        | (refine wpList_store_row rfl _ _ _ rfl w.heap.size ds rfl rfl _ _ A0.out HC.out.2.2 (by rw [HC.out.1]; rfl) HC.out.2.1 ?_))
      refine bodyPost_ret (results_cell_row rfl _ _ w.heap.size _ _ _ _ rfl AR.out Tryz.underlying75 rfl HC.out.2.2) rfl ?_
      exact ⟨by rw [HDS.out], HB.out⟩
end Go.Proofs.YtcedojmhgmgcgaaGreatDoor
namespace Go.Proofs.YtcedojmhgmgcgaaGreatDoor
open Go.RowKit Go
set_option linter.unusedVariables false
set_option linter.unusedSimpArgs false
set_option maxRecDepth 100000
set_option maxHeartbeats 2000000 in
theorem constants_any (w : World) : Calls Tryz.prog 34 #[] w fun e w' => e = .returned (.agg (K0.map v32).toArray) ∧ Below w.heap.size w w' := by
  have PA := Lib.hid (fun W => primes_any W)
  go_enter Tryz.func34, Tryz.ntmps34
  go_wp2_with fail
  refine (PA.out _).mono ?_
  rintro e w1 ⟨rfl, hb1⟩
  have b0 : Below w.heap.size w w1 := kp_call (kp_alloc (kp_alloc (Below.refl w.heap.size w) _) _) hb1
  have k0 : ArrIs w1 w.heap.size 81 (List.replicate 64 (.int .u32 0)) := has_below (has_alloc (has_new w _) _) hb1
  have k1 : ArrIs w1 (w.heap.size + 1) 81 (part32 64 (K0.take 0)) := has_below (has_new' _ _ _ (by simp)) hb1
  have H2 : Hid (ArrIs w1 w.heap.size 81 (List.replicate 64 (.int .u32 0)) ∧ ArrIs w1 (w.heap.size + 1) 81 (part32 64 (K0.take 0)) ∧ Below w.heap.size w w1) := ⟨k0, k1, b0⟩
  obtain ⟨cs, hcs⟩ : ∃ cs, (PR64.map v64).toArray = cs := ⟨_, rfl⟩
  have HCS := Lib.hid hcs
  rw [hcs]
  clear hcs hb1 b0 k0 k1
  go_wp2
  go_loopw [5] (fun vi wl => ∃ k : Nat, vi = .int .i64 (k : Int) ∧ k ≤ 64 ∧ Hid (ArrIs wl w.heap.size 81 (List.replicate 64 (.int .u32 0)) ∧ ArrIs wl (w.heap.size + 1) 81 (part32 64 (K0.take k)) ∧ Below w.heap.size w wl)) (fun vi _ => 64 - (intOf vi).toNat)
  case atStart => exact ⟨0, rfl, Nat.zero_le _, H2.out⟩
  case round =>
    obtain ⟨k, rfl, hk, HK⟩ := hrel
    clear H2
    by_cases hlt : k < 64
    · obtain ⟨p, hp, hpb⟩ := pr_get k (by omega)
      have hix : ∀ W, (Instr.index 115 (.agg cs) (.int .i64 (k : Int))).run Tryz.prog W = .ok (.int .u64 (p : Int)) W := fun W => index_u64 cs k p hlt (by rw [← HCS.out]; simp [hp]) W
      have SQ := Lib.hid (cbroot_any p hpb wr)
      have HP := Lib.hid hp
      have i1 : (k : Int) < 64 := by omega
      clear hp
      go_wp2_with fail
      refine SQ.out.mono ?_
      rintro e w3 ⟨rfl, hb3⟩
      obtain ⟨a0, a1, hb⟩ := HK.out
      have hl8 := part32_len 64 (K0.take k) (by rw [List.length_take, K0_len]; omega)
      have hln : (K0.take k).length = k := by rw [List.length_take, K0_len]; omega
      have a1' := a1.below hb3
      obtain ⟨u, hu⟩ : ∃ u, (part32 64 (K0.take k))[k]? = some u := ⟨_, List.getElem?_eq_getElem (by omega)⟩
      have hcc := a1'.cell hu
      have hf := a1'.free k
      have HN : Hid (ArrIs (w3.setCell ⟨w.heap.size + 1, k, none⟩ (v32 (cbRoot p))) w.heap.size 81 (List.replicate 64 (.int .u32 0)) ∧ ArrIs (w3.setCell ⟨w.heap.size + 1, k, none⟩ (v32 (cbRoot p))) (w.heap.size + 1) 81 (part32 64 (K0.take (k + 1))) ∧ Below w.heap.size w (w3.setCell ⟨w.heap.size + 1, k, none⟩ (v32 (cbRoot p)))) := by
        refine ⟨(a0.below hb3).far (by omega), ?_, kp_set (kp_call hb hb3) (by omega)⟩
        rw [K0_snoc k p HP.out, part32_next 64 _ _ (by rw [hln]; exact hlt), hln]
        exact a1'.set k _
      clear a0 a1 hb a1' hu hl8 hln hb3 HK hix
      go_wp2
      go_roundw
      case rel => exact ⟨k + 1, by go_num, by omega, HN.out⟩
      case measure => simp [intOf]; omega
    · obtain ⟨a0, a1, hb⟩ := HK.out
      have i1 : ¬ (k : Int) < 64 := by omega
      rw [List.take_of_length_le (by rw [K0_len]; omega), part32_full 64 _ K0_len] at a1
      obtain ⟨ds, hds⟩ : ∃ ds, (K0.map v32).toArray = ds := ⟨_, rfl⟩
      have hone : ds.all (·.oneCell') = true := by rw [← hds]; exact all32 _
      have hsz : ds.size = 64 := by rw [← hds]; simp [K0_len]
      have hi : (Tryz.prog.info? 81).map (·.size) = some ds.size := by rw [hsz]; kernel_rfl
      have A1 : Hid (wr.heap[w.heap.size + 1]? = some (.cells ds 81 (0, 0))) := by rw [← hds]; exact a1
      have A0 : Hid (wr.heap[w.heap.size]? = some (.cells (List.replicate 64 (.int .u32 0)).toArray 81 (0, 0))) := a0
      have AR : Hid ((wr.setRow w.heap.size ds).heap[w.heap.size]? = some (.cells ds 81 (0, 0))) := setRow_heap wr _ _ _ _ _ a0
      have HB := Lib.hid (below_setRow hb (Nat.le_refl w.heap.size) ds)
      have HDS := Lib.hid hds
      have HC := Lib.hid (show _ ∧ _ ∧ _ from ⟨hsz, hone, hi⟩)
      clear hds a0 a1 hb hsz hone hi HK
      go_wp2_with (first
        | (refine wpList_load_row rfl _ _ rfl (w.heap.size + 1) rfl _ _ _ _ A1.out Tryz.underlying81 rfl HC.out.2.2 ?_)
        | (refine wpList_store_row rfl _ _ _ rfl w.heap.size ds rfl rfl _ _ A0.out HC.out.2.2 (by rw [HC.out.1]; simp) HC.out.2.1 ?_))
      refine bodyPost_ret (results_cell_row rfl _ _ w.heap.size _ _ _ _ rfl AR.out Tryz.underlying81 rfl HC.out.2.2) rfl ?_
      exact ⟨by rw [HDS.out], HB.out⟩
end Go.Proofs.YtcedojmhgmgcgaaGreatDoor
namespace Go.Proofs.YtcedojmhgmgcgaaGreatDoor
open Go.RowKit Go
set_option linter.unusedVariables false
set_option linter.unusedSimpArgs false
set_option maxRecDepth 100000
abbrev v8 (x : Nat) : Value := .int .u8 (x : Int)
/-- A word of four bytes, the highest first. -/
def be32 (a b c d : Nat) : Nat := ((a * 16777216 ||| b * 65536) ||| c * 256) ||| d
theorem be32_lt (a b c d : Nat) (ha : a < 256) (hb : b < 256) (hc : c < 256) (hd : d < 256) : be32 a b c d < 4294967296 := by
  unfold be32
  exact Nat.or_lt_two_pow (n := 32) (Nat.or_lt_two_pow (Nat.or_lt_two_pow (by omega) (by omega)) (by omega)) (by omega)
theorem be32_bits (a b c d : Nat) (ha : a < 256) (hb : b < 256) (hc : c < 256) (hd : d < 256) :
    bits .or .u32 (bits .or .u32 (bits .or .u32 ((a : Int) * 16777216) ((b : Int) * 65536)) ((c : Int) * 256)) (d : Int) = ((be32 a b c d : Nat) : Int) := by
  have e1 : (a : Int) * 16777216 = ((a * 16777216 : Nat) : Int) := by omega
  have e2 : (b : Int) * 65536 = ((b * 65536 : Nat) : Int) := by omega
  have e3 : (c : Int) * 256 = ((c * 256 : Nat) : Int) := by omega
  have l1 : (a * 16777216 ||| b * 65536) < 4294967296 := Nat.or_lt_two_pow (n := 32) (by omega) (by omega)
  have l2 : ((a * 16777216 ||| b * 65536) ||| c * 256) < 4294967296 := Nat.or_lt_two_pow (n := 32) l1 (by omega)
  rw [e1, e2, e3, u32_or_nat _ _ (by omega) (by omega), u32_or_nat _ _ l1 (by omega), u32_or_nat _ _ l2 (by omega)]
  rfl
def sg0 (x : Nat) : Nat := (rotr x 7 ^^^ rotr x 18) ^^^ (x / 8)
def sg1 (x : Nat) : Nat := (rotr x 17 ^^^ rotr x 19) ^^^ (x / 1024)
theorem sg0_lt (x : Nat) (h : x < 4294967296) : sg0 x < 4294967296 := Nat.xor_lt_two_pow (n := 32) (Nat.xor_lt_two_pow (rotr_lt x 7 h) (rotr_lt x 18 h)) (by omega)
theorem sg1_lt (x : Nat) (h : x < 4294967296) : sg1 x < 4294967296 := Nat.xor_lt_two_pow (n := 32) (Nat.xor_lt_two_pow (rotr_lt x 17 h) (rotr_lt x 19 h)) (by omega)
theorem sg0_bits (x : Nat) (h : x < 4294967296) : bits .xor .u32 (bits .xor .u32 ((rotr x 7 : Nat) : Int) ((rotr x 18 : Nat) : Int)) ((x : Int) / 8) = ((sg0 x : Nat) : Int) := by
  have e : (x : Int) / 8 = ((x / 8 : Nat) : Int) := by omega
  rw [e, u32_xor_nat _ _ (rotr_lt x 7 h) (rotr_lt x 18 h), u32_xor_nat _ _ (Nat.xor_lt_two_pow (n := 32) (rotr_lt x 7 h) (rotr_lt x 18 h)) (by omega)]
  rfl
theorem sg1_bits (x : Nat) (h : x < 4294967296) : bits .xor .u32 (bits .xor .u32 ((rotr x 17 : Nat) : Int) ((rotr x 19 : Nat) : Int)) ((x : Int) / 1024) = ((sg1 x : Nat) : Int) := by
  have e : (x : Int) / 1024 = ((x / 1024 : Nat) : Int) := by omega
  rw [e, u32_xor_nat _ _ (rotr_lt x 17 h) (rotr_lt x 19 h), u32_xor_nat _ _ (Nat.xor_lt_two_pow (n := 32) (rotr_lt x 17 h) (rotr_lt x 19 h)) (by omega)]
  rfl
def nxtW (a x c y : Nat) : Nat := (((a + sg0 x) % 4294967296 + c) % 4294967296 + sg1 y) % 4294967296
def firstW (bs : List Nat) : Nat → List Nat
  | 0 => []
  | k + 1 => firstW bs k ++ [be32 (bs.getD (4 * k) 0) (bs.getD (4 * k + 1) 0) (bs.getD (4 * k + 2) 0) (bs.getD (4 * k + 3) 0)]
def addW (l : List Nat) (k : Nat) : List Nat := l ++ [nxtW (l.getD k 0) (l.getD (k + 1) 0) (l.getD (k + 9) 0) (l.getD (k + 14) 0)]
def restW (l : List Nat) : Nat → List Nat
  | 0 => l
  | k + 1 => addW (restW l k) k
def schW (bs : List Nat) : List Nat := restW (firstW bs 16) 48
theorem firstW_len (bs : List Nat) (k : Nat) : (firstW bs k).length = k := by induction k with
  | zero => rfl
  | succ k ih => simp [firstW, ih]
theorem restW_len (l : List Nat) (k : Nat) : (restW l k).length = l.length + k := by induction k with
  | zero => rfl
  | succ k ih => simp [restW, addW, ih]; omega
theorem part32_get (n : Nat) (l : List Nat) (i : Nat) (h : i < l.length) : (part32 n l)[i]? = some (v32 (l.getD i 0)) := by
  unfold part32
  rw [List.getElem?_append_left (by simpa using h), List.getElem?_map, List.getElem?_eq_getElem h, List.getD_eq_getElem?_getD, List.getElem?_eq_getElem h]
  rfl
theorem firstW_lt (bs : List Nat) (hb : ∀ x ∈ bs, x < 256) (k : Nat) : ∀ x ∈ firstW bs k, x < 4294967296 := by
  have hg : ∀ i, bs.getD i 0 < 256 := fun i => by
    rw [List.getD_eq_getElem?_getD]
    cases h : bs[i]? with
    | none => simp
    | some y => exact hb y (List.mem_of_getElem? h)
  induction k with
  | zero => intro x hx; cases hx
  | succ k ih =>
    intro x hx
    rcases List.mem_append.1 hx with hx | hx
    · exact ih x hx
    · rw [List.mem_singleton.1 hx]
      exact be32_lt _ _ _ _ (hg _) (hg _) (hg _) (hg _)
theorem restW_lt (l : List Nat) (hl : ∀ x ∈ l, x < 4294967296) (k : Nat) : ∀ x ∈ restW l k, x < 4294967296 := by
  induction k with
  | zero => exact hl
  | succ k ih =>
    intro x hx
    rcases List.mem_append.1 hx with hx | hx
    · exact ih x hx
    · rw [List.mem_singleton.1 hx]
      exact Nat.mod_lt _ (by decide)
theorem getD_ltSh (l : List Nat) (m : Nat) (hm : 0 < m) (h : ∀ x ∈ l, x < m) (i : Nat) : l.getD i 0 < m := by
  rw [List.getD_eq_getElem?_getD]
  cases hh : l[i]? with
  | none => simpa using hm
  | some y => exact h y (List.mem_of_getElem? hh)
end Go.Proofs.YtcedojmhgmgcgaaGreatDoor
namespace Go.Proofs.YtcedojmhgmgcgaaGreatDoor
open Go.RowKit Go
set_option linter.unusedVariables false
set_option linter.unusedSimpArgs false
set_option maxRecDepth 100000
set_option maxHeartbeats 4000000 in
theorem schedule_any (bs : List Nat) (hl : bs.length = 64) (hb : ∀ x ∈ bs, x < 256) (w : World) : Calls Tryz.prog 60 #[.agg (bs.map v8).toArray] w fun e w' => e = .returned (.agg ((schW bs).map v32).toArray) ∧ Below w.heap.size w w' := by
  obtain ⟨cs, hcs⟩ : ∃ cs, (bs.map v8).toArray = cs := ⟨_, rfl⟩
  have HCS := Lib.hid hcs
  rw [hcs]
  clear hcs
  have hcl := Lib.hid (firstW_len bs)
  have HF := Lib.hid (firstW_lt bs hb 16)
  have HBG := Lib.hid (getD_ltSh bs 256 (by decide) hb)
  have HBL := Lib.hid hl
  go_enter Tryz.func60, Tryz.ntmps60
  go_wp2
  refine wp_nm fun W0 hW0 => ?_
  have H2 : Hid (ArrIs W0 w.heap.size 77 (bs.map v8) ∧ ArrIs W0 (w.heap.size + 1) 81 (List.replicate 64 (.int .u32 0)) ∧ ArrIs W0 (w.heap.size + 1 + 1) 81 (part32 64 (firstW bs 0)) ∧ Below w.heap.size w W0) := by
    rw [← hW0]
    refine ⟨?_, ?_, ?_, kp_alloc (kp_alloc (kp_alloc (Below.refl _ _) _) _) _⟩
    · unfold ArrIs
      rw [HCS.out]
      exact has_alloc (has_alloc (has_new w _) _) _
    · exact has_alloc (has_new' _ _ _ (by simp)) _
    · exact has_new' _ _ _ (by simp)
  clear hW0 hb hl
  obtain ⟨G, hG⟩ : ∃ G, w.heap.size = G := ⟨_, rfl⟩
  have HG := Lib.hid hG
  rw [hG] at H2 ⊢
  clear hG
  go_wp2
  go_loopw [8] (fun vi wl => ∃ k : Nat, vi = .int .i64 (k : Int) ∧ k ≤ 16 ∧ Hid (ArrIs wl G 77 (bs.map v8) ∧ ArrIs wl (G + 1) 81 (List.replicate 64 (.int .u32 0)) ∧ ArrIs wl (G + 1 + 1) 81 (part32 64 (firstW bs k)) ∧ Below G w wl)) (fun vi _ => 16 - (intOf vi).toNat)
  case atStart => exact ⟨0, rfl, Nat.zero_le _, H2.out⟩
  case round =>
    obtain ⟨k, rfl, hk, HK⟩ := hrel
    clear H2
    by_cases hlt : k < 16
    · as_aux_lemma =>
      obtain ⟨a0, a1, a2, hb⟩ := HK.out
      have gb : ∀ i, i < 64 → (bs.map v8)[i]? = some (v8 (bs.getD i 0)) := fun i hi => by
        rw [List.getElem?_map, List.getD_eq_getElem?_getD, List.getElem?_eq_getElem (by rw [HBL.out]; exact hi)]
        rfl
      obtain ⟨b0, hb0⟩ : ∃ x, bs.getD (4 * k) 0 = x := ⟨_, rfl⟩
      obtain ⟨b1, hb1⟩ : ∃ x, bs.getD (4 * k + 1) 0 = x := ⟨_, rfl⟩
      obtain ⟨b2, hb2⟩ : ∃ x, bs.getD (4 * k + 2) 0 = x := ⟨_, rfl⟩
      obtain ⟨b3, hb3⟩ : ∃ x, bs.getD (4 * k + 3) 0 = x := ⟨_, rfl⟩
      have c0 : wr.cell? ⟨G, 4 * k, none⟩ = some (v8 b0) := by rw [← hb0]; exact a0.cell (gb _ (by omega))
      have c1 : wr.cell? ⟨G, 4 * k + 1, none⟩ = some (v8 b1) := by rw [← hb1]; exact a0.cell (gb _ (by omega))
      have c2 : wr.cell? ⟨G, 4 * k + 2, none⟩ = some (v8 b2) := by rw [← hb2]; exact a0.cell (gb _ (by omega))
      have c3 : wr.cell? ⟨G, 4 * k + 3, none⟩ = some (v8 b3) := by rw [← hb3]; exact a0.cell (gb _ (by omega))
      have l0 : b0 < 256 := by rw [← hb0]; exact HBG.out _
      have l1 : b1 < 256 := by rw [← hb1]; exact HBG.out _
      have l2 : b2 < 256 := by rw [← hb2]; exact HBG.out _
      have l3 : b3 < 256 := by rw [← hb3]; exact HBG.out _
      have hbe := be32_bits b0 b1 b2 b3 l0 l1 l2 l3
      obtain ⟨z, hz⟩ : ∃ z, be32 b0 b1 b2 b3 = z := ⟨_, rfl⟩
      rw [hz] at hbe
      have hfl := hcl.out k
      obtain ⟨u, hu⟩ : ∃ u, (part32 64 (firstW bs k))[k]? = some u := ⟨_, List.getElem?_eq_getElem (by rw [part32_len _ _ (by omega)]; omega)⟩
      have cc := a2.cell hu
      have ff := a2.free k
      have HN : Hid (ArrIs (wr.setCell ⟨G + 1 + 1, k, none⟩ (v32 z)) G 77 (bs.map v8) ∧ ArrIs (wr.setCell ⟨G + 1 + 1, k, none⟩ (v32 z)) (G + 1) 81 (List.replicate 64 (.int .u32 0)) ∧ ArrIs (wr.setCell ⟨G + 1 + 1, k, none⟩ (v32 z)) (G + 1 + 1) 81 (part32 64 (firstW bs (k + 1))) ∧ Below G w (wr.setCell ⟨G + 1 + 1, k, none⟩ (v32 z))) := by
        refine ⟨a0.far (by omega), a1.far (by omega), ?_, hb.setCell (by simp; omega) _⟩
        have e : firstW bs (k + 1) = firstW bs k ++ [z] := by rw [← hz, ← hb0, ← hb1, ← hb2, ← hb3]; rfl
        rw [e, part32_next 64 _ _ (by omega), hfl]
        exact a2.set k _
      have s1 : IntKind.i64.wrap (4 * (k : Int)) = 4 * (k : Int) := by rw [IntKind.wrap_i64]; omega
      have s2 : IntKind.i64.wrap (4 * (k : Int) + 1) = 4 * (k : Int) + 1 := by rw [IntKind.wrap_i64]; omega
      have s3 : IntKind.i64.wrap (4 * (k : Int) + 2) = 4 * (k : Int) + 2 := by rw [IntKind.wrap_i64]; omega
      have s4 : IntKind.i64.wrap (4 * (k : Int) + 3) = 4 * (k : Int) + 3 := by rw [IntKind.wrap_i64]; omega
      have n1 : (4 * (k : Int)).toNat = 4 * k := by omega
      have n2 : (4 * (k : Int) + 1).toNat = 4 * k + 1 := by omega
      have n3 : (4 * (k : Int) + 2).toNat = 4 * k + 2 := by omega
      have n4 : (4 * (k : Int) + 3).toNat = 4 * k + 3 := by omega
      have p1 : (0 : Int) ≤ 4 * (k : Int) := by omega
      have p2 : (0 : Int) ≤ 4 * (k : Int) + 1 := by omega
      have p3 : (0 : Int) ≤ 4 * (k : Int) + 2 := by omega
      have p4 : (0 : Int) ≤ 4 * (k : Int) + 3 := by omega
      have r1 : 4 * (k : Int) < 64 := by omega
      have r2 : 4 * (k : Int) + 1 < 64 := by omega
      have r3 : 4 * (k : Int) + 2 < 64 := by omega
      have r4 : 4 * (k : Int) + 3 < 64 := by omega
      have i1 : (k : Int) < 16 := by omega
      have i2 : (k : Int) < 64 := by omega
      clear hb0 hb1 hb2 hb3 hz hfl hu a0 a1 a2 hb gb HK
      go_wp2_with fail
      go_region
      all_goals
        clear hbe s1 s2 s3 s4 n1 n2 n3 n4
        go_wp2
        go_roundw
        case rel => exact ⟨k + 1, by go_num, by omega, HN.out.1, HN.out.2.1, HN.out.2.2.1, HN.out.2.2.2.drew⟩
        case measure => simp [intOf]; omega
    · have hk16 : k = 16 := by omega
      have i1 : ¬ (k : Int) < 16 := by omega
      have H3 : Hid (ArrIs wr G 77 (bs.map v8) ∧ ArrIs wr (G + 1) 81 (List.replicate 64 (.int .u32 0)) ∧ ArrIs wr (G + 1 + 1) 81 (part32 64 (restW (firstW bs 16) 0)) ∧ Below G w wr) := by
        have := HK.out
        rw [hk16] at this
        exact this
      clear HK hk16
      go_wp2
      go_loopw [5] (fun vi wl => ∃ t : Nat, vi = .int .i64 (t : Int) ∧ 16 ≤ t ∧ t ≤ 64 ∧ Hid (ArrIs wl G 77 (bs.map v8) ∧ ArrIs wl (G + 1) 81 (List.replicate 64 (.int .u32 0)) ∧ ArrIs wl (G + 1 + 1) 81 (part32 64 (restW (firstW bs 16) (t - 16))) ∧ Below G w wl)) (fun vi _ => 64 - (intOf vi).toNat)
      case atStart => exact ⟨16, rfl, Nat.le_refl _, by omega, H3.out⟩
      case round =>
        obtain ⟨t, rfl, ht1, ht2, HK⟩ := hrel
        clear H3
        by_cases hlt : t < 64
        · as_aux_lemma =>
          obtain ⟨q, hq⟩ : ∃ q, t - 16 = q := ⟨_, rfl⟩
          obtain ⟨a0, a1, a2, hb⟩ := HK.out
          rw [hq] at a2
          obtain ⟨l, hl⟩ : ∃ l, restW (firstW bs 16) q = l := ⟨_, rfl⟩
          have hll : l.length = t := by rw [← hl, restW_len, firstW_len]; omega
          have hlb := restW_lt (firstW bs 16) HF.out q
          rw [hl] at a2 hlb
          have gl := getD_ltSh l 4294967296 (by decide) hlb
          obtain ⟨x16, hx16⟩ : ∃ z, l.getD q 0 = z := ⟨_, rfl⟩
          obtain ⟨x15, hx15⟩ : ∃ z, l.getD (q + 1) 0 = z := ⟨_, rfl⟩
          obtain ⟨x7, hx7⟩ : ∃ z, l.getD (q + 9) 0 = z := ⟨_, rfl⟩
          obtain ⟨x2, hx2⟩ : ∃ z, l.getD (q + 14) 0 = z := ⟨_, rfl⟩
          have c16 : wr.cell? ⟨G + 1 + 1, q, none⟩ = some (v32 x16) := by rw [← hx16]; exact a2.cell (part32_get 64 l _ (by omega))
          have c15 : wr.cell? ⟨G + 1 + 1, q + 1, none⟩ = some (v32 x15) := by rw [← hx15]; exact a2.cell (part32_get 64 l _ (by omega))
          have c7 : wr.cell? ⟨G + 1 + 1, q + 9, none⟩ = some (v32 x7) := by rw [← hx7]; exact a2.cell (part32_get 64 l _ (by omega))
          have c2 : wr.cell? ⟨G + 1 + 1, q + 14, none⟩ = some (v32 x2) := by rw [← hx2]; exact a2.cell (part32_get 64 l _ (by omega))
          have l16 : x16 < 4294967296 := by rw [← hx16]; exact gl _
          have l15 : x15 < 4294967296 := by rw [← hx15]; exact gl _
          have l7 : x7 < 4294967296 := by rw [← hx7]; exact gl _
          have l2 : x2 < 4294967296 := by rw [← hx2]; exact gl _
          obtain ⟨u, hu⟩ : ∃ u, (part32 64 l)[t]? = some u := ⟨_, List.getElem?_eq_getElem (by rw [part32_len _ _ (by omega)]; omega)⟩
          have cc := a2.cell hu
          have ff := a2.free t
          obtain ⟨z, hz⟩ : ∃ z, nxtW x16 x15 x7 x2 = z := ⟨_, rfl⟩
          have HN : Hid (ArrIs (wr.setCell ⟨G + 1 + 1, t, none⟩ (v32 z)) G 77 (bs.map v8) ∧ ArrIs (wr.setCell ⟨G + 1 + 1, t, none⟩ (v32 z)) (G + 1) 81 (List.replicate 64 (.int .u32 0)) ∧ ArrIs (wr.setCell ⟨G + 1 + 1, t, none⟩ (v32 z)) (G + 1 + 1) 81 (part32 64 (restW (firstW bs 16) (t + 1 - 16))) ∧ Below G w (wr.setCell ⟨G + 1 + 1, t, none⟩ (v32 z))) := by
            refine ⟨a0.far (by omega), a1.far (by omega), ?_, hb.setCell (by simp; omega) _⟩
            have e : restW (firstW bs 16) (t + 1 - 16) = l ++ [z] := by
              rw [show t + 1 - 16 = q + 1 by omega, ← hz, ← hx16, ← hx15, ← hx7, ← hx2, ← hl]
              rfl
            rw [e, part32_next 64 _ _ (by omega), hll]
            exact a2.set t _
          obtain ⟨g0, hg0⟩ : ∃ z, sg0 x15 = z := ⟨_, rfl⟩
          obtain ⟨g1, hg1⟩ : ∃ z, sg1 x2 = z := ⟨_, rfl⟩
          have b0 := sg0_bits x15 l15
          have b1 := sg1_bits x2 l2
          have lg0 := sg0_lt x15 l15
          have lg1 := sg1_lt x2 l2
          rw [hg0] at b0 lg0
          rw [hg1] at b1 lg1
          have hz2 : (((x16 + g0) % 4294967296 + x7) % 4294967296 + g1) % 4294967296 = z := by rw [← hz, ← hg0, ← hg1]; rfl
          have R7 := Lib.hid (fun W => rot_7 x15 l15 W)
          have R18 := Lib.hid (fun W => rot_18 x15 l15 W)
          have R17 := Lib.hid (fun W => rot_17 x2 l2 W)
          have R19 := Lib.hid (fun W => rot_19 x2 l2 W)
          obtain ⟨o7, ho7⟩ : ∃ z, rotr x15 7 = z := ⟨_, rfl⟩
          obtain ⟨o18, ho18⟩ : ∃ z, rotr x15 18 = z := ⟨_, rfl⟩
          obtain ⟨o17, ho17⟩ : ∃ z, rotr x2 17 = z := ⟨_, rfl⟩
          obtain ⟨o19, ho19⟩ : ∃ z, rotr x2 19 = z := ⟨_, rfl⟩
          rw [ho7] at R7 b0
          rw [ho18] at R18 b0
          rw [ho17] at R17 b1
          rw [ho19] at R19 b1
          obtain ⟨za, hza⟩ : ∃ z, (x16 + g0) % 4294967296 = z := ⟨_, rfl⟩
          obtain ⟨zb, hzb⟩ : ∃ z, (za + x7) % 4294967296 = z := ⟨_, rfl⟩
          rw [hza, hzb] at hz2
          have wa : IntKind.u32.wrap ((x16 : Int) + (g0 : Int)) = (za : Int) := by rw [IntKind.wrap_u32]; omega
          have wb : IntKind.u32.wrap ((za : Int) + (x7 : Int)) = (zb : Int) := by rw [IntKind.wrap_u32]; omega
          have wc : IntKind.u32.wrap ((zb : Int) + (g1 : Int)) = (z : Int) := by rw [IntKind.wrap_u32]; omega
          have wa2 : ((x16 : Int) + (g0 : Int)) % 4294967296 = (za : Int) := by omega
          have wb2 : ((za : Int) + (x7 : Int)) % 4294967296 = (zb : Int) := by omega
          have wc2 : ((zb : Int) + (g1 : Int)) % 4294967296 = (z : Int) := by omega
          have t16 : (t : Int) - 16 = (q : Int) := by omega
          obtain ⟨q1, hq1⟩ : ∃ z, q + 1 = z := ⟨_, rfl⟩
          obtain ⟨q9, hq9⟩ : ∃ z, q + 9 = z := ⟨_, rfl⟩
          obtain ⟨q14, hq14⟩ : ∃ z, q + 14 = z := ⟨_, rfl⟩
          rw [hq1] at c15
          rw [hq9] at c7
          rw [hq14] at c2
          have t15 : (t : Int) - 15 = (q1 : Int) := by omega
          have t7 : (t : Int) - 7 = (q9 : Int) := by omega
          have t2 : (t : Int) - 2 = (q14 : Int) := by omega
          have n1 : (q : Int) < 64 := by omega
          have n2 : (q1 : Int) < 64 := by omega
          have n3 : (q9 : Int) < 64 := by omega
          have n4 : (q14 : Int) < 64 := by omega
          have i2 : (t : Int) < 64 := by omega
          have v1 : IntKind.i64.wrap (q : Int) = (q : Int) := by rw [IntKind.wrap_i64]; omega
          have v2 : IntKind.i64.wrap (q1 : Int) = (q1 : Int) := by rw [IntKind.wrap_i64]; omega
          have v3 : IntKind.i64.wrap (q9 : Int) = (q9 : Int) := by rw [IntKind.wrap_i64]; omega
          have v4 : IntKind.i64.wrap (q14 : Int) = (q14 : Int) := by rw [IntKind.wrap_i64]; omega
          clear hq hl hll hlb gl hx16 hx15 hx7 hx2 hu hz hg0 hg1 hz2 ho7 ho18 ho17 ho19 hza hzb hq1 hq9 hq14 a0 a1 a2 hb HK
          go_wp2_with fail
          go_quiet (fail)
          have d16 : (wr.drewN nq).cell? ⟨G + 1 + 1, q, none⟩ = some (.int .u32 (x16 : Int)) := c16
          have d7 : (wr.drewN nq).cell? ⟨G + 1 + 1, q9, none⟩ = some (.int .u32 (x7 : Int)) := c7
          have dc : (wr.drewN nq).cell? ⟨G + 1 + 1, t, none⟩ = some u := cc
          have df : (wr.drewN nq).frozen? ⟨G + 1 + 1, t, none⟩ = false := ff
          have HM : Hid (∀ j : Nat, ArrIs (((wr.drewN nq).drewN j).setCell ⟨G + 1 + 1, t, none⟩ (.int .u32 (z : Int))) G 77 (bs.map v8) ∧ ArrIs (((wr.drewN nq).drewN j).setCell ⟨G + 1 + 1, t, none⟩ (.int .u32 (z : Int))) (G + 1) 81 (List.replicate 64 (.int .u32 0)) ∧ ArrIs (((wr.drewN nq).drewN j).setCell ⟨G + 1 + 1, t, none⟩ (.int .u32 (z : Int))) (G + 1 + 1) 81 (part32 64 (restW (firstW bs 16) (t + 1 - 16))) ∧ Below G w (((wr.drewN nq).drewN j).setCell ⟨G + 1 + 1, t, none⟩ (.int .u32 (z : Int)))) := fun j =>
            ⟨HN.out.1, HN.out.2.1, HN.out.2.2.1, ⟨HN.out.2.2.2.os, HN.out.2.2.2.tape, HN.out.2.2.2.output, HN.out.2.2.2.size, HN.out.2.2.2.block⟩⟩
          clear c16 c15 c7 c2 cc ff t15 t2 HN
          generalize wr.drewN nq = w2 at *
          go_wp2_with fail
          go_region_held3 (fun W => W.cell? ⟨G + 1 + 1, q, none⟩ = some (.int .u32 (x16 : Int)) ∧ W.cell? ⟨G + 1 + 1, q9, none⟩ = some (.int .u32 (x7 : Int))) (first | exact ⟨d16, d7⟩ | exact ⟨(World.cell?_setCell_other _ _ _ _ (by intro e; simp only [Addr.mk.injEq] at e; omega)).trans d16, (World.cell?_setCell_other _ _ _ _ (by intro e; simp only [Addr.mk.injEq] at e; omega)).trans d7⟩)
            (first
              | (go_at_call 61; (with_reducible refine (R7.out _).mono ?_); (rintro e w3 ⟨rfl, rfl⟩))
              | (go_at_call 61; (with_reducible refine (R18.out _).mono ?_); (rintro e w3 ⟨rfl, rfl⟩))
              | (go_at_call 61; (with_reducible refine (R17.out _).mono ?_); (rintro e w3 ⟨rfl, rfl⟩))
              | (go_at_call 61; (with_reducible refine (R19.out _).mono ?_); (rintro e w3 ⟨rfl, rfl⟩)))
          all_goals
            have HMM := Lib.hid (HM.out 0)
            clear HM b0 b1 wa wb wc wa2 wb2 wc2 t16 t7 v1 v2 v3 v4 d16 d7 dc df
            go_wp2
            go_roundw
            case rel => exact ⟨t + 1, by go_num, by omega, by omega, HMM.out.1, HMM.out.2.1, HMM.out.2.2.1, ⟨HMM.out.2.2.2.os, HMM.out.2.2.2.tape, HMM.out.2.2.2.output, HMM.out.2.2.2.size, HMM.out.2.2.2.block⟩⟩
            case measure => simp [intOf]; omega
        · as_aux_lemma =>
          obtain ⟨a0, a1, a2, hb⟩ := HK.out
          have i2 : ¬ (t : Int) < 64 := by omega
          have hsl : (schW bs).length = 64 := by unfold schW; rw [restW_len, firstW_len]
          have a2 : ArrIs wr (G + 1 + 1) 81 ((schW bs).map v32) := by
            rw [show t - 16 = 48 by omega] at a2
            rw [← part32_full 64 _ hsl]
            exact a2
          obtain ⟨ds, hds⟩ : ∃ ds, ((schW bs).map v32).toArray = ds := ⟨_, rfl⟩
          have hone : ds.all (·.oneCell') = true := by rw [← hds]; exact all32 _
          have hsz : ds.size = 64 := by rw [← hds]; simp [hsl]
          have hi : (Tryz.prog.info? 81).map (·.size) = some ds.size := by rw [hsz]; kernel_rfl
          have A1 : Hid (wr.heap[G + 1 + 1]? = some (.cells ds 81 (0, 0))) := by rw [← hds]; exact a2
          have A0 : Hid (wr.heap[G + 1]? = some (.cells (List.replicate 64 (.int .u32 0)).toArray 81 (0, 0))) := a1
          have AR : Hid ((wr.setRow (G + 1) ds).heap[G + 1]? = some (.cells ds 81 (0, 0))) := setRow_heap wr _ _ _ _ _ a1
          have HB := Lib.hid (below_setRow hb (Nat.le_succ G) ds)
          have HDS := Lib.hid hds
          have HC := Lib.hid (show _ ∧ _ ∧ _ from ⟨hsz, hone, hi⟩)
          clear hds a0 a1 a2 hb hsz hone hi HK hsl
          go_wp2_with (first
            | (refine wpList_load_row rfl _ _ rfl (G + 1 + 1) rfl _ _ _ _ A1.out Tryz.underlying81 rfl HC.out.2.2 ?_)
            | (refine wpList_store_row rfl _ _ _ rfl (G + 1) ds rfl rfl _ _ A0.out HC.out.2.2 (by rw [HC.out.1]; simp) HC.out.2.1 ?_))
          refine bodyPost_ret (results_cell_row rfl _ _ (G + 1) _ _ _ _ rfl AR.out Tryz.underlying81 rfl HC.out.2.2) rfl ?_
          exact ⟨by rw [HDS.out], by rw [HG.out]; exact HB.out⟩
end Go.Proofs.YtcedojmhgmgcgaaGreatDoor
namespace Go.Proofs.YtcedojmhgmgcgaaGreatDoor
open Go.RowKit Go
set_option linter.unusedVariables false
set_option linter.unusedSimpArgs false
set_option maxRecDepth 100000
/-- The eight words, as they turn. -/
structure V8 where
  a : Nat
  b : Nat
  c : Nat
  d : Nat
  e : Nat
  f : Nat
  g : Nat
  h : Nat
def V8.list (v : V8) : List Nat := [v.a, v.b, v.c, v.d, v.e, v.f, v.g, v.h]
structure V8.Ok (v : V8) : Prop where
  a : v.a < 4294967296
  b : v.b < 4294967296
  c : v.c < 4294967296
  d : v.d < 4294967296
  e : v.e < 4294967296
  f : v.f < 4294967296
  g : v.g < 4294967296
  h : v.h < 4294967296
def bg1 (e : Nat) : Nat := (rotr e 6 ^^^ rotr e 11) ^^^ rotr e 25
def bg0 (a : Nat) : Nat := (rotr a 2 ^^^ rotr a 13) ^^^ rotr a 22
def chW (e f g : Nat) : Nat := (e &&& f) ^^^ ((4294967295 - e) &&& g)
def mjW (a b c : Nat) : Nat := ((a &&& b) ^^^ (a &&& c)) ^^^ (b &&& c)
def oneW (v : V8) (k w : Nat) : Nat := ((((v.h + bg1 v.e) % 4294967296 + chW v.e v.f v.g) % 4294967296 + k) % 4294967296 + w) % 4294967296
def twoW (v : V8) : Nat := (bg0 v.a + mjW v.a v.b v.c) % 4294967296
def stepW (v : V8) (k w : Nat) : V8 := ⟨(oneW v k w + twoW v) % 4294967296, v.a, v.b, v.c, (v.d + oneW v k w) % 4294967296, v.e, v.f, v.g⟩
def goW (v : V8) (ks ws : List Nat) : Nat → V8
  | 0 => v
  | t + 1 => stepW (goW v ks ws t) (ks.getD t 0) (ws.getD t 0)
def addV (v u : V8) : V8 := ⟨(v.a + u.a) % 4294967296, (v.b + u.b) % 4294967296, (v.c + u.c) % 4294967296, (v.d + u.d) % 4294967296, (v.e + u.e) % 4294967296, (v.f + u.f) % 4294967296, (v.g + u.g) % 4294967296, (v.h + u.h) % 4294967296⟩
def blockW (v : V8) (ks bs : List Nat) : V8 := addV v (goW v ks (schW bs) 64)
theorem stepW_ok (v : V8) (k w : Nat) (h : v.Ok) : (stepW v k w).Ok := ⟨Nat.mod_lt _ (by decide), h.a, h.b, h.c, Nat.mod_lt _ (by decide), h.e, h.f, h.g⟩
theorem goW_ok (v : V8) (ks ws : List Nat) (h : v.Ok) (t : Nat) : (goW v ks ws t).Ok := by induction t with
  | zero => exact h
  | succ t ih => exact stepW_ok _ _ _ ih
theorem addV_ok (v u : V8) : (addV v u).Ok := ⟨Nat.mod_lt _ (by decide), Nat.mod_lt _ (by decide), Nat.mod_lt _ (by decide), Nat.mod_lt _ (by decide), Nat.mod_lt _ (by decide), Nat.mod_lt _ (by decide), Nat.mod_lt _ (by decide), Nat.mod_lt _ (by decide)⟩
theorem bg1_lt (x : Nat) (h : x < 4294967296) : bg1 x < 4294967296 := Nat.xor_lt_two_pow (n := 32) (Nat.xor_lt_two_pow (rotr_lt x 6 h) (rotr_lt x 11 h)) (rotr_lt x 25 h)
theorem bg0_lt (x : Nat) (h : x < 4294967296) : bg0 x < 4294967296 := Nat.xor_lt_two_pow (n := 32) (Nat.xor_lt_two_pow (rotr_lt x 2 h) (rotr_lt x 13 h)) (rotr_lt x 22 h)
theorem bg1_bits (x : Nat) (h : x < 4294967296) : bits .xor .u32 (bits .xor .u32 ((rotr x 6 : Nat) : Int) ((rotr x 11 : Nat) : Int)) ((rotr x 25 : Nat) : Int) = ((bg1 x : Nat) : Int) := by
  rw [u32_xor_nat _ _ (rotr_lt x 6 h) (rotr_lt x 11 h), u32_xor_nat _ _ (Nat.xor_lt_two_pow (n := 32) (rotr_lt x 6 h) (rotr_lt x 11 h)) (rotr_lt x 25 h)]
  rfl
theorem bg0_bits (x : Nat) (h : x < 4294967296) : bits .xor .u32 (bits .xor .u32 ((rotr x 2 : Nat) : Int) ((rotr x 13 : Nat) : Int)) ((rotr x 22 : Nat) : Int) = ((bg0 x : Nat) : Int) := by
  rw [u32_xor_nat _ _ (rotr_lt x 2 h) (rotr_lt x 13 h), u32_xor_nat _ _ (Nat.xor_lt_two_pow (n := 32) (rotr_lt x 2 h) (rotr_lt x 13 h)) (rotr_lt x 22 h)]
  rfl
theorem chW_lt (e f g : Nat) (he : e < 4294967296) (hf : f < 4294967296) (hg : g < 4294967296) : chW e f g < 4294967296 :=
  Nat.xor_lt_two_pow (n := 32) (Nat.lt_of_le_of_lt Nat.and_le_left he) (Nat.lt_of_le_of_lt Nat.and_le_right hg)
theorem mjW_lt (a b c : Nat) (ha : a < 4294967296) (hb : b < 4294967296) (hc : c < 4294967296) : mjW a b c < 4294967296 :=
  Nat.xor_lt_two_pow (n := 32) (Nat.xor_lt_two_pow (Nat.lt_of_le_of_lt Nat.and_le_left ha) (Nat.lt_of_le_of_lt Nat.and_le_left ha)) (Nat.lt_of_le_of_lt Nat.and_le_left hb)
theorem chW_bits (e f g : Nat) (he : e < 4294967296) (hf : f < 4294967296) (hg : g < 4294967296) (m : Int) (hm : m = ((4294967295 - e : Nat) : Int)) :
    bits .xor .u32 (bits .and .u32 (e : Int) (f : Int)) (bits .and .u32 m (g : Int)) = ((chW e f g : Nat) : Int) := by
  rw [hm, u32_and_nat _ _ he hf, u32_and_nat _ _ (by omega) hg, u32_xor_nat _ _ (Nat.lt_of_le_of_lt Nat.and_le_left he) (Nat.lt_of_le_of_lt Nat.and_le_right hg)]
  rfl
theorem mjW_bits (a b c : Nat) (ha : a < 4294967296) (hb : b < 4294967296) (hc : c < 4294967296) :
    bits .xor .u32 (bits .xor .u32 (bits .and .u32 (a : Int) (b : Int)) (bits .and .u32 (a : Int) (c : Int))) (bits .and .u32 (b : Int) (c : Int)) = ((mjW a b c : Nat) : Int) := by
  rw [u32_and_nat _ _ ha hb, u32_and_nat _ _ ha hc, u32_and_nat _ _ hb hc, u32_xor_nat _ _ (Nat.lt_of_le_of_lt Nat.and_le_left ha) (Nat.lt_of_le_of_lt Nat.and_le_left ha), u32_xor_nat _ _ (Nat.xor_lt_two_pow (n := 32) (Nat.lt_of_le_of_lt Nat.and_le_left ha) (Nat.lt_of_le_of_lt Nat.and_le_left ha)) (Nat.lt_of_le_of_lt Nat.and_le_left hb)]
  rfl
end Go.Proofs.YtcedojmhgmgcgaaGreatDoor
namespace Go.Proofs.YtcedojmhgmgcgaaGreatDoor
open Go.RowKit Go
set_option linter.unusedVariables false
set_option linter.unusedSimpArgs false
set_option maxRecDepth 100000
theorem rq {n : Int} {x r : Nat} {w : World} (h : Calls Tryz.prog 61 #[.int .u32 x, .int .i64 n] w fun e w' => e = .returned (.int .u32 (r : Nat)) ∧ w = w') : Calls Tryz.prog 61 #[.int .u32 x, .int .i64 n] w fun e w' => e = .returned (.int .u32 (r : Nat)) ∧ w' = w := h.mono fun _ _ h => ⟨h.1, h.2.symm⟩
theorem v8_get (v : V8) : v.list.map v32 = [v32 v.a, v32 v.b, v32 v.c, v32 v.d, v32 v.e, v32 v.f, v32 v.g, v32 v.h] := rfl
/-- The state of the rounds. -/
structure StepS (w : World) (G GW GV : Nat) (v0 v : V8) (ks ws : List Nat) (W : World) : Prop where
  ss : ArrIs W G 75 (v0.list.map v32)
  kk : ArrIs W (G + 1 + 1) 81 (ks.map v32)
  rr : ArrIs W (G + 1 + 1 + 1) 75 (List.replicate 8 (.int .u32 0))
  ww : ArrIs W GW 81 (ws.map v32)
  vv : ArrIs W GV 75 (v.list.map v32)
  bb : Below G w W
theorem StepS.drewN {w W : World} {G GW GV : Nat} {v0 v : V8} {ks ws : List Nat} (h : StepS w G GW GV v0 v ks ws W) (j : Nat) : StepS w G GW GV v0 v ks ws (W.drewN j) := ⟨h.ss, h.kk, h.rr, h.ww, h.vv, ⟨h.bb.os, h.bb.tape, h.bb.output, h.bb.size, h.bb.block⟩⟩
theorem StepS.cells {w W : World} {G GW GV a b c d e f g h : Nat} {v0 : V8} {ks ws : List Nat} (H : StepS w G GW GV v0 ⟨a, b, c, d, e, f, g, h⟩ ks ws W) :
    W.cell? ⟨GV, 0, none⟩ = some (v32 a) ∧ W.cell? ⟨GV, 1, none⟩ = some (v32 b) ∧ W.cell? ⟨GV, 2, none⟩ = some (v32 c) ∧ W.cell? ⟨GV, 3, none⟩ = some (v32 d) ∧ W.cell? ⟨GV, 4, none⟩ = some (v32 e) ∧ W.cell? ⟨GV, 5, none⟩ = some (v32 f) ∧ W.cell? ⟨GV, 6, none⟩ = some (v32 g) ∧ W.cell? ⟨GV, 7, none⟩ = some (v32 h) :=
  ⟨H.vv.cell rfl, H.vv.cell rfl, H.vv.cell rfl, H.vv.cell rfl, H.vv.cell rfl, H.vv.cell rfl, H.vv.cell rfl, H.vv.cell rfl⟩
theorem ones_xor (x : Nat) (h : x < 4294967296) : 4294967295 ^^^ x = 4294967295 - x := by
  have e : (BitVec.allOnes 32 ^^^ BitVec.ofNat 32 x).toNat = (~~~ (BitVec.ofNat 32 x)).toNat := by rw [BitVec.allOnes_xor]
  rw [BitVec.toNat_xor, BitVec.toNat_not, BitVec.toNat_allOnes, BitVec.toNat_ofNat, Nat.mod_eq_of_lt h] at e
  simpa using e
theorem not32 (x : Nat) (h : x < 4294967296) : bits BinOp.xor IntKind.u32 IntKind.u32.max (x : Int) = ((4294967295 - x : Nat) : Int) := by
  have e : IntKind.u32.max = ((4294967295 : Nat) : Int) := by decide
  rw [e, u32_xor_nat _ _ (by decide) h, ones_xor x h]
def mixL (v u : V8) (i : Nat) : List Nat := (List.zipWith (fun x y => (x + y) % 4294967296) v.list u.list).take i ++ v.list.drop i
theorem mixL_zero (v u : V8) : mixL v u 0 = v.list := rfl
theorem mixL_full (v u : V8) : mixL v u 8 = (addV v u).list := rfl
theorem mixL_get (v u : V8) (i : Nat) (hi : i < 8) : ∃ p q, v.list[i]? = some p ∧ u.list[i]? = some q ∧ (mixL v u i)[i]? = some p ∧ mixL v u (i + 1) = (mixL v u i).set i ((p + q) % 4294967296) := by
  match i, hi with
  | 0, _ => exact ⟨_, _, rfl, rfl, rfl, rfl⟩
  | 1, _ => exact ⟨_, _, rfl, rfl, rfl, rfl⟩
  | 2, _ => exact ⟨_, _, rfl, rfl, rfl, rfl⟩
  | 3, _ => exact ⟨_, _, rfl, rfl, rfl, rfl⟩
  | 4, _ => exact ⟨_, _, rfl, rfl, rfl, rfl⟩
  | 5, _ => exact ⟨_, _, rfl, rfl, rfl, rfl⟩
  | 6, _ => exact ⟨_, _, rfl, rfl, rfl, rfl⟩
  | 7, _ => exact ⟨_, _, rfl, rfl, rfl, rfl⟩
theorem V8.Ok.mem {v : V8} (h : v.Ok) : ∀ x ∈ v.list, x < 4294967296 := by
  intro x hx
  simp only [V8.list, List.mem_cons, List.not_mem_nil, or_false] at hx
  rcases hx with rfl | rfl | rfl | rfl | rfl | rfl | rfl | rfl
  · exact h.a
  · exact h.b
  · exact h.c
  · exact h.d
  · exact h.e
  · exact h.f
  · exact h.g
  · exact h.h
theorem built8 (a b c d e f g h : Int) : Tryz.prog.built 75 [(0, .int .u32 a), (1, .int .u32 b), (2, .int .u32 c), (3, .int .u32 d), (4, .int .u32 e), (5, .int .u32 f), (6, .int .u32 g), (7, .int .u32 h)] = some #[.int .u32 a, .int .u32 b, .int .u32 c, .int .u32 d, .int .u32 e, .int .u32 f, .int .u32 g, .int .u32 h] := by kernel_rfl
theorem wpList_b8 {ops : Array Oper} {rest : List Oper} {o : Oper} {a : Act} {w : World} {Q : Exit → Act → World → Prop} (hg : o.guard = none) (x0 x1 x2 x3 x4 x5 x6 x7 : Operand) (ho : o.op = .build 75 #[(0, x0), (1, x1), (2, x2), (3, x3), (4, x4), (5, x5), (6, x6), (7, x7)]) (d : Option Tmp) (hd : o.dst = d) (a0 a1 a2 a3 a4 a5 a6 a7 : Int)
    (h0 : a.eval x0 = .int .u32 a0) (h1 : a.eval x1 = .int .u32 a1) (h2 : a.eval x2 = .int .u32 a2) (h3 : a.eval x3 = .int .u32 a3) (h4 : a.eval x4 = .int .u32 a4) (h5 : a.eval x5 = .int .u32 a5) (h6 : a.eval x6 = .int .u32 a6) (h7 : a.eval x7 = .int .u32 a7)
    (h : wpList Tryz.prog ops Q rest (a.put d (.agg #[.int .u32 a0, .int .u32 a1, .int .u32 a2, .int .u32 a3, .int .u32 a4, .int .u32 a5, .int .u32 a6, .int .u32 a7])) w) : wpList Tryz.prog ops Q (o :: rest) a w := by
  refine wpList_buildTo hg _ _ ho d hd #[.int .u32 a0, .int .u32 a1, .int .u32 a2, .int .u32 a3, .int .u32 a4, .int .u32 a5, .int .u32 a6, .int .u32 a7] ?_ h
  simp only [List.map_toArray, List.map_cons, List.map_nil, h0, h1, h2, h3, h4, h5, h6, h7]
  exact built8 a0 a1 a2 a3 a4 a5 a6 a7
theorem agg_hold (l : List Nat) (n : Nat) (h : l.length = n) : (l.map v32).toArray.size = n := by simp [h]
set_option maxHeartbeats 4000000 in
theorem step_any (v0 : V8) (ks bs : List Nat) (hv : v0.Ok) (hks : ks.length = 64) (hkl : ∀ x ∈ ks, x < 4294967296) (hl : bs.length = 64) (hb : ∀ x ∈ bs, x < 256) (w : World) :
    Calls Tryz.prog 35 #[.agg (v0.list.map v32).toArray, .agg (bs.map v8).toArray, .agg (ks.map v32).toArray] w fun e w' => e = .returned (.agg ((blockW v0 ks bs).list.map v32).toArray) ∧ Below w.heap.size w w' := by
  have SC := Lib.hid (fun W => schedule_any bs hl hb W)
  have hws : (schW bs).length = 64 := by unfold schW; rw [restW_len, firstW_len]
  have hwl : ∀ x ∈ schW bs, x < 4294967296 := restW_lt _ (firstW_lt bs hb 16) 48
  obtain ⟨ws, hws0⟩ : ∃ ws, schW bs = ws := ⟨_, rfl⟩
  have HBW : Hid (blockW v0 ks bs = addV v0 (goW v0 ks ws 64)) := by unfold Hid blockW; rw [hws0]
  rw [hws0] at SC hws hwl
  obtain ⟨c0, hc0⟩ : ∃ c, (v0.list.map v32).toArray = c := ⟨_, rfl⟩
  obtain ⟨c1, hc1⟩ : ∃ c, (bs.map v8).toArray = c := ⟨_, rfl⟩
  obtain ⟨c2, hc2⟩ : ∃ c, (ks.map v32).toArray = c := ⟨_, rfl⟩
  obtain ⟨c3, hc3⟩ : ∃ c, (ws.map v32).toArray = c := ⟨_, rfl⟩
  have HC0 := Lib.hid hc0
  have HC2 := Lib.hid hc2
  have HC3 := Lib.hid hc3
  have s0 : c0.size = 8 := by rw [← hc0]; rfl
  have s1 : c1.size = 64 := by rw [← hc1]; simp [hl]
  have s3 : c3.size = 64 := by rw [← hc3]; simp [hws]
  have o0 : c0.all (·.oneCell') = true := by rw [← hc0]; exact all32 _
  have o3 : c3.all (·.oneCell') = true := by rw [← hc3]; exact all32 _
  have z0 : (Tryz.prog.info? 75).map (·.size) = some c0.size := by rw [s0]; kernel_rfl
  have z1 : (Tryz.prog.info? 77).map (·.size) = some c1.size := by rw [s1]; kernel_rfl
  have z3 : (Tryz.prog.info? 81).map (·.size) = some c3.size := by rw [s3]; kernel_rfl
  have HZ := Lib.hid (show _ ∧ _ ∧ _ ∧ _ ∧ _ ∧ _ ∧ _ ∧ _ from ⟨s0, s1, s3, o0, o3, z0, z1, z3⟩)
  rw [hc0, hc1, hc2]
  rw [hc1, hc3] at SC
  have HV := Lib.hid hv
  have HKS := Lib.hid (show _ ∧ _ ∧ _ ∧ _ from ⟨hks, hkl, hws, hwl⟩)
  clear hv hks hkl hl hb hws hwl hws0 hc0 hc1 hc2 hc3 s0 s1 s3 o0 o3 z0 z1 z3
  have K1 : Hid ((((w.alloc (.cells c0 75)).alloc (.cells c1 77)).alloc (.cells c2 81)).heap[w.heap.size + 1]? = some (.cells c1 77)) := has_alloc (has_new' _ _ _ (by simp)) _
  have K1' : Hid (((((w.alloc (.cells c0 75)).alloc (.cells c1 77)).alloc (.cells c2 81)).alloc (.cells #[.int .u32 0, .int .u32 0, .int .u32 0, .int .u32 0, .int .u32 0, .int .u32 0, .int .u32 0, .int .u32 0] 75)).heap[w.heap.size + 1]? = some (.cells c1 77)) := has_alloc K1.out _
  go_enter Tryz.func35, Tryz.ntmps35
  go_wp2_with (refine wpList_load_row rfl _ _ rfl (w.heap.size + 1) rfl _ _ _ _ K1'.out Tryz.underlying77 rfl HZ.out.2.2.2.2.2.2.1 ?_)
  refine (SC.out _).mono ?_
  rintro e w1 ⟨rfl, hb1⟩
  have b4 : Below w.heap.size w w1 := kp_call (kp_alloc (kp_alloc (kp_alloc (kp_alloc (Below.refl _ _) _) _) _) _) hb1
  have hz1 := hb1.size
  simp only [World.size_alloc] at hz1
  have g0 : w1.heap[w.heap.size]? = some (.cells c0 75) := has_below (has_alloc (has_alloc (has_alloc (has_new w _) _) _) _) hb1
  have g2 : w1.heap[w.heap.size + 1 + 1]? = some (.cells c2 81) := has_below (has_alloc (has_new' _ _ _ (by simp)) _) hb1
  have g3 : w1.heap[w.heap.size + 1 + 1 + 1]? = some (.cells #[.int .u32 0, .int .u32 0, .int .u32 0, .int .u32 0, .int .u32 0, .int .u32 0, .int .u32 0, .int .u32 0] 75) := has_below (has_new' _ _ _ (by simp)) hb1
  have LD : Hid (∀ o, ((w1.alloc o).setRow w1.heap.size c3).heap[w.heap.size]? = some (.cells c0 75 (0, 0))) := fun o => by
    rw [setRow_other _ _ _ _ (by omega)]; exact has_alloc g0 o
  have HG := Lib.hid (show _ ∧ _ ∧ _ ∧ _ from ⟨g0, g2, g3, b4⟩)
  clear g0 g2 g3 b4 hb1 SC K1 K1'
  go_wp2_with (first
    | (refine wpList_store_row rfl _ _ _ rfl w1.heap.size c3 rfl rfl _ _ (has_new w1 _) HZ.out.2.2.2.2.2.2.2 (by rw [HZ.out.2.2.1]; rfl) HZ.out.2.2.2.2.1 ?_)
    | (refine wpList_load_row rfl _ _ rfl w.heap.size rfl _ _ _ _ (LD.out _) Tryz.underlying75 rfl HZ.out.2.2.2.2.2.1 ?_)
    | (refine wpList_store_row rfl _ _ _ rfl (w1.heap.size + 1) c0 rfl rfl _ _ (has_new' _ _ _ (by simp)) HZ.out.2.2.2.2.2.1 (by rw [HZ.out.1]; rfl) HZ.out.2.2.2.1 ?_))
  refine wp_nm fun W2 hW2 => ?_
  have S2 : Hid (StepS w w.heap.size w1.heap.size (w1.heap.size + 1) v0 (goW v0 ks ws 0) ks ws W2) := by
    obtain ⟨g0, g2, g3, b4⟩ := HG.out
    rw [← hW2]
    refine ⟨?_, ?_, ?_, ?_, ?_, ?_⟩
    · unfold ArrIs
      rw [HC0.out, setRow_other _ _ _ _ (by omega)]
      exact has_alloc (LD.out _) _
    · unfold ArrIs
      rw [HC2.out, setRow_other _ _ _ _ (by omega)]
      refine has_alloc ?_ _
      rw [setRow_other _ _ _ _ (by omega)]
      exact has_alloc g2 _
    · unfold ArrIs
      rw [setRow_other _ _ _ _ (by omega)]
      refine has_alloc ?_ _
      rw [setRow_other _ _ _ _ (by omega)]
      exact has_alloc g3 _
    · unfold ArrIs
      rw [HC3.out, setRow_other _ _ _ _ (by omega)]
      refine has_alloc ?_ _
      rw [setRow_heap _ w1.heap.size _ _ _ _ (has_new w1 _)]
    · unfold ArrIs
      rw [setRow_heap _ (w1.heap.size + 1) _ _ _ _ (has_new' _ _ _ (by simp))]
      show _ = some (Obj.cells (v0.list.map v32).toArray _)
      rw [HC0.out]
    · refine below_setRow ?_ (by omega) _
      refine Below.alloc ?_ (by simp; omega) _
      refine below_setRow ?_ (by omega) _
      exact Below.alloc b4 (by omega) _
  clear hW2 LD HC0 HC2 HC3 HG
  obtain ⟨G, hG⟩ : ∃ G, w.heap.size = G := ⟨_, rfl⟩
  have HGG := Lib.hid hG
  rw [hG] at S2 hz1 ⊢
  clear hG
  obtain ⟨GW, hGW⟩ : ∃ GW, w1.heap.size = GW := ⟨_, rfl⟩
  rw [hGW] at S2 hz1 ⊢
  clear hGW
  go_wp2
  go_loopw [18] (fun vi wl => ∃ t : Nat, vi = .int .i64 (t : Int) ∧ t ≤ 64 ∧ Hid (StepS w G GW (GW + 1) v0 (goW v0 ks ws t) ks ws wl)) (fun vi _ => 64 - (intOf vi).toNat)
  case atStart => exact ⟨0, rfl, Nat.zero_le _, S2.out⟩
  case round =>
    obtain ⟨t, rfl, ht, HK⟩ := hrel
    clear S2
    by_cases hlt : t < 64
    · as_aux_lemma =>
      obtain ⟨v, hv⟩ : ∃ v, goW v0 ks ws t = v := ⟨_, rfl⟩
      have hvo : v.Ok := by rw [← hv]; exact goW_ok v0 ks ws HV.out t
      have hst := HK.out
      rw [hv] at hst
      obtain ⟨ke, hke⟩ : ∃ z, ks.getD t 0 = z := ⟨_, rfl⟩
      obtain ⟨we, hwe⟩ : ∃ z, ws.getD t 0 = z := ⟨_, rfl⟩
      have kl : ke < 4294967296 := by rw [← hke]; exact getD_ltSh ks 4294967296 (by decide) HKS.out.2.1 _
      have wl : we < 4294967296 := by rw [← hwe]; exact getD_ltSh ws 4294967296 (by decide) HKS.out.2.2.2 _
      have ck := hst.kk.cell (j := t) (u := v32 ke) (by rw [List.getElem?_map, List.getElem?_eq_getElem (by rw [HKS.out.1]; exact hlt), ← hke, List.getD_eq_getElem?_getD, List.getElem?_eq_getElem (by rw [HKS.out.1]; exact hlt)]; rfl)
      have cw := hst.ww.cell (j := t) (u := v32 we) (by rw [List.getElem?_map, List.getElem?_eq_getElem (by rw [HKS.out.2.2.1]; exact hlt), ← hwe, List.getD_eq_getElem?_getD, List.getElem?_eq_getElem (by rw [HKS.out.2.2.1]; exact hlt)]; rfl)
      obtain ⟨va, vb, vc, vd, ve, vf, vg, vh⟩ := v
      obtain ⟨la, lb, lc, ld, le, lf, lg, lh⟩ := hvo
      simp only at la lb lc ld le lf lg lh
      have x0 := hst.vv.cell (j := 0) (u := v32 va) rfl
      have x1 := hst.vv.cell (j := 1) (u := v32 vb) rfl
      have x2 := hst.vv.cell (j := 2) (u := v32 vc) rfl
      have x3 := hst.vv.cell (j := 3) (u := v32 vd) rfl
      have x4 := hst.vv.cell (j := 4) (u := v32 ve) rfl
      have x5 := hst.vv.cell (j := 5) (u := v32 vf) rfl
      have x6 := hst.vv.cell (j := 6) (u := v32 vg) rfl
      have x7 := hst.vv.cell (j := 7) (u := v32 vh) rfl
      have i1 : (t : Int) < 64 := by omega
      have R6 := Lib.hid (fun W => rq (rot_6 ve le W))
      have R11 := Lib.hid (fun W => rq (rot_11 ve le W))
      have R25 := Lib.hid (fun W => rq (rot_25 ve le W))
      have R2 := Lib.hid (fun W => rq (rot_2 va la W))
      have R13 := Lib.hid (fun W => rq (rot_13 va la W))
      have R22 := Lib.hid (fun W => rq (rot_22 va la W))
      have b1 := bg1_bits ve le
      have b0 := bg0_bits va la
      have bn := not32 ve le
      obtain ⟨nm, hnm⟩ : ∃ z, 4294967295 - ve = z := ⟨_, rfl⟩
      have bc1 := chW_bits ve vf vg le lf lg (nm : Int) (by rw [hnm])
      rw [hnm] at bn
      clear hnm
      have bm := mjW_bits va vb vc la lb lc
      have l1 := bg1_lt ve le
      have l0 := bg0_lt va la
      have l2 := chW_lt ve vf vg le lf lg
      have l3 := mjW_lt va vb vc la lb lc
      have HST0 : Hid (stepW ⟨va, vb, vc, vd, ve, vf, vg, vh⟩ ke we = ⟨((((((vh + bg1 ve) % 4294967296 + chW ve vf vg) % 4294967296 + ke) % 4294967296 + we) % 4294967296) + (bg0 va + mjW va vb vc) % 4294967296) % 4294967296, va, vb, vc, (vd + (((((vh + bg1 ve) % 4294967296 + chW ve vf vg) % 4294967296 + ke) % 4294967296 + we) % 4294967296)) % 4294967296, ve, vf, vg⟩) := rfl
      obtain ⟨o6, ho6⟩ : ∃ z, rotr ve 6 = z := ⟨_, rfl⟩
      obtain ⟨o11, ho11⟩ : ∃ z, rotr ve 11 = z := ⟨_, rfl⟩
      obtain ⟨o25, ho25⟩ : ∃ z, rotr ve 25 = z := ⟨_, rfl⟩
      obtain ⟨o2, ho2⟩ : ∃ z, rotr va 2 = z := ⟨_, rfl⟩
      obtain ⟨o13, ho13⟩ : ∃ z, rotr va 13 = z := ⟨_, rfl⟩
      obtain ⟨o22, ho22⟩ : ∃ z, rotr va 22 = z := ⟨_, rfl⟩
      obtain ⟨g1, hg1⟩ : ∃ z, bg1 ve = z := ⟨_, rfl⟩
      obtain ⟨g0, hg0⟩ : ∃ z, bg0 va = z := ⟨_, rfl⟩
      obtain ⟨ch, hch⟩ : ∃ z, chW ve vf vg = z := ⟨_, rfl⟩
      obtain ⟨mj, hmj⟩ : ∃ z, mjW va vb vc = z := ⟨_, rfl⟩
      rw [ho6] at R6 b1
      rw [ho11] at R11 b1
      rw [ho25] at R25 b1
      rw [ho2] at R2 b0
      rw [ho13] at R13 b0
      rw [ho22] at R22 b0
      rw [hg1] at b1 l1 HST0
      rw [hg0] at b0 l0 HST0
      rw [hch] at bc1 l2 HST0
      rw [hmj] at bm l3 HST0
      obtain ⟨z1, hz1'⟩ : ∃ z, (vh + g1) % 4294967296 = z := ⟨_, rfl⟩
      obtain ⟨z2, hz2⟩ : ∃ z, (z1 + ch) % 4294967296 = z := ⟨_, rfl⟩
      obtain ⟨z3, hz3⟩ : ∃ z, (z2 + ke) % 4294967296 = z := ⟨_, rfl⟩
      obtain ⟨z4, hz4⟩ : ∃ z, (z3 + we) % 4294967296 = z := ⟨_, rfl⟩
      obtain ⟨z5, hz5⟩ : ∃ z, (g0 + mj) % 4294967296 = z := ⟨_, rfl⟩
      obtain ⟨z6, hz6⟩ : ∃ z, (z4 + z5) % 4294967296 = z := ⟨_, rfl⟩
      obtain ⟨z7, hz7⟩ : ∃ z, (vd + z4) % 4294967296 = z := ⟨_, rfl⟩
      rw [hz1', hz2, hz3, hz4, hz5, hz6, hz7] at HST0
      have w1 : IntKind.u32.wrap ((vh : Int) + (g1 : Int)) = (z1 : Int) := by rw [IntKind.wrap_u32]; omega
      have w2 : IntKind.u32.wrap ((z1 : Int) + (ch : Int)) = (z2 : Int) := by rw [IntKind.wrap_u32]; omega
      have w3 : IntKind.u32.wrap ((z2 : Int) + (ke : Int)) = (z3 : Int) := by rw [IntKind.wrap_u32]; omega
      have w4 : IntKind.u32.wrap ((z3 : Int) + (we : Int)) = (z4 : Int) := by rw [IntKind.wrap_u32]; omega
      have w5 : IntKind.u32.wrap ((g0 : Int) + (mj : Int)) = (z5 : Int) := by rw [IntKind.wrap_u32]; omega
      have w6 : IntKind.u32.wrap ((z4 : Int) + (z5 : Int)) = (z6 : Int) := by rw [IntKind.wrap_u32]; omega
      have w7 : IntKind.u32.wrap ((vd : Int) + (z4 : Int)) = (z7 : Int) := by rw [IntKind.wrap_u32]; omega
      have y6 : ((z4 : Int) + (z5 : Int)) % 4294967296 = (z6 : Int) := by omega
      have y7 : ((vd : Int) + (z4 : Int)) % 4294967296 = (z7 : Int) := by omega
      have y1 : ((vh : Int) + (g1 : Int)) % 4294967296 = (z1 : Int) := by omega
      have y2 : ((z1 : Int) + (ch : Int)) % 4294967296 = (z2 : Int) := by omega
      have y3 : ((z2 : Int) + (ke : Int)) % 4294967296 = (z3 : Int) := by omega
      have y4 : ((z3 : Int) + (we : Int)) % 4294967296 = (z4 : Int) := by omega
      have y5 : ((g0 : Int) + (mj : Int)) % 4294967296 = (z5 : Int) := by omega
      have y8 : ((z1 : Int) + (ch : Int) + (ke : Int) + (we : Int)) % 4294967296 = (z4 : Int) := by omega
      have y9 : ((vh : Int) + (g1 : Int) + (ch : Int) + (ke : Int) + (we : Int)) % 4294967296 = (z4 : Int) := by omega
      have HNX : Hid (goW v0 ks ws (t + 1) = ⟨z6, va, vb, vc, z7, ve, vf, vg⟩) := by
        unfold Hid
        show stepW (goW v0 ks ws t) (ks.getD t 0) (ws.getD t 0) = _
        rw [hv, hke, hwe]
        exact HST0.out
      have HS0 := Lib.hid hst
      clear hst HK ho6 ho11 ho25 ho2 ho13 ho22 hg1 hg0 hch hmj hz1' hz2 hz3 hz4 hz5 hz6 hz7 hv hke hwe HST0
      go_wp2_with fail
      go_quiet (fail)
      have HS1 := Lib.hid (HS0.out.drewN nq)
      have ck1 : (wr.drewN nq).cell? ⟨G + 1 + 1, t, none⟩ = some (v32 ke) := ck
      have cw1 : (wr.drewN nq).cell? ⟨GW, t, none⟩ = some (v32 we) := cw
      clear ck cw x0 x1 x2 x3 x4 x5 x6 x7 HS0
      generalize wr.drewN nq = wq at HS1 ck1 cw1 ⊢
      obtain ⟨x0, x1, x2, x3, x4, x5, x6, x7⟩ := HS1.out.cells
      go_wp2_with fail
      go_quiet (first
        | (go_at_call 61; (with_reducible exact Calls.quiet_of_same (R6.out _)))
        | (go_at_call 61; (with_reducible exact Calls.quiet_of_same (R11.out _)))
        | (go_at_call 61; (with_reducible exact Calls.quiet_of_same (R25.out _))))
      have HS2 := Lib.hid (HS1.out.drewN nq)
      clear x0 x1 x2 x3 x4 x5 x6 x7 HS1 ck1 cw1
      generalize wq.drewN nq = wp at HS2 ⊢
      obtain ⟨x0, x1, x2, x3, x4, x5, x6, x7⟩ := HS2.out.cells
      go_wp2_with fail
      go_quiet (first
        | (go_at_call 61; (with_reducible exact Calls.quiet_of_same (R2.out _)))
        | (go_at_call 61; (with_reducible exact Calls.quiet_of_same (R13.out _)))
        | (go_at_call 61; (with_reducible exact Calls.quiet_of_same (R22.out _))))
      have HS3 := Lib.hid (HS2.out.drewN nq)
      clear x0 x1 x2 x3 x4 x5 x6 x7 HS2
      generalize wp.drewN nq = wz at HS3 ⊢
      obtain ⟨x0, x1, x2, x3, x4, x5, x6, x7⟩ := HS3.out.cells
      obtain ⟨d8, hd8⟩ : ∃ d, ((⟨z6, va, vb, vc, z7, ve, vf, vg⟩ : V8).list.map v32).toArray = d := ⟨_, rfl⟩
      have VV : Hid (wz.heap[GW + 1]? = some (.cells ((⟨va, vb, vc, vd, ve, vf, vg, vh⟩ : V8).list.map v32).toArray 75 (0, 0))) := HS3.out.vv
      clear b0 b1 bc1 bm bn w1 w2 w3 w4 w5 y1 y2 y3 y4 y5 y8 y9 R6 R11 R25 R2 R13 R22 hd8
      go_wp2_with (first | (refine wpList_b8 rfl _ _ _ _ _ _ _ _ rfl _ rfl (z6 : Int) (va : Int) (vb : Int) (vc : Int) (z7 : Int) (ve : Int) (vf : Int) (vg : Int) rfl rfl rfl rfl rfl rfl rfl rfl ?_) | (refine wpList_store_row rfl _ _ _ rfl (GW + 1) #[.int .u32 (z6 : Int), .int .u32 (va : Int), .int .u32 (vb : Int), .int .u32 (vc : Int), .int .u32 (z7 : Int), .int .u32 (ve : Int), .int .u32 (vf : Int), .int .u32 (vg : Int)] rfl rfl _ _ VV.out (by kernel_rfl) (by kernel_rfl) (all32 [z6, va, vb, vc, z7, ve, vf, vg]) ?_))
      have HF : Hid (StepS w G GW (GW + 1) v0 (goW v0 ks ws (t + 1)) ks ws (wz.setRow (GW + 1) ((⟨z6, va, vb, vc, z7, ve, vf, vg⟩ : V8).list.map v32).toArray)) := by
        obtain ⟨q1, q2, q3, q4, q5, q6⟩ := HS3.out
        rw [HNX.out]
        refine ⟨?_, ?_, ?_, ?_, ?_, below_setRow q6 (by omega) _⟩
        · unfold ArrIs; rw [setRow_other _ _ _ _ (by omega)]; exact q1
        · unfold ArrIs; rw [setRow_other _ _ _ _ (by omega)]; exact q2
        · unfold ArrIs; rw [setRow_other _ _ _ _ (by omega)]; exact q3
        · unfold ArrIs; rw [setRow_other _ _ _ _ (by omega)]; exact q4
        · exact setRow_heap _ _ _ _ _ _ q5
      clear x0 x1 x2 x3 x4 x5 x6 x7 HS3 VV w6 w7 y6 y7
      go_wp2
      go_roundw
      case rel => exact ⟨t + 1, by go_num, by omega, HF.out⟩
      case measure => simp [intOf]; omega
    · as_aux_lemma =>
      have i1 : ¬ (t : Int) < 64 := by omega
      obtain ⟨u, hu⟩ : ∃ u, goW v0 ks ws t = u := ⟨_, rfl⟩
      have huo : u.Ok := by rw [← hu]; exact goW_ok v0 ks ws HV.out t
      have hst := HK.out
      rw [hu] at hst
      have HU : Hid (blockW v0 ks bs = addV v0 u) := by
        unfold Hid
        rw [HBW.out, ← hu, show t = 64 by omega]
      have S3 : Hid (ArrIs wr G 75 ((mixL v0 u 0).map v32) ∧ ArrIs wr (GW + 1) 75 (u.list.map v32) ∧ ArrIs wr (G + 1 + 1 + 1) 75 (List.replicate 8 (.int .u32 0)) ∧ Below G w wr) := ⟨hst.ss, hst.vv, hst.rr, hst.bb⟩
      have HVM := Lib.hid HV.out.mem
      have HUM := Lib.hid huo.mem
      clear hu huo hst HK
      go_wp2
      go_loopw [98] (fun vi wl => ∃ i : Nat, vi = .int .i64 (i : Int) ∧ i ≤ 8 ∧ Hid (ArrIs wl G 75 ((mixL v0 u i).map v32) ∧ ArrIs wl (GW + 1) 75 (u.list.map v32) ∧ ArrIs wl (G + 1 + 1 + 1) 75 (List.replicate 8 (.int .u32 0)) ∧ Below G w wl)) (fun vi _ => 8 - (intOf vi).toNat)
      case atStart => exact ⟨0, rfl, Nat.zero_le _, S3.out⟩
      case round =>
        obtain ⟨i, rfl, hi, HK⟩ := hrel
        clear S3
        by_cases hi8 : i < 8
        · as_aux_lemma =>
          obtain ⟨p, q, hp, hq, hm, hnx⟩ := mixL_get v0 u i hi8
          obtain ⟨a0, a1, a2, hb⟩ := HK.out
          have lp := HVM.out p (List.mem_of_getElem? hp)
          have lq := HUM.out q (List.mem_of_getElem? hq)
          have c0' := a0.cell (j := i) (u := v32 p) (by rw [List.getElem?_map, hm]; rfl)
          have c1' := a1.cell (j := i) (u := v32 q) (by rw [List.getElem?_map, hq]; rfl)
          have f0 := a0.free i
          obtain ⟨z, hz⟩ : ∃ z, (p + q) % 4294967296 = z := ⟨_, rfl⟩
          rw [hz] at hnx
          have HN : Hid (ArrIs (wr.setCell ⟨G, i, none⟩ (.int .u32 (z : Int))) G 75 ((mixL v0 u (i + 1)).map v32) ∧ ArrIs (wr.setCell ⟨G, i, none⟩ (.int .u32 (z : Int))) (GW + 1) 75 (u.list.map v32) ∧ ArrIs (wr.setCell ⟨G, i, none⟩ (.int .u32 (z : Int))) (G + 1 + 1 + 1) 75 (List.replicate 8 (.int .u32 0)) ∧ Below G w (wr.setCell ⟨G, i, none⟩ (.int .u32 (z : Int)))) := by
            refine ⟨?_, a1.far (by omega), a2.far (by omega), hb.setCell (Nat.le_refl _) _⟩
            rw [hnx, List.map_set]
            exact a0.set i _
          have w1 : IntKind.u32.wrap ((p : Int) + (q : Int)) = (z : Int) := by rw [IntKind.wrap_u32]; omega
          have y1 : ((p : Int) + (q : Int)) % 4294967296 = (z : Int) := by omega
          have i2 : (i : Int) < 8 := by omega
          clear hp hq hm hnx hz a0 a1 a2 hb HK
          go_wp2_with fail
          go_region
          all_goals
            clear w1 y1
            go_wp2
            go_roundw
            case rel => exact ⟨i + 1, by go_num, by omega, HN.out.1, HN.out.2.1, HN.out.2.2.1, HN.out.2.2.2.drew⟩
            case measure => simp [intOf]; omega
        · as_aux_lemma =>
          have i2 : ¬ (i : Int) < 8 := by omega
          obtain ⟨a0, a1, a2, hb⟩ := HK.out
          rw [show i = 8 by omega, mixL_full] at a0
          obtain ⟨ds, hds⟩ : ∃ ds, ((addV v0 u).list.map v32).toArray = ds := ⟨_, rfl⟩
          have hone : ds.all (·.oneCell') = true := by rw [← hds]; exact all32 _
          have hsz : ds.size = 8 := by rw [← hds]; rfl
          have hif : (Tryz.prog.info? 75).map (·.size) = some ds.size := by rw [hsz]; kernel_rfl
          have A1 : Hid (wr.heap[G]? = some (.cells ds 75 (0, 0))) := by rw [← hds]; exact a0
          have A0 : Hid (wr.heap[G + 1 + 1 + 1]? = some (.cells (List.replicate 8 (.int .u32 0)).toArray 75 (0, 0))) := a2
          have AR : Hid ((wr.setRow (G + 1 + 1 + 1) ds).heap[G + 1 + 1 + 1]? = some (.cells ds 75 (0, 0))) := setRow_heap wr _ _ _ _ _ a2
          have HB := Lib.hid (below_setRow hb (show G ≤ G + 1 + 1 + 1 by omega) ds)
          have HDS := Lib.hid hds
          have HC := Lib.hid (show _ ∧ _ ∧ _ from ⟨hsz, hone, hif⟩)
          clear hds a0 a1 a2 hb hsz hone hif HK
          go_wp2_with (first
            | (refine wpList_load_row rfl _ _ rfl G rfl _ _ _ _ A1.out Tryz.underlying75 rfl HC.out.2.2 ?_)
            | (refine wpList_store_row rfl _ _ _ rfl (G + 1 + 1 + 1) ds rfl rfl _ _ A0.out HC.out.2.2 (by rw [HC.out.1]; rfl) HC.out.2.1 ?_))
          refine bodyPost_ret (results_cell_row rfl _ _ (G + 1 + 1 + 1) _ _ _ _ rfl AR.out Tryz.underlying75 rfl HC.out.2.2) rfl ?_
          exact ⟨by rw [HU.out, HDS.out], by rw [HGG.out]; exact HB.out⟩
end Go.Proofs.YtcedojmhgmgcgaaGreatDoor
namespace Go.Proofs.YtcedojmhgmgcgaaGreatDoor
open Go.RowKit Go
set_option linter.unusedVariables false
set_option linter.unusedSimpArgs false
set_option maxRecDepth 100000
/-- How many noughts stand behind the first byte of the padding. -/
def zerosQ (t : Nat) : Nat := (119 - t % 64) % 64
def be8 (x i : Nat) : Nat := x * 8 % 18446744073709551616 / 2 ^ (56 - 8 * i) % 256
def padShQ (t : Nat) : List Nat := 128 :: (List.replicate (zerosQ t) 0 ++ [be8 t 0, be8 t 1, be8 t 2, be8 t 3, be8 t 4, be8 t 5, be8 t 6, be8 t 7])
theorem padQ_len (t : Nat) : (padShQ t).length = zerosQ t + 9 := by unfold padShQ; simp
theorem u8_row2 : RowT 22 5 1 1 (.int .u8 0) := ⟨Tryz.underlying22, by kernel_rfl, rfl, by decide⟩
theorem xor_zero_iff (a b : Nat) : a ^^^ b = 0 ↔ a = b := by
  constructor
  · intro h
    have h1 : a ^^^ b ^^^ b = 0 ^^^ b := by rw [h]
    rwa [Nat.xor_assoc, Nat.xor_self, Nat.xor_zero, Nat.zero_xor] at h1
  · rintro rfl
    exact Nat.xor_self a
end Go.Proofs.YtcedojmhgmgcgaaGreatDoor
namespace Go.Proofs.YtcedojmhgmgcgaaGreatDoor
open Go.RowKit Go
set_option linter.unusedVariables false
set_option linter.unusedSimpArgs false
set_option maxRecDepth 100000
def padShL (t : Nat) : List UInt8 := [be8 t 0, be8 t 1, be8 t 2, be8 t 3, be8 t 4, be8 t 5, be8 t 6, be8 t 7].map UInt8.ofNat
def padP (t i : Nat) : List UInt8 := (128 :: List.replicate (zerosQ t) 0) ++ ((padShL t).take i ++ List.replicate (8 - i) 0)
/-- The padding, as bytes. -/
def padB (t : Nat) : List UInt8 := padP t 8
theorem padL_get (t i : Nat) (h : i < 8) : (padShL t)[i]? = some (UInt8.ofNat (be8 t i)) := by
  match i, h with
  | 0, _ => rfl
  | 1, _ => rfl
  | 2, _ => rfl
  | 3, _ => rfl
  | 4, _ => rfl
  | 5, _ => rfl
  | 6, _ => rfl
  | 7, _ => rfl
theorem padP_zero (t : Nat) : (List.replicate (zerosQ t + 9) (0 : UInt8)).set 0 128 = padP t 0 := by
  unfold padP
  rw [List.replicate_succ]
  simp only [List.set_cons_zero, List.take_zero, List.nil_append, List.cons_append, List.replicate_append_replicate]
theorem padP_next (t i : Nat) (h : i < 8) : (padP t i).set (zerosQ t + 1 + i) (UInt8.ofNat (be8 t i)) = padP t (i + 1) := by
  have hl : (padShL t).length = 8 := rfl
  unfold padP
  rw [List.set_append_right _ _ (by simp <;> omega), List.set_append_right _ _ (by simp <;> omega)]
  rw [List.take_add_one, padL_get t i h, show 8 - i = (8 - (i + 1)) + 1 by omega, List.replicate_succ]
  rw [show zerosQ t + 1 + i - (128 :: List.replicate (zerosQ t) (0 : UInt8)).length - (List.take i (padShL t)).length = 0 by simp; omega]
  simp
theorem padP_len (t i : Nat) (h : i ≤ 8) : (padP t i).length = zerosQ t + 9 := by
  have hl : (padShL t).length = 8 := rfl
  unfold padP
  simp
  omega
theorem padB_eq (t : Nat) : padB t = (padShQ t).map UInt8.ofNat := by
  have hl : (padShL t).length = 8 := rfl
  unfold padB padP padShQ
  rw [List.take_of_length_le (by omega)]
  simp [padShL]
theorem be8_num (t i x : Nat) (hx : t * 8 % 18446744073709551616 = x) : (((UInt8.ofNat (be8 t i)).toNat : Nat) : Int) = (x : Int) / 2 ^ (56 - 8 * i) % 256 := by
  have hm : (UInt8.ofNat (be8 t i)).toNat = x / 2 ^ (56 - 8 * i) % 256 := by
    rw [UInt8.toNat_ofNat']
    unfold be8
    rw [hx]
    exact Nat.mod_mod _ _
  have hp : (2 : Int) ^ (56 - 8 * i) = ((2 ^ (56 - 8 * i) : Nat) : Int) := by simp
  rw [hp, hm]
  generalize 2 ^ (56 - 8 * i) = P
  omega
theorem run_shr56 (x j : Nat) (hj : j < 8) (w : World) : (Op.shift BinOp.shr IntKind.u64 (x : Int) IntKind.i64 (56 - 8 * (j : Int))).run Tryz.prog w = .ok (.int .u64 ((x : Int) / 2 ^ (56 - 8 * j))) w := by
  unfold Op.shift
  rw [if_neg (by omega)]
  have hm : min (56 - 8 * (j : Int)).toNat IntKind.u64.bits = 56 - 8 * j := by
    show min (56 - 8 * (j : Int)).toNat 64 = 56 - 8 * j
    omega
  simp only [hm]
  rw [Int.fdiv_eq_ediv_of_nonneg _ (Int.pow_nonneg (by decide))]
  rfl
theorem padding_any (t : Nat) (ht : t < 18446744073709551616) (w : World) :
    Calls Tryz.prog 41 #[.int .u64 (t : Int)] w fun e w' => e = .returned (.slice (some ⟨w.heap.size, 0, none⟩) (zerosQ t + 9 : Nat) (zerosQ t + 9 : Nat)) ∧ OwnB w' w.heap.size (some ⟨w.heap.size, 0, none⟩) (zerosQ t + 9) (zerosQ t + 9) (padB t) ∧ Below w.heap.size w w' := by
  obtain ⟨m, hm⟩ : ∃ m, t % 64 = m := ⟨_, rfl⟩
  obtain ⟨z, hz⟩ : ∃ z, zerosQ t = z := ⟨_, rfl⟩
  obtain ⟨x, hx⟩ : ∃ x, t * 8 % 18446744073709551616 = x := ⟨_, rfl⟩
  have hml : m < 64 := by omega
  have hz' : (119 - m) % 64 = z := by rw [← hz, ← hm]; rfl
  have hzl : z < 64 := by omega
  have p0 : padP t 0 = (List.replicate (z + 9) (0 : UInt8)).set 0 128 := by rw [← hz, padP_zero]
  have pn : ∀ i, i < 8 → (padP t i).set (z + 1 + i) (UInt8.ofNat (be8 t i)) = padP t (i + 1) := fun i hi => by rw [← hz]; exact padP_next t i hi
  have pl : ∀ i, i ≤ 8 → (padP t i).length = z + 9 := fun i hi => by rw [← hz]; exact padP_len t i hi
  have P0 := Lib.hid p0
  have PN := Lib.hid pn
  have PL := Lib.hid pl
  have HX := Lib.hid hx
  have a1 : (t : Int) % 64 = (m : Int) := by omega
  have a2 : (119 - (m : Int)) % 64 = (z : Int) := by omega
  have a3 : IntKind.u64.wrap (119 - (m : Int)) = 119 - (m : Int) := by rw [IntKind.wrap_u64]; omega
  have a4 : IntKind.u64.wrap (1 + (z : Int)) = 1 + (z : Int) := by rw [IntKind.wrap_u64]; omega
  have a5 : IntKind.u64.wrap (1 + (z : Int) + 8) = 1 + (z : Int) + 8 := by rw [IntKind.wrap_u64]; omega
  have a6 : IntKind.u64.wrap ((t : Int) * 8) = (x : Int) := by rw [IntKind.wrap_u64]; omega
  rw [hz]
  clear hm hz hz' p0 pn pl hx ht
  go_enter Tryz.func41, Tryz.ntmps41
  go_wp2_with (refine wpList_mk _ _ rfl rfl _ _ _ _ (z + 9) rfl rfl (by omega) (by omega) (by omega) ?_)
  intro w1 hown hg
  have hb : Below w.heap.size w w1 := (Below.refl _ _).grown hg (Nat.le_refl _) (by intro g hg; cases hg)
  have hc0 := hown.cellAt 0 0 (by simp)
  have hf0 := hown.free 0
  have HS : Hid (OwnB (w1.setCell ⟨w.heap.size, 0, none⟩ (.int .u8 128)) w.heap.size (some ⟨w.heap.size, 0, none⟩) (z + 9) (z + 9) (padP t 0) ∧ Below w.heap.size w (w1.setCell ⟨w.heap.size, 0, none⟩ (.int .u8 128))) := by
    refine ⟨?_, hb.setCell (Nat.le_refl _) _⟩
    rw [P0.out]
    exact hown.stored 0 128
  clear hown hg hb
  go_wp2
  go_loopw [16] (fun vi wl => ∃ i : Nat, vi = .int .i64 (i : Int) ∧ i ≤ 8 ∧ Hid (OwnB wl w.heap.size (some ⟨w.heap.size, 0, none⟩) (z + 9) (z + 9) (padP t i) ∧ Below w.heap.size w wl)) (fun vi _ => 8 - (intOf vi).toNat)
  case atStart => exact ⟨0, rfl, Nat.zero_le _, HS.out⟩
  case round =>
    obtain ⟨i, rfl, hi, HK⟩ := hrel
    clear HS hc0 hf0 a1 a2 a3 a4 a5
    by_cases hlt : i < 8
    · obtain ⟨hown, hbl⟩ := HK.out
      have i1 : (i : Int) < 8 := by omega
      obtain ⟨b0, hb0⟩ : ∃ b0, (padP t i)[z + 1 + i]? = some b0 := ⟨_, List.getElem?_eq_getElem (by rw [PL.out i hi]; omega)⟩
      have c0 := hown.cellAt (z + 1 + i) b0 hb0
      have f0 := hown.free (z + 1 + i)
      have e1 : IntKind.u64.wrap ((z : Int) + 9 - 8) = (z : Int) + 1 := by rw [IntKind.wrap_u64]; omega
      have e2 : IntKind.u64.wrap ((z : Int) + 1 + (i : Int)) = (z : Int) + 1 + (i : Int) := by rw [IntKind.wrap_u64]; omega
      have e3 : IntKind.u64.wrap ((i : Int)) = (i : Int) := by rw [IntKind.wrap_u64]; omega
      have e4 : IntKind.u64.wrap ((z : Int) + 9) = (z : Int) + 9 := by rw [IntKind.wrap_u64]; omega
      have e5 : IntKind.i64.wrap (8 * (i : Int)) = 8 * (i : Int) := IntWalk.i64_in _ (by omega)
      have e6 : IntKind.i64.wrap (56 - 8 * (i : Int)) = 56 - 8 * (i : Int) := IntWalk.i64_in _ (by omega)
      have hsh := run_shr56 x i hlt
      have hnb : IntKind.u8.wrap ((x : Int) / 2 ^ (56 - 8 * i)) = (((UInt8.ofNat (be8 t i)).toNat : Nat) : Int) := by rw [IntKind.wrap_u8', be8_num t i x HX.out]
      have i2 : 0 ≤ (z : Int) + 1 + (i : Int) := by omega
      have i3 : (z : Int) + 1 + (i : Int) < (z : Int) + 9 := by omega
      have i4 : ((z : Int) + 1 + (i : Int)).toNat = z + 1 + i := by omega
      have HST : Hid (OwnB (wr.setCell ⟨w.heap.size, z + 1 + i, none⟩ (.int .u8 (((UInt8.ofNat (be8 t i)).toNat : Nat) : Int))) w.heap.size (some ⟨w.heap.size, 0, none⟩) (z + 9) (z + 9) (padP t (i + 1)) ∧ Below w.heap.size w (wr.setCell ⟨w.heap.size, z + 1 + i, none⟩ (.int .u8 (((UInt8.ofNat (be8 t i)).toNat : Nat) : Int)))) := by
        refine ⟨?_, hbl.setCell (Nat.le_refl _) _⟩
        rw [← PN.out i hlt]
        exact hown.stored _ _
      clear hb0 hown hbl HK
      go_wp2
      go_roundw
      case rel => exact ⟨i + 1, by go_num, by omega, HST⟩
      case measure => simp [intOf]; omega
    · obtain rfl : i = 8 := by omega
      go_wp2
      go_ret
      exact ⟨rfl, HK.out⟩
end Go.Proofs.YtcedojmhgmgcgaaGreatDoor
