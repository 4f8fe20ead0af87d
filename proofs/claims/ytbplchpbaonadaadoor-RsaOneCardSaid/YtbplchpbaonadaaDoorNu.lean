/-
  nat: what the calls answer to right numbers.
-/
import Derived.Test.YtbplchpbaonadaaDoorNt
namespace Go.Proofs.YtbplchpbaonadaaDoor
open Go.RowKit Go
set_option linter.unusedVariables false
set_option linter.unusedSimpArgs false
set_option maxRecDepth 100000
theorem pw_mul {u v i j : Nat} (hu : u < 4294967296 ^ i) (hv : v < 4294967296 ^ j) : u * v < 4294967296 ^ (i + j) := by
  rw [Nat.pow_add]; exact Nat.mul_lt_mul'' hu hv
theorem pw_add {u v i : Nat} (hu : u < 4294967296 ^ i) (hv : v < 4294967296 ^ i) : u + v < 4294967296 ^ (i + 1) := by
  rw [Nat.pow_succ]
  generalize 4294967296 ^ i = T at *
  omega
theorem pw_le {u i j : Nat} (hu : u < 4294967296 ^ i) (h : i ≤ j) : u < 4294967296 ^ j := Nat.lt_of_lt_of_le hu (Nat.pow_le_pow_right (by decide) h)
theorem right_n {v i : Nat} (h : v < 4294967296 ^ i) (hi : i ≤ 256) : rightB (num v) = true := by rw [num_right, decide_eq_true (pw_le h hi)]
theorem fit_n {v i : Nat} (h : v < 4294967296 ^ i) (hi : i ≤ 256) : fitQ v = (num v, 0) := by unfold fitQ; rw [if_pos (pw_le h hi)]
theorem add_n {u v i : Nat} (hu : u < 4294967296 ^ i) (hv : v < 4294967296 ^ i) (hi : i + 1 ≤ 256) : addQ (num u) (num v) = (num (u + v), 0) := by
  unfold addQ
  rw [right_n hu (by omega), right_n hv (by omega), val_num, val_num, fit_n (pw_add hu hv) hi]
  rfl
theorem mul_n {u v i j : Nat} (hu : u < 4294967296 ^ i) (hv : v < 4294967296 ^ j) (hi : i + j ≤ 256) : mulQ (num u) (num v) = (num (u * v), 0) := by
  unfold mulQ
  rw [right_n hu (by omega), right_n hv (by omega), val_num, val_num, fit_n (pw_mul hu hv) hi]
  rfl
theorem sub_n {u v i : Nat} (hu : u < 4294967296 ^ i) (hv : v ≤ u) (hi : i ≤ 256) : subQ (num u) (num v) = (num (u - v), 0) := by
  unfold subQ
  rw [right_n hu hi, right_n (Nat.lt_of_le_of_lt hv hu) hi, val_num, val_num, decide_eq_true hv]
  rfl
theorem sub_bad {u v i : Nat} (hu : u < 4294967296 ^ i) (hw : v < 4294967296 ^ i) (hv : u < v) (hi : i ≤ 256) : subQ (num u) (num v) = ([], 1) := by
  unfold subQ
  rw [right_n hu hi, right_n hw hi, val_num, val_num, decide_eq_false (by omega)]
  rfl
theorem div_n {u v i : Nat} (hu : u < 4294967296 ^ i) (hv : v < 4294967296 ^ i) (h0 : 0 < v) (hi : i ≤ 256) : divQ (num u) (num v) = ((num (u / v), num (u % v)), 0) := by
  unfold divQ
  rw [right_n hu hi, right_n hv hi, val_num, val_num, num_pos v (by omega)]
  rfl
theorem div_z (u : Nat) : divQ (num u) (num 0) = (([], []), 1) := by
  unfold divQ
  rw [num_zero]
  cases rightB (num u) <;> rfl
theorem cmp_n {u v i : Nat} (hu : u < 4294967296 ^ i) (hv : v < 4294967296 ^ i) (hi : i ≤ 256) : cmpZ (num u) (num v) = cmpV u v := by
  unfold cmpZ
  rw [right_n hu hi, right_n hv hi, val_num, val_num]
  rfl
theorem brief_lt (x : List Nat) (k : Nat) (h : Lim x) : briefQ x k < 4294967296 ^ k := val_take_lt h k
end Go.Proofs.YtbplchpbaonadaaDoor
