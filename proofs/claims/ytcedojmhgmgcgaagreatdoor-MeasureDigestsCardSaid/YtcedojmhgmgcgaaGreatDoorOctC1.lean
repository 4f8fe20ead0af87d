/-
  octet: Put, PutBig.
-/
import Derived.Test.YtcedojmhgmgcgaaGreatDoorOctB1
import Derived.StillTailTactics
namespace Go.Proofs.YtcedojmhgmgcgaaGreatDoor
open Go.RowKit Go
set_option linter.unusedVariables false

/-- A number's byte i, the lowest one first. -/
def nb (x i : Nat) : UInt8 := UInt8.ofNat (x / 256 ^ i)
theorem nb_num (x i : Nat) : ((nb x i).toNat : Int) = (x : Int) / 2 ^ (8 * i) % 256 := by
  unfold nb
  rw [UInt8.toNat_ofNat']
  have hp : (2 : Int) ^ (8 * i) = ((256 ^ i : Nat) : Int) := by rw [Int.pow_mul]; simp
  rw [hp]
  omega
theorem run_shr8 (x j : Nat) (hj : j < 8) (w : World) : (Op.shift BinOp.shr IntKind.u64 (x : Int) IntKind.i64 (8 * (j : Int))).run Tryz.prog w = .ok (.int .u64 ((x : Int) / 2 ^ (8 * j))) w := by
  unfold Op.shift
  rw [if_neg (by omega)]
  have hm : min (8 * (j : Int)).toNat IntKind.u64.bits = 8 * j := by
    show min (8 * (j : Int)).toNat 64 = 8 * j
    omega
  simp only [hm]
  rw [Int.fdiv_eq_ediv_of_nonneg _ (Int.pow_nonneg (by decide))]
  rfl
/-- k bytes of a number, the lowest one first. -/
def leB (x k : Nat) : List UInt8 := (List.range k).map (nb x)
theorem leB_len (x k : Nat) : (leB x k).length = k := by simp [leB]
theorem leB_get (x k i : Nat) (h : i < k) : (leB x k)[i]? = some (nb x i) := by
  unfold leB
  rw [List.getElem?_map, List.getElem?_range h]; rfl
end Go.Proofs.YtcedojmhgmgcgaaGreatDoor
