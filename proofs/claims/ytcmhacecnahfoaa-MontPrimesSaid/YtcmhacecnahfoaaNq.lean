/-
  nat: Of, Octets.
-/
import Derived.Test.YtcmhacecnahfoaaNp
import Derived.Test.YtcmhacecnahfoaaNk
import Derived.Test.YtcmhacecnahfoaaRef
namespace Go.Proofs.Ytcmhacecnahfoaa
open Go.RowKit Go
set_option linter.unusedVariables false
set_option linter.unusedSimpArgs false
set_option maxRecDepth 100000
def ofQ (bs : List UInt8) : List Nat × Nat := if bs.length ≤ 512 then (num (beV bs), 0) else ([], 10)
theorem pow_bytes (n m : Nat) (h : 8 * n ≤ 32 * m) : 256 ^ n ≤ 4294967296 ^ m := by
  rw [show (256 : Nat) = 2 ^ 8 by decide, show (4294967296 : Nat) = 2 ^ 32 by decide, ← Nat.pow_mul, ← Nat.pow_mul]
  exact Nat.pow_le_pow_right (by decide) h
theorem ofQ_len (bs : List UInt8) (h : bs.length ≤ 512) : (num (beV bs)).length ≤ 256 := by
  rw [num_len]
  exact Nat.lt_of_lt_of_le (beV_lt bs) (pow_bytes _ _ (by omega))
end Go.Proofs.Ytcmhacecnahfoaa
