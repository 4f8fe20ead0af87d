/-
  nat: Octets.
-/
import Derived.Test.YtcmhacecnahfoaaNq
namespace Go.Proofs.Ytcmhacecnahfoaa
open Go.RowKit Go
set_option linter.unusedVariables false
set_option linter.unusedSimpArgs false
set_option maxRecDepth 100000
def octQ (x : List Nat) (z : Int) : List UInt8 × Nat :=
  if rightB x && decide (0 ≤ z) && decide (z ≤ 1024) then (if bitsN (val x) ≤ 8 * z.toNat then (beN (val x) z.toNat, 0) else ([], 10)) else ([], 1)
/-- Bytes of the call's own and an error. -/
def OctR (w : World) (r : List UInt8 × Nat) (e : Ending) (w' : World) : Prop :=
  ∃ A n c, e = .returned (.tuple #[.slice A n c, .int .i64 (r.2 : Int)]) ∧ OwnB w' w.heap.size A n c r.1 ∧ n ≤ c ∧ c ≤ 1000000 ∧ Below w.heap.size w w'
theorem OctR.err {w w' : World} {k : Nat} {e : Ending} (he : e = .returned (.tuple #[.slice none 0 0, .int .i64 (k : Int)])) (hb : Below w.heap.size w w') : OctR w ([], k) e w' :=
  ⟨_, _, _, he, OwnB.nil _ _, Nat.le_refl _, by omega, hb⟩
theorem oct_set (V n i : Nat) (hi : i < n) : (List.replicate (n - i) 0 ++ (beN V n).drop (n - i)).set (n - 1 - i) (UInt8.ofNat (V / 256 ^ i % 256)) = List.replicate (n - (i + 1)) 0 ++ (beN V n).drop (n - (i + 1)) := by
  have h := fill_step (T := beN V n) (m := n - 1 - i) (b := UInt8.ofNat (V / 256 ^ i % 256)) (by rw [beN_len]; omega) (by rw [beN_get V n _ (by omega), show n - 1 - (n - 1 - i) = i by omega])
  rw [show n - i = n - 1 - i + 1 by omega, show n - (i + 1) = n - 1 - i by omega]
  exact h
end Go.Proofs.Ytcmhacecnahfoaa
