/-
  descr: Read of forty bytes and more.
-/
import Derived.Test.YthmmipcfabijdaaDoorDeE1
import Derived.Test.YthmmipcfabijdaaDoorDeE2
import Derived.Test.YthmmipcfabijdaaDoorDeE3
import Derived.Test.YthmmipcfabijdaaDoorDeE4
namespace Go.Proofs.YthmmipcfabijdaaDoor
open Go.RowKit Go
set_option linter.unusedVariables false
set_option maxRecDepth 100000
theorem dread_any (A : Option Addr) (n c : Nat) (bs : List UInt8) (w : World) (hR : RB w A n bs) (hc : n ≤ c) (hc2 : c ≤ 9223372036854775807) (hn : n ≤ 1000000) (hT : Sizes w) :
    Calls Tryd.prog 9 #[.slice A n c] w (DReadPost w bs) := by
  by_cases h16 : n < 16
  · exact dread_a A n c bs w hR hc hc2 hn hT h16
  cases hro : readO (cut bs 0 16) with
  | none => exact dread_b A n c bs w hR hc hc2 hn hT (by omega) hro
  | some u =>
    by_cases hz : u = Tm.zero
    · subst hz
      exact dread_c A n c bs w hR hc hc2 hn hT (by omega) hro
    by_cases h20 : n < 20
    · exact dread_d A n c bs w hR hc hc2 hn hT (by omega) u hro hz h20
    by_cases h40 : n < 40
    · exact dread_e A n c bs w hR hc hc2 hn hT (by omega) u hro hz (by omega) h40
    by_cases hm : cut bs 20 20 = marksL
    · by_cases hf : 25 ≤ leN (cut bs 16 4) ∧ leN (cut bs 16 4) ≤ 65560
      · by_cases hy : 16 + leN (cut bs 16 4) ≤ n
        · exact dread_i A n c bs w hR hc hc2 hn hT (by omega) u hro hz (by omega) hm hf.1 hf.2 hy
        · exact dread_h A n c bs w hR hc hc2 hn hT (by omega) u hro hz (by omega) hm hf.1 hf.2 (by omega)
      · exact dread_g A n c bs w hR hc hc2 hn hT (by omega) u hro hz (by omega) hm hf
    · exact dread_f A n c bs w hR hc hc2 hn hT (by omega) u hro hz (by omega) hm
end Go.Proofs.YthmmipcfabijdaaDoor
