/-
  option: the document's answer of Read, whole.
-/
import Derived.Test.YtokklcfdfjgbjaaDoorOpPa
import Derived.Test.YtokklcfdfjgbjaaDoorOpPb
import Derived.Test.YtokklcfdfjgbjaaDoorOpPc
import Derived.Test.YtokklcfdfjgbjaaDoorOpPd
import Derived.Test.YtokklcfdfjgbjaaDoorOpPe
namespace Go.Proofs.YtokklcfdfjgbjaaDoor
open Go.RowKit Go
theorem refRead_any (A : Option Addr) (n c : Nat) (bs : List UInt8) (w : World) (hR : RB w A n bs) (hc : n ≤ c) (hc2 : c ≤ 9223372036854775807) (hn : n ≤ 1000000) :
    Calls Tryd.prog 19 #[.slice A n c] w (ReadPost w bs) := by
  by_cases h4 : n < 4
  · exact refRead_4 A n c bs w hR hc hc2 hn h4
  by_cases h6 : n < 6
  · exact refRead_6 A n c bs w hR hc hc2 hn h4 h6
  cases hs : scan (bs.drop 6) with
  | none => exact refRead_none A n c bs w hR hc hc2 hn h6 hs
  | some wl =>
    by_cases hf : 6 + wl.length + 2 + leN (cut bs 4 2) ≤ n
    · cases hl : narrowS wl with
      | none => exact refRead_nf A n c bs w hR hc hc2 hn h6 wl hs hl hf
      | some l =>
        by_cases he : c = 6 + wl.length + 2 + leN (cut bs 4 2)
        · exact refRead_s0 A n c bs w hR hc hc2 hn h6 wl hs l hl hf he
        · exact refRead_s1 A n c bs w hR hc hc2 hn h6 wl hs l hl hf he
    · cases hl : narrowS wl with
      | none => exact refRead_nn A n c bs w hR hc hc2 hn h6 wl hs hl hf
      | some l => exact refRead_sn A n c bs w hR hc hc2 hn h6 wl hs l hl hf
end Go.Proofs.YtokklcfdfjgbjaaDoor
