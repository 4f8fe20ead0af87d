/-
  descr: the statement on bytes that are turned, and cut.
-/
import Derived.Test.YthmmipcfabijdaaDoorDeK
import Derived.Test.YthmmipcfabijdaaDoorDeL
import Derived.Test.YthmmipcfabijdaaDoorDeM
import Derived.Test.YthmmipcfabijdaaDoorDeN
import Derived.Laws.BitsAllLaws
namespace Go.Proofs.YthmmipcfabijdaaDoor
open Go.RowKit Go
set_option linter.unusedVariables false
set_option maxRecDepth 100000
attribute [local go_sem ↓] Go.wp_at_zero Go.wp_at_succ
theorem turned_row (t : Tm) (P : Option Addr) (pn pc : Nat) (pb : List UInt8) (D : Option Addr) (dn dc : Nat) (db : List UInt8) (x y z : Int) (w : World) (ht : IsTm w t) (hP : IsBs w P pn pc pb) (hD : IsBs w D dn dc db) (hx : (Lit.int .u8 x).wf = true) (hy9 : (Lit.int .u8 y).wf = true) (hz : (Lit.int .u16 z).wf = true) (hT : Sizes w) :
    Calls Tryd.prog 5 #[tmV t, .slice P pn pc, .slice D dn dc, .int .u8 x, .int .u8 y, .int .u16 z] w fun e w' => e = .returned (.bool true) ∧ Below w.heap.size w w' := by
  have hy : t.y < 65536 := ht
  have bx := bounds_u8 hx
  have bz := bounds_u16 hz
  obtain ⟨b, rfl⟩ : ∃ b : UInt8, y = (b.toNat : Int) := ⟨UInt8.ofNat y.toNat, (byte_of_wf hy9).symm⟩
  obtain ⟨a, rfl⟩ : ∃ a : Nat, x = a := ⟨x.toNat, by omega⟩
  obtain ⟨cu, rfl⟩ : ∃ a : Nat, z = a := ⟨z.toNat, by omega⟩
  have l2 := hP.lim
  have l3 := hD.lim
  have m3 := hD.le
  have m4 := hD.max
  unfold maxLen at m4
  by_cases hall : pn ≤ 4096 ∧ dn ≤ 4096
  · obtain ⟨h2, h3⟩ := hall
    cases hok : okW t pn with
    | false => exact turned_no t P pn pc pb D dn dc db a b cu w hP.rb hD.rb m3 (by omega) hy (by omega) (by omega) h2 h3 hT hok
    | true =>
      by_cases hb : b = 0
      · by_cases hs : cu % (40 + pn + dn + 1) < 40 + pn
        · exact turned_zs t P pn pc pb D dn dc db a b cu w hP.rb hD.rb m3 (by omega) hy (by omega) (by omega) h2 h3 hT hok hb hs
        · exact turned_zl t P pn pc pb D dn dc db a b cu w hP.rb hD.rb m3 (by omega) hy (by omega) (by omega) h2 h3 hT hok hb (by omega)
      · by_cases hs : cu % (40 + pn + dn + 1) < 40 + pn
        · exact turned_xs t P pn pc pb D dn dc db a b cu w hP.rb hD.rb m3 (by omega) hy (by omega) (by omega) h2 h3 hT hok hb hs
        · exact turned_xl t P pn pc pb D dn dc db a b cu w hP.rb hD.rb m3 (by omega) hy (by omega) (by omega) h2 h3 hT hok hb (by omega)
  · have WK := Lib.hid (fun W (h : Sizes W) => works_any W h)
    obtain ⟨y, mo, dd, hh, mi, ss⟩ := t
    simp only [tmV, Tm.cells] at *
    by_cases h2 : pn ≤ 4096
    · have d2 : decide (4096 < (pn : Int)) = false := decide_eq_false (by omega)
      have d3 : decide (4096 < (dn : Int)) = true := decide_eq_true (by omega)
      clear hall
      go_enter Tryd.func5, Tryd.ntmps5
      go_wp2_with fail
      refine calls_named fun w0 hw0 => ?_
      have hbw0 : Below w.heap.size w w0 := below_named hw0 ((Below.refl _ _).alloc (Nat.le_refl _) _)
      have hs0 := hbw0.size
      clear hw0
      refine (WK.out w0 (hT.below' hbw0)).mono ?_
      intro e w1 hw1
      obtain ⟨rfl, hb1⟩ := hw1
      have hbw1 := hbw0.trans (hb1.mono hs0)
      have hs1 := hbw1.size
      have hz1 : w0.heap.size ≤ w1.heap.size := hb1.size
      clear hb1
      go_wp2
      go_ret
      exact ⟨rfl, hbw1⟩
    · have d2 : decide (4096 < (pn : Int)) = true := decide_eq_true (by omega)
      clear hall
      go_enter Tryd.func5, Tryd.ntmps5
      go_wp2_with fail
      refine calls_named fun w0 hw0 => ?_
      have hbw0 : Below w.heap.size w w0 := below_named hw0 ((Below.refl _ _).alloc (Nat.le_refl _) _)
      have hs0 := hbw0.size
      clear hw0
      refine (WK.out w0 (hT.below' hbw0)).mono ?_
      intro e w1 hw1
      obtain ⟨rfl, hb1⟩ := hw1
      have hbw1 := hbw0.trans (hb1.mono hs0)
      have hs1 := hbw1.size
      have hz1 : w0.heap.size ≤ w1.heap.size := hb1.size
      clear hb1
      go_wp2
      go_ret
      exact ⟨rfl, hbw1⟩
end Go.Proofs.YthmmipcfabijdaaDoor
