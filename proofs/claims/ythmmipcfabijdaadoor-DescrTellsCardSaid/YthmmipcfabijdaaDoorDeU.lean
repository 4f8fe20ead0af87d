/-
  descr: the statement on what is told.
-/
import Derived.Test.YthmmipcfabijdaaDoorDeT1
import Derived.Test.YthmmipcfabijdaaDoorDeT2
import Derived.Test.YthmmipcfabijdaaDoorDeT3
import Derived.Test.YthmmipcfabijdaaDoorDeT4
import Derived.Deep.MidRow
import Derived.LoopTactic
namespace Go.Proofs.YthmmipcfabijdaaDoor
open Go.RowKit Go
set_option linter.unusedVariables false
set_option maxRecDepth 100000
theorem tells_row (A : Option Addr) (n c : Nat) (bs : List UInt8) (t : Tm) (P : Option Addr) (pn pc : Nat) (pb : List UInt8) (D : Option Addr) (dn dc : Nat) (db : List UInt8) (s : ByteArray) (gb : List UInt8) (z : Int) (w : World) (hA : IsBs w A n c bs) (ht : IsTm w t) (hP : IsBs w P pn pc pb) (hD : IsBs w D dn dc db) (hs : s.size ≤ maxLen) (hg : IsG w gb) (hz : (Lit.int .u32 z).wf = true) (hT : Sizes w) :
    Calls Tryd.prog 3 #[.slice A n c, tmV t, .slice P pn pc, .slice D dn dc, .string s, gV gb, .int .u32 z] w fun e w' => e = .returned (.bool true) ∧ Below w.heap.size w w' := by
  have hy : t.y < 65536 := ht
  have hgl : gb.length = 16 := hg
  have bz := bounds_u32 hz
  obtain ⟨at_, rfl⟩ : ∃ a : Nat, z = a := ⟨z.toNat, by omega⟩
  have l1 := hA.lim
  have l2 := hP.lim
  have l3 := hD.lim
  have m1 := hA.le
  have m2 := hA.max
  unfold maxLen at hs m2
  by_cases hall : n ≤ 262144 ∧ pn ≤ 262144 ∧ dn ≤ 262144 ∧ s.size ≤ 4096
  · obtain ⟨h1, h2, h3, h4⟩ := hall
    cases hok : okW t pn with
    | true =>
      cases hq : dR bs with
      | some z => exact tells_ys A n c bs t P pn pc pb D dn dc db s gb at_ w hA.rb m1 (by omega) hP.rb hD.rb hy hgl (by omega) h1 h2 h3 h4 hT hok z hq
      | none => exact tells_yz A n c bs t P pn pc pb D dn dc db s gb at_ w hA.rb m1 (by omega) hP.rb hD.rb hy hgl (by omega) h1 h2 h3 h4 hT hok hq
    | false =>
      cases hq : dR bs with
      | some z => exact tells_ns A n c bs t P pn pc pb D dn dc db s gb at_ w hA.rb m1 (by omega) hP.rb hD.rb hy hgl (by omega) h1 h2 h3 h4 hT hok z hq
      | none => exact tells_nz A n c bs t P pn pc pb D dn dc db s gb at_ w hA.rb m1 (by omega) hP.rb hD.rb hy hgl (by omega) h1 h2 h3 h4 hT hok hq
  · have WK := Lib.hid (fun W (h : Sizes W) => works_any W h)
    obtain ⟨y, mo, dd, hh, mi, ss⟩ := t
    simp only [tmV, Tm.cells, gV] at *
    by_cases h1 : n ≤ 262144
    · have d1 : decide (262144 < (n : Int)) = false := decide_eq_false (by omega)
      by_cases h2 : pn ≤ 262144
      · have d2 : decide (262144 < (pn : Int)) = false := decide_eq_false (by omega)
        by_cases h3 : dn ≤ 262144
        · have d3 : decide (262144 < (dn : Int)) = false := decide_eq_false (by omega)
          have d4 : decide (4096 < (s.size : Int)) = true := decide_eq_true (by omega)
          clear hall
          go_enter Tryd.func3, Tryd.ntmps3
          go_wp2_with fail
          refine calls_named fun w0 hw0 => ?_
          have hbw0 : Below w.heap.size w w0 := by subst hw0; exact ((Below.refl _ _).alloc (Nat.le_refl _) _).alloc (by simp) _
          have hs0 := hbw0.size
          clear hw0
          refine (WK.out w0 (hT.below' hbw0)).mono ?_
          intro e w1 hw1
          obtain ⟨rfl, hb1⟩ := hw1
          have hbw1 := hbw0.trans (hb1.mono hs0)
          have hs1 := hbw1.size
          have hz1 : w0.heap.size ≤ w1.heap.size := hb1.size
          clear hb1
          go_wp2
          go_ret
          exact ⟨rfl, hbw1⟩
        · have d3 : decide (262144 < (dn : Int)) = true := decide_eq_true (by omega)
          clear hall
          go_enter Tryd.func3, Tryd.ntmps3
          go_wp2_with fail
          refine calls_named fun w0 hw0 => ?_
          have hbw0 : Below w.heap.size w w0 := by subst hw0; exact ((Below.refl _ _).alloc (Nat.le_refl _) _).alloc (by simp) _
          have hs0 := hbw0.size
          clear hw0
          refine (WK.out w0 (hT.below' hbw0)).mono ?_
          intro e w1 hw1
          obtain ⟨rfl, hb1⟩ := hw1
          have hbw1 := hbw0.trans (hb1.mono hs0)
          have hs1 := hbw1.size
          have hz1 : w0.heap.size ≤ w1.heap.size := hb1.size
          clear hb1
          go_wp2
          go_ret
          exact ⟨rfl, hbw1⟩
      · have d2 : decide (262144 < (pn : Int)) = true := decide_eq_true (by omega)
        clear hall
        go_enter Tryd.func3, Tryd.ntmps3
        go_wp2_with fail
        refine calls_named fun w0 hw0 => ?_
        have hbw0 : Below w.heap.size w w0 := by subst hw0; exact ((Below.refl _ _).alloc (Nat.le_refl _) _).alloc (by simp) _
        have hs0 := hbw0.size
        clear hw0
        refine (WK.out w0 (hT.below' hbw0)).mono ?_
        intro e w1 hw1
        obtain ⟨rfl, hb1⟩ := hw1
        have hbw1 := hbw0.trans (hb1.mono hs0)
        have hs1 := hbw1.size
        have hz1 : w0.heap.size ≤ w1.heap.size := hb1.size
        clear hb1
        go_wp2
        go_ret
        exact ⟨rfl, hbw1⟩
    · have d1 : decide (262144 < (n : Int)) = true := decide_eq_true (by omega)
      clear hall
      go_enter Tryd.func3, Tryd.ntmps3
      go_wp2_with fail
      refine calls_named fun w0 hw0 => ?_
      have hbw0 : Below w.heap.size w w0 := by subst hw0; exact ((Below.refl _ _).alloc (Nat.le_refl _) _).alloc (by simp) _
      have hs0 := hbw0.size
      clear hw0
      refine (WK.out w0 (hT.below' hbw0)).mono ?_
      intro e w1 hw1
      obtain ⟨rfl, hb1⟩ := hw1
      have hbw1 := hbw0.trans (hb1.mono hs0)
      have hs1 := hbw1.size
      have hz1 : w0.heap.size ≤ w1.heap.size := hb1.size
      clear hb1
      go_wp2
      go_ret
      exact ⟨rfl, hbw1⟩
end Go.Proofs.YthmmipcfabijdaaDoor
