/-
  descr: the statement on texts that are apart, its row.
-/
import Derived.Test.YthmmipcfabijdaaDoorDvC
namespace Go.Proofs.YthmmipcfabijdaaDoor
open Go.RowKit Go
set_option linter.unusedVariables false
set_option maxRecDepth 100000
attribute [local go_sem ↓] Go.wp_at_zero Go.wp_at_succ
theorem apart_row (v1 v2 : Vr) (w : World) (hv1 : IsVr w v1) (hv2 : IsVr w v2) (hT : Sizes w) :
    Calls Tryd.prog 6 #[vrV v1, vrV v2] w fun e w' => e = .returned (.bool true) ∧ Below w.heap.size w w' := by
  obtain ⟨cs1, nm1, gb1, a1, t1, D1, dn1, dc1, db1⟩ := v1
  obtain ⟨cs2, nm2, gb2, a2, t2, D2, dn2, dc2, db2⟩ := v2
  unfold vrV
  simp only
  by_cases hall : nm1.size ≤ 64 ∧ nm1.size = nm2.size ∧ dn1 = dn2 ∧ dn1 ≤ 4096
  · obtain ⟨e1, e2, e3, e4⟩ := hall
    exact apart_walk cs1 nm1 gb1 a1 t1 D1 dn1 dc1 db1 cs2 nm2 gb2 a2 t2 D2 dn2 dc2 db2 w hv1 hv2 hT e1 (by omega) (by omega) (by omega) (by omega) e4
  · have WK := Lib.hid (fun W (h : Sizes W) => works_any W h)
    have l1 := hv1.db.lim
    have l2 := hv2.db.lim
    have m1 := hv1.nml
    have m2 := hv2.nml
    have n1 := hv1.nm
    have n2 := hv2.nm
    have s1 := hv1.d
    have s2 := hv2.d
    unfold maxLen at m1 m2
    simp only at n1 n2 s1 s2 l1 l2 m1 m2
    have HB0 : Hid (Below w.heap.size w ((w.alloc (.cells cs1 43)).alloc (.cells cs2 43))) := ((Below.refl _ _).alloc (Nat.le_refl _) _).alloc (by simp) _
    clear hv1 hv2
    by_cases h1 : nm1.size ≤ 64
    · have d1 : decide (64 < (nm1.size : Int)) = false := decide_eq_false (by omega)
      by_cases h2 : nm1.size = nm2.size
      · have d5 : ((nm1.size : Int) != (nm2.size : Int)) = false := by rw [bne, show ((nm1.size : Int) == (nm2.size : Int)) = true from beq_iff_eq.2 (by omega)]; rfl
        by_cases h3 : dn1 = dn2
        · have d6 : ((dn1 : Int) != (dn2 : Int)) = false := by rw [bne, show ((dn1 : Int) == (dn2 : Int)) = true from beq_iff_eq.2 (by omega)]; rfl
          have d2 : decide (4096 < (dn1 : Int)) = true := decide_eq_true (by omega)
          clear hall h1 h2 h3
          go_enter Tryd.func6, Tryd.ntmps6
          go_wp2_with fail
          refine (WK.out _ (hT.below' HB0.out)).mono ?_
          rintro e w9 ⟨rfl, hb9⟩
          go_wp2
          go_ret
          exact ⟨rfl, HB0.out.trans (hb9.mono HB0.out.size)⟩
        · have d6 : ((dn1 : Int) != (dn2 : Int)) = true := by rw [bne, show ((dn1 : Int) == (dn2 : Int)) = false from beq_eq_false_iff_ne.2 (by omega)]; rfl
          clear hall h1 h2 h3
          go_enter Tryd.func6, Tryd.ntmps6
          go_wp2_with fail
          refine (WK.out _ (hT.below' HB0.out)).mono ?_
          rintro e w9 ⟨rfl, hb9⟩
          go_wp2
          go_ret
          exact ⟨rfl, HB0.out.trans (hb9.mono HB0.out.size)⟩
      · have d5 : ((nm1.size : Int) != (nm2.size : Int)) = true := by rw [bne, show ((nm1.size : Int) == (nm2.size : Int)) = false from beq_eq_false_iff_ne.2 (by omega)]; rfl
        clear hall h1 h2
        go_enter Tryd.func6, Tryd.ntmps6
        go_wp2_with fail
        refine (WK.out _ (hT.below' HB0.out)).mono ?_
        rintro e w9 ⟨rfl, hb9⟩
        go_wp2
        go_ret
        exact ⟨rfl, HB0.out.trans (hb9.mono HB0.out.size)⟩
    · have d1 : decide (64 < (nm1.size : Int)) = true := decide_eq_true (by omega)
      clear hall h1
      go_enter Tryd.func6, Tryd.ntmps6
      go_wp2_with fail
      refine (WK.out _ (hT.below' HB0.out)).mono ?_
      rintro e w9 ⟨rfl, hb9⟩
      go_wp2
      go_ret
      exact ⟨rfl, HB0.out.trans (hb9.mono HB0.out.size)⟩
end Go.Proofs.YthmmipcfabijdaaDoor
