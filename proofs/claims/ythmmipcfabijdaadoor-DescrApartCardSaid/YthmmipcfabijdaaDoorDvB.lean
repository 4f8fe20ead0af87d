/-
  descr: the statement's own 'right'; what the cells of a variable hold.
-/
import Derived.Test.YthmmipcfabijdaaDoorDvA
import Derived.LoopTactic
namespace Go.Proofs.YthmmipcfabijdaaDoor
open Go.RowKit Go
set_option linter.unusedVariables false
set_option maxRecDepth 100000
attribute [local go_sem ↓] Go.wp_at_zero Go.wp_at_succ
/-- What the cells of a variable in block g hold. -/
structure VC (W : World) (g : Nat) (v : Vr) : Prop where
  c0 : W.cell? ⟨g, 0, none⟩ = some (.string v.nm)
  c17 : W.cell? ⟨g, 17, none⟩ = some (.int .u32 (v.a : Int))
  c18 : W.cell? ⟨g, 18, none⟩ = some (.int .u16 (v.t.y : Int))
  c19 : W.cell? ⟨g, 19, none⟩ = some (.int .u8 (v.t.mo.toNat : Int))
  c20 : W.cell? ⟨g, 20, none⟩ = some (.int .u8 (v.t.d.toNat : Int))
  c21 : W.cell? ⟨g, 21, none⟩ = some (.int .u8 (v.t.h.toNat : Int))
  c22 : W.cell? ⟨g, 22, none⟩ = some (.int .u8 (v.t.mi.toNat : Int))
  c23 : W.cell? ⟨g, 23, none⟩ = some (.int .u8 (v.t.s.toNat : Int))
  c56 : W.cell? ⟨g, 56, none⟩ = some (.slice v.D v.dn v.dc)
  rg : W.rangeAt g 1 (v.gb.map bv)
theorem vc_of {W V : World} {g : Nat} {v : Vr} {fr : Nat × Nat} (hv : IsVr V v) (hk : W.heap[g]? = some (.cells v.cs 43 fr)) : VC W g v := by
  have h := fun j => Lib.cell_of_heap hk j
  exact ⟨(h 0).trans hv.nm, (h 17).trans hv.a, (h 18).trans hv.t0, (h 19).trans hv.t1, (h 20).trans hv.t2, (h 21).trans hv.t3, (h 22).trans hv.t4, (h 23).trans hv.t5, (h 56).trans hv.d, fun j u hu => (h (1 + j)).trans (hv.gb j u hu)⟩
set_option maxHeartbeats 3200000 in
theorem vright_any (t : Tm) (w : World) (hT : Sizes w) (hy : t.y < 65536) : Calls Tryd.prog 16 #[tmV t] w fun e w' => e = .returned (.bool (rightB t)) ∧ Below w.heap.size w w' := by
  have WT := fun A c W hs hA => dwrite_any t A 1 c [1] none 0 0 [] W hs hy hA (RB.nil _ _) (by omega) (by omega)
  have hok : okW t 1 = rightB t := by unfold okW; rw [show decide (1 ≤ 1 ∧ 1 ≤ 65536) = true by decide]; simp
  rw [hok] at WT
  generalize dW t [1] [] = wl at WT
  have WT := Lib.hid WT
  generalize rightB t = rb at *
  clear hok
  obtain ⟨y, mo, dd, hh, mi, ss⟩ := t
  simp only [tmV, Tm.cells] at *
  go_enter Tryd.func16, Tryd.ntmps16
  go_wp2_with fail
  refine calls_named fun w0 hw0 => ?_
  have hbw0 : Below w.heap.size w w0 := by subst hw0; exact ((Below.refl _ _).alloc (Nat.le_refl _) _).alloc (by simp) _
  have hs0 := hbw0.size
  have q0 : w0.heap[w.heap.size + 1]? = some (.cells #[.int .u8 1] 5) := by subst hw0; exact heap_alloc2_new w _ _
  have hA0 : RB w0 (some ⟨w.heap.size + 1, 0, none⟩) 1 [1] := rb_block q0 rfl rfl
  clear hw0 q0
  refine (WT.out _ _ w0 (hT.below' hbw0) hA0).mono ?_
  rintro e w1 ⟨A1, n1, c1, rfl, _, hb1⟩
  have hbw1 := hbw0.trans (hb1.mono hs0)
  clear hb1 hA0 hbw0
  cases rb with
  | true =>
    rw [show erW true = (0 : Int) from rfl]
    go_wp2
    go_ret
    exact ⟨rfl, hbw1⟩
  | false =>
    rw [show erW false = (1 : Int) from rfl]
    go_wp2
    go_ret
    exact ⟨rfl, hbw1⟩
end Go.Proofs.YthmmipcfabijdaaDoor
