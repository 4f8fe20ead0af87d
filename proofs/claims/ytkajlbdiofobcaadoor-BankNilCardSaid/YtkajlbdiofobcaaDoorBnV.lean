/-
  bank: the law's does, with no bank and no flash: Raw.
-/
import Derived.Test.YtkajlbdiofobcaaDoorBnU
namespace Go.Proofs.YtkajlbdiofobcaaDoor
open Go.RowKit Go
set_option linter.unusedVariables false
set_option linter.unusedSimpArgs false
set_option maxRecDepth 100000
theorem does8_nil8 (np pt : Int) (K V : Option Addr) (kn kc vn vc : Nat) (val : List UInt8) (w : World) (hV : RB w V vn val) (hn : vn ≤ 1000000000) :
    Calls Tryd.prog 12 #[.pointer none, .pointer none, .agg #[.int .i64 8, .int .i64 np, .int .i64 pt, .slice K kn kc, .slice V vn vc]] w (DoesNil 2 w) := by
  have HV := Lib.hid hV
  clear hV
  go_enter Tryd.func12, Tryd.ntmps12
  go_upto_region 25 with (fail)
  refine wp_nm fun W hW => ?_
  have hbW : Below w.heap.size w W := by rw [← hW]; exact kp_alloc (kp_alloc (kp_alloc (Below.refl _ _) _) _) _
  have g0 : W.heap[w.heap.size]? = some (.cells #[.int .i64 8, .int .i64 np, .int .i64 pt, .slice K kn kc, .slice V vn vc] 24) := by rw [← hW]; exact has_alloc (has_alloc (has_new _ _) _) _
  have g1 : W.heap[w.heap.size + 1]? = some (.cells #[.slice none 0 0, .int .i64 0, .bool false, .int .i64 0] 36) := by rw [← hW]; exact has_alloc (has_new' _ _ _ (by simp)) _
  have g2 : W.heap[w.heap.size + 1 + 1]? = some (.cells #[.slice none 0 0, .int .i64 0, .bool false, .int .i64 0] 36) := by rw [← hW]; exact has_new' _ _ _ (by simp)
  clear hW
  have KEEP : Hid (∀ X, (X.heap[w.heap.size]? = some (.cells #[.int .i64 8, .int .i64 np, .int .i64 pt, .slice K kn kc, .slice V vn vc] 24) ∧ Below w.heap.size w X) → (X.cell? ⟨w.heap.size, 1, none⟩ = some (.int .i64 np) ∧ X.cell? ⟨w.heap.size, 4, none⟩ = some (.slice V vn vc)) ∧ X.heap[w.heap.size]? = some (.cells #[.int .i64 8, .int .i64 np, .int .i64 pt, .slice K kn kc, .slice V vn vc] 24) ∧ Below w.heap.size w X) := fun X hX => by
    obtain ⟨a0, a1, a2, a3, a4⟩ := cells_5 hX.1
    exact ⟨⟨a1, a4⟩, hX⟩
  have G0 := Lib.hid g0
  have G1 := Lib.hid g1
  have G2 := Lib.hid g2
  have BW := Lib.hid hbW
  clear g0 g1 g2 hbW
  go_region_held3 (fun X => (X.cell? ⟨w.heap.size, 1, none⟩ = some (.int .i64 np) ∧ X.cell? ⟨w.heap.size, 4, none⟩ = some (.slice V vn vc)) ∧ X.heap[w.heap.size]? = some (.cells #[.int .i64 8, .int .i64 np, .int .i64 pt, .slice K kn kc, .slice V vn vc] 24) ∧ Below w.heap.size w X)
    ((apply KEEP.out; first | assumption | exact ⟨has_drew G0.out, kp_drew BW.out⟩ | exact hX1 | exact hX2 | exact ⟨has_set hX2.1 (by omega), kp_set hX2.2 (by omega)⟩))
    (first
      | (go_at_call 18; (with_reducible refine (twin8_any V vn vc val _ (HV.out.below (kp_drew BW.out)) hn).mono ?_); (rintro e X1 ⟨A1, n1, c1, rfl, ho1, hb1⟩; have hX1 : X1.heap[w.heap.size]? = some (.cells #[.int .i64 8, .int .i64 np, .int .i64 pt, .slice K kn kc, .slice V vn vc] 24) ∧ Below w.heap.size w X1 := ⟨has_below (has_drew G0.out) hb1, kp_call (kp_drew BW.out) hb1⟩; have g1 := has_below (has_drew G1.out) hb1; have g2 := has_below (has_drew G2.out) hb1))
      | (go_at_call 34; (with_reducible refine (fprogram_nil _ _ _ _ _).mono ?_); (rintro e X2 ⟨rfl, hb2⟩; have hX2 : X2.heap[w.heap.size]? = some (.cells #[.int .i64 8, .int .i64 np, .int .i64 pt, .slice K kn kc, .slice V vn vc] 24) ∧ Below w.heap.size w X2 := ⟨has_below hX1.1 hb2, kp_call hX1.2 hb2⟩; have k1 := has_below g1 hb2; have k2 := has_below g2 hb2; obtain ⟨y0, y1, y2, y3⟩ := cells_4 k2; obtain ⟨z0, z1, z2, z3⟩ := free_4 k2)))
  all_goals
    have HB := Lib.hid hX2.2
    obtain ⟨u0, u1, u2, u3⟩ := free_4 k1
    obtain ⟨x0, x1, x2, x3⟩ := cells_4 k1
    have K1 := Lib.hid k1
    clear k1 k2 g1 g2 hX1 hX2 hb1 hb2 ho1
    go_wp2
    refine bodyPost_ret (results_ct Tryd.results12 _ (LV.agg (set_4 (has_set (k := w.heap.size + 1 + 1) (j := 3) (u := .int .i64 2) K1.out (by omega))) Tryd.underlying36 rfl (by kernel_rfl))) rfl ?_
    exact ⟨rfl, kp_set (kp_set (kp_set (kp_set (kp_set HB.out (by omega)) (by omega)) (by omega)) (by omega)) (by omega)⟩
end Go.Proofs.YtkajlbdiofobcaaDoor
