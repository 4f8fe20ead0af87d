/-
  bank: the law's does, with no bank and no flash: what makes blocks.
-/
import Derived.Test.YtkajlbdiofobcaaDoorBnT
namespace Go.Proofs.YtkajlbdiofobcaaDoor
open Go.RowKit Go
set_option linter.unusedVariables false
set_option linter.unusedSimpArgs false
set_option maxRecDepth 100000
theorem does8_nil5 (np pt : Int) (K V : Option Addr) (kn kc vn vc : Nat) (w : World) :
    Calls Tryd.prog 12 #[.pointer none, .pointer none, .agg #[.int .i64 5, .int .i64 np, .int .i64 pt, .slice K kn kc, .slice V vn vc]] w (DoesNil 2 w) := by
  go_enter Tryd.func12, Tryd.ntmps12
  go_wp2_with fail
  refine calls_nm fun W hW => ?_
  have hbW : Below w.heap.size w W := by rw [← hW]; exact kp_alloc (kp_alloc (kp_alloc (Below.refl _ _) _) _) _
  have g0 : W.heap[w.heap.size]? = some (.cells #[.int .i64 5, .int .i64 np, .int .i64 pt, .slice K kn kc, .slice V vn vc] 24) := by rw [← hW]; exact has_alloc (has_alloc (has_new _ _) _) _
  have g1 : W.heap[w.heap.size + 1]? = some (.cells #[.slice none 0 0, .int .i64 0, .bool false, .int .i64 0] 36) := by rw [← hW]; exact has_alloc (has_new' _ _ _ (by simp)) _
  have g2 : W.heap[w.heap.size + 2]? = some (.cells #[.slice none 0 0, .int .i64 0, .bool false, .int .i64 0] 36) := by rw [← hW]; exact has_new' _ _ _ (by simp)
  clear hW
  refine (killnil_any _ _).mono ?_
  rintro e w1 ⟨rfl, hb⟩
  have k1 := has_below g1 hb
  have k2 := has_below g2 hb
  have HB := Lib.hid (kp_call hbW hb)
  obtain ⟨y0, y1, y2, y3⟩ := cells_4 k2
  obtain ⟨z0, z1, z2, z3⟩ := free_4 k2
  obtain ⟨u0, u1, u2, u3⟩ := free_4 k1
  obtain ⟨x0, x1, x2, x3⟩ := cells_4 k1
  have K1 := Lib.hid k1
  have K2 := Lib.hid k2
  clear k1 k2 hb hbW g0 g1 g2
  go_wp2
  refine bodyPost_ret (results_ct Tryd.results12 _ (LV.agg (set_4 (has_set (k := w.heap.size + 1 + 1) (j := 3) (u := .int .i64 2) K1.out (by omega))) Tryd.underlying36 rfl (by kernel_rfl))) rfl ?_
  exact ⟨rfl, kp_set (kp_set (kp_set (kp_set (kp_set HB.out (by omega)) (by omega)) (by omega)) (by omega)) (by omega)⟩
theorem does8_nil3 (np pt : Int) (K V : Option Addr) (kn kc vn vc : Nat) (w : World) :
    Calls Tryd.prog 12 #[.pointer none, .pointer none, .agg #[.int .i64 3, .int .i64 np, .int .i64 pt, .slice K kn kc, .slice V vn vc]] w (DoesNil 2 w) := by
  go_enter Tryd.func12, Tryd.ntmps12
  go_wp2_with fail
  refine calls_nm fun W hW => ?_
  have hbW : Below w.heap.size w W := by rw [← hW]; exact kp_alloc (kp_alloc (kp_alloc (Below.refl _ _) _) _) _
  have g0 : W.heap[w.heap.size]? = some (.cells #[.int .i64 3, .int .i64 np, .int .i64 pt, .slice K kn kc, .slice V vn vc] 24) := by rw [← hW]; exact has_alloc (has_alloc (has_new _ _) _) _
  have g1 : W.heap[w.heap.size + 1]? = some (.cells #[.slice none 0 0, .int .i64 0, .bool false, .int .i64 0] 36) := by rw [← hW]; exact has_alloc (has_new' _ _ _ (by simp)) _
  have g2 : W.heap[w.heap.size + 2]? = some (.cells #[.slice none 0 0, .int .i64 0, .bool false, .int .i64 0] 36) := by rw [← hW]; exact has_new' _ _ _ (by simp)
  clear hW
  refine (scannil_any _).mono ?_
  rintro e w1 ⟨rfl, hb⟩
  have k1 := has_below g1 hb
  have k2 := has_below g2 hb
  have HB := Lib.hid (kp_call hbW hb)
  obtain ⟨y0, y1, y2, y3⟩ := cells_4 k2
  obtain ⟨z0, z1, z2, z3⟩ := free_4 k2
  obtain ⟨u0, u1, u2, u3⟩ := free_4 k1
  obtain ⟨x0, x1, x2, x3⟩ := cells_4 k1
  have K1 := Lib.hid k1
  have K2 := Lib.hid k2
  clear k1 k2 hb hbW g0 g1 g2
  go_wp2_with fail
  refine (records_nil _).mono ?_
  rintro e w2 ⟨rfl, hw2⟩
  subst w2
  go_wp2
  refine bodyPost_ret (results_ct Tryd.results12 _ (LV.agg (set_4 K1.out) Tryd.underlying36 rfl (by kernel_rfl))) rfl ?_
  exact ⟨rfl, kp_set (kp_set (kp_set (kp_set HB.out (by omega)) (by omega)) (by omega)) (by omega)⟩
end Go.Proofs.YtkajlbdiofobcaaDoor
