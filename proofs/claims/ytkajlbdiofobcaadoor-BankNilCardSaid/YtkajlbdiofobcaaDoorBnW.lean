/-
  bank: the law's does, with no bank and no flash: Add.
-/
import Derived.Test.YtkajlbdiofobcaaDoorBnV
namespace Go.Proofs.YtkajlbdiofobcaaDoor
open Go.RowKit Go
set_option linter.unusedVariables false
set_option linter.unusedSimpArgs false
set_option maxRecDepth 100000
theorem put_43 {w : World} {g : Nat} {t : TypeId} {a0 a1 a2 a3 u : Value} (h : w.heap[g]? = some (.cells #[a0, a1, a2, a3] t)) : (w.setCell ⟨g, 3, none⟩ u).heap[g]? = some (.cells #[a0, a1, a2, u] t) := by
  simp [World.setCell, Array.getElem?_modify, h]
theorem same7_yes (A B : Option Addr) (n c d : Nat) (x : List UInt8) (w : World) (hA : RB w A n x) (hB : RB w B n x) (hn : n ≤ 1000000000) :
    Calls Tryd.prog 28 #[.slice A n c, .slice B n d] w fun e w' => e = .returned (.bool true) ∧ Below w.heap.size w w' := by
  have h := same7_any A B n c n d x x w hA hB hn hn
  rw [decide_eq_true (rfl : x = x)] at h
  exact h
set_option maxHeartbeats 4000000 in
theorem does8_nil4 (np pt : Int) (K V : Option Addr) (kn kc vn vc : Nat) (key val : List UInt8) (w : World) (hK : RB w K kn key) (hV : RB w V vn val) (hk : kn ≤ 1000000000) (hn : vn ≤ 1000000000) :
    Calls Tryd.prog 12 #[.pointer none, .pointer none, .agg #[.int .i64 4, .int .i64 np, .int .i64 pt, .slice K kn kc, .slice V vn vc]] w (DoesNil 2 w) := by
  have HV := Lib.hid hV
  have HK := Lib.hid hK
  clear hV hK
  go_enter Tryd.func12, Tryd.ntmps12
  go_wp2_with fail
  refine calls_nm fun W hW => ?_
  have hbW : Below w.heap.size w W := by rw [← hW]; exact kp_alloc (kp_alloc (kp_alloc (Below.refl _ _) _) _) _
  have g0 : W.heap[w.heap.size]? = some (.cells #[.int .i64 4, .int .i64 np, .int .i64 pt, .slice K kn kc, .slice V vn vc] 24) := by rw [← hW]; exact has_alloc (has_alloc (has_new _ _) _) _
  have g1 : W.heap[w.heap.size + 1]? = some (.cells #[.slice none 0 0, .int .i64 0, .bool false, .int .i64 0] 36) := by rw [← hW]; exact has_alloc (has_new' _ _ _ (by simp)) _
  have g2 : W.heap[w.heap.size + 1 + 1]? = some (.cells #[.slice none 0 0, .int .i64 0, .bool false, .int .i64 0] 36) := by rw [← hW]; exact has_new' _ _ _ (by simp)
  have hWs := block_lt g2
  clear hW
  refine (twin8_any K kn kc key _ (HK.out.below hbW) hk).mono ?_
  rintro e w1 ⟨A1, n1, c1, rfl, ho1, hb1⟩
  obtain rfl : n1 = kn := ho1.len.symm.trans HK.out.1
  have a0 := has_below g0 hb1
  have a1 := has_below g1 hb1
  have a2 := has_below g2 hb1
  obtain ⟨b0, b1, b2, b3, b4⟩ := cells_5 a0
  have BL1 := Lib.hid (kp_call hbW hb1)
  have A0 := Lib.hid a0
  have A1' := Lib.hid a1
  have A2' := Lib.hid a2
  have HO1 := Lib.hid ho1
  have HWs := Lib.hid hWs
  have hsz1 : Hid (W.heap.size ≤ w1.heap.size) := hb1.size
  clear a0 a1 a2 ho1 hb1 g0 g1 g2 hbW hWs
  go_wp2_with fail
  refine (twin8_any V vn vc val _ (HV.out.below BL1.out) hn).mono ?_
  rintro e w2 ⟨A2, n2, c2, rfl, ho2, hb2⟩
  obtain rfl : n2 = vn := ho2.len.symm.trans HV.out.1
  have a0 := has_below A0.out hb2
  have a1 := has_below A1'.out hb2
  have a2 := has_below A2'.out hb2
  obtain ⟨y0, y1, y2, y3⟩ := cells_4 a2
  obtain ⟨z0, z1, z2, z3⟩ := free_4 a2
  have BL2 := Lib.hid (kp_call BL1.out hb2)
  have HO1b := Lib.hid (HO1.out.below hb2 (Nat.le_refl _))
  have HO2 := Lib.hid ho2
  have D0 := Lib.hid a0
  have D1 := Lib.hid a1
  have D2 := Lib.hid a2
  clear b0 b1 b2 b3 b4 a0 a1 a2 ho2 hb2 A0 A1' A2' BL1 HO1
  go_wp2_with fail
  refine (addnil_any _ _ _ _ _ _ _).mono ?_
  rintro e w3 ⟨rfl, hw3⟩
  subst w3
  go_upto_region 17 with (fail)
  refine wp_nm fun W4 hW4 => ?_
  have BL4 := Lib.hid (show Below w.heap.size w W4 from by rw [← hW4]; exact kp_set BL2.out (by omega))
  have E0 : Hid (W4.heap[w.heap.size]? = some (.cells #[.int .i64 4, .int .i64 np, .int .i64 pt, .slice K n1 kc, .slice V n2 vc] 24)) := by rw [← hW4]; exact has_set D0.out (by omega)
  have E1 : Hid (W4.heap[w.heap.size + 1]? = some (.cells #[.slice none 0 0, .int .i64 0, .bool false, .int .i64 0] 36)) := by rw [← hW4]; exact has_set D1.out (by omega)
  have E2 : Hid (W4.heap[w.heap.size + 1 + 1]? = some (.cells #[.slice none 0 0, .int .i64 0, .bool false, .int .i64 2] 36)) := by rw [← hW4]; exact put_43 D2.out
  have R1 : Hid (RB W4 A1 n1 key) := by
    rw [← hW4]; exact (HO1b.out.kept (grown_one _ _ _ _) (.inr (fun e => by have := (HO1b.out.blk_lt e).1; have := HWs.out; omega))).rb
  have R2 : Hid (RB W4 A2 n2 val) := by
    rw [← hW4]; exact (HO2.out.kept (grown_one _ _ _ _) (.inr (fun e => by have := (HO2.out.blk_lt e).1; have := HWs.out; have := hsz1.out; omega))).rb
  have KEEP : Hid (∀ X, (X.heap[w.heap.size]? = some (.cells #[.int .i64 4, .int .i64 np, .int .i64 pt, .slice K n1 kc, .slice V n2 vc] 24) ∧ X.heap[w.heap.size + 1 + 1]? = some (.cells #[.slice none 0 0, .int .i64 0, .bool false, .int .i64 2] 36) ∧ Below w.heap.size w X) → (X.cell? ⟨w.heap.size, 3, none⟩ = some (.slice K n1 kc) ∧ X.cell? ⟨w.heap.size, 4, none⟩ = some (.slice V n2 vc) ∧ X.cell? ⟨w.heap.size + 1 + 1, 0, none⟩ = some (.slice none 0 0) ∧ X.cell? ⟨w.heap.size + 1 + 1, 1, none⟩ = some (.int .i64 0) ∧ X.cell? ⟨w.heap.size + 1 + 1, 2, none⟩ = some (.bool false) ∧ X.cell? ⟨w.heap.size + 1 + 1, 3, none⟩ = some (.int .i64 2)) ∧ X.heap[w.heap.size]? = some (.cells #[.int .i64 4, .int .i64 np, .int .i64 pt, .slice K n1 kc, .slice V n2 vc] 24) ∧ X.heap[w.heap.size + 1 + 1]? = some (.cells #[.slice none 0 0, .int .i64 0, .bool false, .int .i64 2] 36) ∧ Below w.heap.size w X) := fun X hX => by
    obtain ⟨a0, a1, a2, a3, a4⟩ := cells_5 hX.1
    obtain ⟨c0, c1, c2, c3⟩ := cells_4 hX.2.1
    exact ⟨⟨a3, a4, c0, c1, c2, c3⟩, hX⟩
  clear hW4 y0 y1 y2 y3 z0 z1 z2 z3 D0 D1 D2 HO1b HO2
  go_region_held3 (fun X => (X.cell? ⟨w.heap.size, 3, none⟩ = some (.slice K n1 kc) ∧ X.cell? ⟨w.heap.size, 4, none⟩ = some (.slice V n2 vc) ∧ X.cell? ⟨w.heap.size + 1 + 1, 0, none⟩ = some (.slice none 0 0) ∧ X.cell? ⟨w.heap.size + 1 + 1, 1, none⟩ = some (.int .i64 0) ∧ X.cell? ⟨w.heap.size + 1 + 1, 2, none⟩ = some (.bool false) ∧ X.cell? ⟨w.heap.size + 1 + 1, 3, none⟩ = some (.int .i64 2)) ∧ X.heap[w.heap.size]? = some (.cells #[.int .i64 4, .int .i64 np, .int .i64 pt, .slice K n1 kc, .slice V n2 vc] 24) ∧ X.heap[w.heap.size + 1 + 1]? = some (.cells #[.slice none 0 0, .int .i64 0, .bool false, .int .i64 2] 36) ∧ Below w.heap.size w X)
    ((apply KEEP.out; with_reducible first | assumption | exact ⟨has_drew E0.out, has_drew E2.out, kp_drew BL4.out⟩ | exact hX1 | exact hX2 | exact ⟨has_set (has_set (has_set (has_set hX2.1 (by omega)) (by omega)) (by omega)) (by omega), has_set (has_set (has_set (has_set hX2.2.1 (by omega)) (by omega)) (by omega)) (by omega), kp_set (kp_set (kp_set (kp_set hX2.2.2 (by omega)) (by omega)) (by omega)) (by omega)⟩))
    (first
      | (go_at_call 28; (with_reducible refine (same7_yes A1 K n1 c1 kc key W4.drew R1.out.drew (HK.out.below (kp_drew BL4.out)) hk).mono ?_); (rintro e X1 ⟨rfl, hb1⟩; have hX1 : X1.heap[w.heap.size]? = some (.cells #[.int .i64 4, .int .i64 np, .int .i64 pt, .slice K n1 kc, .slice V n2 vc] 24) ∧ X1.heap[w.heap.size + 1 + 1]? = some (.cells #[.slice none 0 0, .int .i64 0, .bool false, .int .i64 2] 36) ∧ Below w.heap.size w X1 := ⟨has_below (has_drew E0.out) hb1, has_below (has_drew E2.out) hb1, kp_call (kp_drew BL4.out) hb1⟩; have g1 := has_below (has_drew E1.out) hb1; have r2 := R2.out.drew.below hb1; have HR2 := Lib.hid r2; clear r2))
      | (go_at_call 28; (with_reducible refine (same7_yes A2 V n2 c2 vc val X1 HR2.out (HV.out.below hX1.2.2) hn).mono ?_); (rintro e X2 ⟨rfl, hb2⟩; have hX2 : X2.heap[w.heap.size]? = some (.cells #[.int .i64 4, .int .i64 np, .int .i64 pt, .slice K n1 kc, .slice V n2 vc] 24) ∧ X2.heap[w.heap.size + 1 + 1]? = some (.cells #[.slice none 0 0, .int .i64 0, .bool false, .int .i64 2] 36) ∧ Below w.heap.size w X2 := ⟨has_below hX1.1 hb2, has_below hX1.2.1 hb2, kp_call hX1.2.2 hb2⟩; have k1 := has_below g1 hb2; obtain ⟨x0, x1, x2, x3⟩ := cells_4 k1; obtain ⟨u0, u1, u2, u3⟩ := free_4 k1)))
  all_goals
    have HB := Lib.hid hX2.2.2
    have K1 := Lib.hid k1
    clear k1 g1 hX1 hX2 hb1 hb2
    go_wp2
    refine bodyPost_ret (results_ct Tryd.results12 _ (LV.agg (set_4 K1.out) Tryd.underlying36 rfl (by kernel_rfl))) rfl ?_
    exact ⟨rfl, kp_set (kp_set (kp_set (kp_set HB.out (by omega)) (by omega)) (by omega)) (by omega)⟩
end Go.Proofs.YtkajlbdiofobcaaDoor
