/-
  pe: the anchor.
-/
import Derived.Test.YtjfpiidofbjdhaaDoorPeN
import Derived.Test.YtjfpiidofbjdhaaDoorPeO
namespace Go.Proofs.YtjfpiidofbjdhaaDoor
open Go.RowKit Go
set_option linter.unusedVariables false
set_option maxRecDepth 100000
/-- The anchor's shape in memory. -/
def shpW (p0 p1 p2 p3 p4 p5 : Nat) : Shp :=
  ⟨false, none, 0, 0, [], none, 0, 0, [], some ⟨p2, 0, none⟩, 2, 2, [(some ⟨p0, 0, none⟩, 2, 2, [1, 2]), (some ⟨p1, 0, none⟩, 1, 1, [3])], some ⟨p3, 0, none⟩, 1, 1, [1], none, 0, 0, [], some ⟨p5, 0, none⟩, 1, 1, [(some ⟨p4, 0, none⟩, 1, 1, [7])]⟩
theorem rb_cells {W : World} {p : Nat} {bs : List UInt8} {cs : Array Value} (k : W.heap[p]? = some (.cells cs 5)) (h : cs.toList = bs.map bv) : RB W (some ⟨p, 0, none⟩) bs.length bs := by
  refine ⟨rfl, fun _ => ⟨p, 0, rfl, block_lt k, fun j hj => ?_⟩⟩
  rw [show W.cell? ⟨p, 0 + j, none⟩ = _ from Lib.cell_of_heap k (0 + j)]
  rw [Nat.zero_add, ← Array.getElem?_toList, h, List.getElem?_map, List.getElem?_eq_getElem hj]
  rfl
theorem readR_cells {W : World} {p t : Nat} {vs : List Value} (k : W.heap[p]? = some (.cells vs.toArray t)) : ReadR W (some ⟨p, 0, none⟩) vs := by
  refine fun _ => ⟨p, 0, rfl, block_lt k, fun j u hu => ?_⟩
  rw [show W.cell? ⟨p, 0 + j, none⟩ = _ from Lib.cell_of_heap k (0 + j)]
  rw [Nat.zero_add]
  simpa using hu
theorem shp_R {W : World} {p0 p1 p2 p3 p4 p5 : Nat} (k0 : W.heap[p0]? = some (.cells #[.int .u8 1, .int .u8 2] 5)) (k1 : W.heap[p1]? = some (.cells #[.int .u8 3] 5)) (k2 : W.heap[p2]? = some (.cells #[.slice (some ⟨p0, 0, none⟩) 2 2, .slice (some ⟨p1, 0, none⟩) 1 1] 22))
    (k3 : W.heap[p3]? = some (.cells #[.int .i64 1] 3)) (k4 : W.heap[p4]? = some (.cells #[.int .u8 7] 5)) (k5 : W.heap[p5]? = some (.cells #[.slice (some ⟨p4, 0, none⟩) 1 1] 22)) : (shpW p0 p1 p2 p3 p4 p5).R W := by
  refine ⟨RB.nil _ _, RB.nil _ _, ⟨rfl, readR_cells k2, ?_⟩, rfl, readR_cells k3, RB.nil _ _, ⟨rfl, readR_cells k5, ?_⟩⟩
  · intro x hx
    rcases List.mem_cons.1 hx with rfl | hx
    · exact rb_cells (bs := [1, 2]) k0 rfl
    · simp only [List.mem_singleton] at hx; subst hx
      exact rb_cells (bs := [3]) k1 rfl
  · intro x hx
    simp only [shpW, List.mem_singleton] at hx; subst hx
    exact rb_cells (bs := [7]) k4 rfl
set_option maxHeartbeats 4000000 in
theorem works_any (w : World) (hS : Sizes w) : Calls Tryd.prog 12 #[] w fun e w' => e = .returned (.bool true) ∧ Below w.heap.size w w' := by
  go_enter Tryd.func12, Tryd.ntmps12
  have HS := Lib.hid hS
  clear hS
  go_wp2_with (fail)
  refine (brought_any (shpW w.heap.size (w.heap.size + 1) (w.heap.size + 1 + 1) (w.heap.size + 1 + 1 + 1) (w.heap.size + 1 + 1 + 1 + 1) (w.heap.size + 1 + 1 + 1 + 1 + 1)) _ (shp_R ?_ ?_ ?_ ?_ ?_ ?_) (by simp only [shpW]; omega) (by simp only [shpW]; omega) (by simp [shpW]) (by simp [shpW]) (by simp only [shpW]; omega)).mono ?_
  iterate 6 (first | exact has_new' _ _ _ (by simp) | (refine has_alloc ?_ _; first | exact has_new' _ _ _ (by simp) | (refine has_alloc ?_ _; first | exact has_new' _ _ _ (by simp) | (refine has_alloc ?_ _; first | exact has_new' _ _ _ (by simp) | (refine has_alloc ?_ _; first | exact has_new' _ _ _ (by simp) | (refine has_alloc ?_ _; exact has_new' _ _ _ (by simp)))))))
  rintro e W2 ⟨y, rfl, hy, hb2, hpl, hst, hfi, hbe, hor, hbo, hsi, _⟩
  have hb2' := kp_call (kp_alloc (kp_alloc (kp_alloc (kp_alloc (kp_alloc (kp_alloc (Below.refl w.heap.size w) _) _) _) _) _) _) hb2
  have HY := Lib.hid (And.intro hy (And.intro hb2' (And.intro hpl (And.intro hst (And.intro hfi (And.intro hbe (And.intro hor (And.intro hbo hsi))))))))
  clear hy hb2 hb2' hpl hst hfi hbe hor hbo hsi
  go_upto_region 2 with (refine wpList_store_row rfl _ _ _ rfl W2.heap.size y.cells rfl rfl _ _ (has_new W2 _) (by kernel_rfl) rfl (by simp [Shp.cells, Value.oneCell']) ?_)
  refine wp_nm fun W3 hW3 => ?_
  have k3 : W3.heap[W2.heap.size]? = some (.cells y.cells 39) := by rw [← hW3]; exact setRow_heap _ _ _ _ _ _ (has_new W2 _)
  have hb3 : Below W2.heap.size W2 W3 := by rw [← hW3]; exact below_setRow (kp_alloc (Below.refl _ _) _) (Nat.le_refl _) _
  have K3 := Lib.hid (And.intro k3 (And.intro (kp_call HY.out.2.1 hb3) (HY.out.1.below hb3)))
  clear hW3 k3 hb3
  obtain ⟨hy, hb2, hpl, hst, hfi, hbe, hor, hbo, hsi⟩ := HY.out
  have hbo' : y.bod.map (fun z => z.2.2.2) = [[1, 2], [3]] := hbo
  have hsi' : y.sig.map (fun z => z.2.2.2) = [[48, 7]] := hsi
  have hst' : y.stub = [] := hst
  have hfi' : y.fill = [] := hfi
  have hbe' : y.beh = [] := hbe
  have hor' : y.ord = [1] := hor
  have hpl' : y.plus = false := hpl
  have C := Lib.hid (writeD_any y W3 K3.out.2.2
    (by
      have a1 := hy.s.1; have a2 := hy.f.1; have a3 := hy.h.1; have a4 := hy.ol; have a5 := hy.b.l; have a6 := hy.g.l
      have a7 := congrArg List.length hbo'; have a8 := congrArg List.length hsi'
      rw [hst'] at a1; rw [hfi'] at a2; rw [hbe'] at a3; rw [hor'] at a4
      simp at a1 a2 a3 a4 a7 a8
      omega)
    (fun z hz => by
      have := List.mem_map_of_mem (f := fun z : Own1 => z.2.2.2) hz
      rw [hbo'] at this
      simp at this
      rcases this with h | h <;> rw [h] <;> decide)
    (fun z hz => by
      have := List.mem_map_of_mem (f := fun z : Own1 => z.2.2.2) hz
      rw [hsi'] at this
      simp at this
      rw [this]; decide)
    (by rw [hor']; decide))
  rw [hpl', hst', hfi', hbo', hor', hbe', hsi'] at C
  clear hy hb2 hpl hst hfi hbe hor hbo hsi hbo' hsi' hst' hfi' hbe' hor' hpl'
  go_wp2_with (refine wpList_load_row rfl _ _ rfl W2.heap.size rfl _ _ _ _ K3.out.1 Tryd.underlying39 rfl (by kernel_rfl) ?_)
  (with_reducible refine C.out.mono ?_)
  rintro e W4 ⟨X, n, c, rfl, ho4, hb4⟩
  clear C
  have hb4' := kp_call K3.out.2.1 hb4
  have hcap := ho4.row.cap
  have P1 := Lib.hid (parse_any X n c wImg W4 ho4.rb (HS.out.below' hb4') hcap.1 (by have := hcap.2; unfold maxLen at this; omega))
  have HB4 := Lib.hid hb4'
  clear ho4 hb4 hb4' hcap
  go_wp2_with (fail)
  (with_reducible refine P1.out.mono ?_)
  clear P1
  rintro e W5 ⟨hp, hb5⟩
  rw [works_parse] at hp
  obtain ⟨V, m, cV, U, k, cU, xs, rfl, him⟩ := hp
  have hb5' := kp_call HB4.out hb5
  have H5 := Lib.hid (And.intro him hb5')
  clear him hb5 hb5' HB4
  go_upto_region 3 with (refine wpList_store_row rfl _ _ _ rfl W5.heap.size (imVal wIm V m cV U k cU) rfl rfl _ _ (has_new W5 _) (by kernel_rfl) rfl (by simp [imVal, Value.oneCell']) ?_)
  refine wp_nm fun W6 hW6 => ?_
  have k6 : W6.heap[W5.heap.size]? = some (.cells (imVal wIm V m cV U k cU) 28) := by rw [← hW6]; exact setRow_heap _ _ _ _ _ _ (has_new W5 _)
  have hb6 : Below W5.heap.size W5 W6 := by rw [← hW6]; exact below_setRow (kp_alloc (Below.refl _ _) _) (Nat.le_refl _) _
  have H6 := Lib.hid (And.intro k6 (And.intro hb6 (kp_call H5.out.2 hb6)))
  have P2 := Lib.hid (parse_any none 0 0 [] W6 (RB.nil _ _) (HS.out.below' H6.out.2.2) (Nat.le_refl _) (by decide))
  clear hW6 k6 hb6
  go_wp2_with (fail)
  (with_reducible refine P2.out.mono ?_)
  clear P2
  rintro e W7 ⟨hp, hb7⟩
  rw [nil_parse] at hp
  obtain rfl : e = .returned (.tuple #[.agg imZero, .int .i64 9]) := hp
  have b57 := kp_call H6.out.2.1 hb7
  have him := H5.out.1
  have hm2 : m = 2 := him.ml
  have hkl := him.kl
  have hby := him.bytes
  obtain ⟨z, rfl⟩ : ∃ z, xs = [z] := by
    have h9 := congrArg List.length hby
    simp [wIm] at h9
    exact List.length_eq_one_iff.1 h9
  have hk1 : k = 1 := hkl
  have hz2 : z.2.1 = 2 := by
    have h1 := (him.own.own z List.mem_cons_self).1.len
    have h2 : z.2.2.2 = [48, 7] := by simpa [wIm] using hby
    rw [h2] at h1
    exact h1.symm
  subst hm2 hk1
  have B7 := Lib.hid (And.intro b57 (And.intro hb7 (And.intro him hz2)))
  clear b57 hb7 him hkl hby hz2
  go_wp2_with (refine wpList_store_row rfl _ _ _ rfl W7.heap.size imZero rfl rfl _ _ (has_new W7 _) (by kernel_rfl) rfl (by simp [imZero, Value.oneCell']) ?_; generalize hW8 : World.setRow _ W7.heap.size imZero = W8; have h57 : W5.heap.size < W7.heap.size := Nat.lt_of_lt_of_le (block_lt H6.out.1) B7.out.2.1.size; have k8 : W8.heap[W5.heap.size]? = some (.cells #[.bool false, .int .i64 152, .int .i64 216, .int .u32 392, .slice V 2 cV, .int .u32 400, .int .u32 16, .slice U 1 cU] 28) := (by rw [← hW8]; exact (setRow_other _ _ _ _ (Nat.ne_of_lt h57)).trans (has_alloc (has_below H6.out.1 B7.out.2.1) _)); have b58 : Below W5.heap.size W5 W8 := (by rw [← hW8]; exact below_setRow (kp_alloc B7.out.1 _) (Nat.le_of_lt h57) _); have B8 := Lib.hid (kp_call H5.out.2 b58); obtain ⟨x0, x1, x2, x3, x4, x5, x6, x7⟩ := cells_8 k8; obtain ⟨vb, vo, hV, _, hc⟩ := (B7.out.2.2.1.secs.reads.below b58 (Nat.le_refl _)) (by simp [wIm, secCells]); obtain ⟨ub, uo, hU, _, hd⟩ := (B7.out.2.2.1.sigs.reads.below b58 (Nat.le_refl _)) (by simp); have g0 : W8.cell? ⟨vb, vo, none⟩ = some (.int .u32 393) := hc 0 _ rfl; have g2 : W8.cell? ⟨vb, vo + 2, none⟩ = some (.int .u32 392) := hc 2 _ rfl; have g3 : W8.cell? ⟨vb, vo + 2 + 1, none⟩ = some (.int .u32 1) := hc 3 _ rfl; have g4 : W8.cell? ⟨vb, vo + 3, none⟩ = some (.int .u32 1) := hc 3 _ rfl; have d0 : W8.cell? ⟨ub, uo, none⟩ = some (.slice z.1 2 z.2.2.1) := (by have h9 := hd 0 _ rfl; rw [show Own1.val z = Value.slice z.1 2 z.2.2.1 by unfold Own1.val; rw [B7.out.2.2.2]] at h9; exact h9); subst hV hU; clear hc hd hW8 k8 b58 h57)
  go_quiet (fail)
  go_wp2_with (fail)
  go_ret
  exact ⟨rfl, kp_drewN B8.out _⟩
end Go.Proofs.YtjfpiidofbjdhaaDoor
