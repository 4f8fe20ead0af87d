/-
  measure: the statement on what has no say in the digest.
-/
import Derived.Test.YtcedojmhgmgcgaaDoorMeM
import Derived.Test.YtcedojmhgmgcgaaDoorMp9
import Derived.StillTailTactics
import Derived.Deep.Cut
import Derived.Test.YtcedojmhgmgcgaaDoorMeV
import Derived.Test.YtcedojmhgmgcgaaDoorRows2
import Derived.Great.BuildSlice
import Derived.OpenShut
namespace Go.Proofs.YtcedojmhgmgcgaaDoor
open Go.RowKit Go
set_option linter.unusedVariables false
set_option linter.unusedSimpArgs false
set_option maxRecDepth 100000
attribute [local go_sem] Oper.semAt_some
theorem shp_sigs {w W : World} {gA : Option Addr} {gn gc : Nat} {X : Nat → Option Addr × Nat × Nat} {bss : Nat → List UInt8} (h : IsRows w gA gn gc X bss) (hb : Below w.heap.size w W) :
    ∃ xs : List Own1, IsShp W ⟨false, none, 0, 0, [], none, 0, 0, [], none, 0, 0, [], none, 0, 0, [], none, 0, 0, [], gA, gn, gc, xs⟩ ∧ xs.length = gn := by
  obtain ⟨xs, h1, h2⟩ := rows_list h
  refine ⟨xs, ⟨⟨RB.nil _ _, RB.nil _ _, ⟨rfl, ReadR.nil, fun x hx => by cases hx⟩, rfl, ReadR.nil, RB.nil _ _, h1.below hb⟩, ⟨Nat.le_refl _, Nat.le_refl _, Nat.le_refl _, Nat.le_refl _⟩, (show 0 ≤ 9223372036854775807 ∧ 0 ≤ 9223372036854775807 ∧ 0 ≤ 9223372036854775807 ∧ 0 ≤ 9223372036854775807 from by decide), (fun y hy => by cases hy), h2, ⟨by show 0 ≤ _; omega, h.lim⟩, (fun z hz => by cases hz)⟩, h1.l⟩
theorem Brd0.mix {y z : Shp} (h : Brd0 y) (k : Brd0 z) : Brd0 (⟨y.plus, y.sA, y.sn, y.sc, y.stub, y.fA, y.fn, y.fc, y.fill, y.bA, y.bn, y.bc, y.bod, y.oA, y.on, y.oc, y.ord, y.hA, y.hn, y.hc, y.beh, z.gA, z.gn, z.gc, z.sig⟩ : Shp) := by
  obtain ⟨a1, a2, a3, a4, a5, a6⟩ := h.s1
  obtain ⟨b1, b2, b3, b4, b5, b6⟩ := k.s1
  exact ⟨⟨a1, a2, a3, a4, a5, b6⟩, h.s2, k.s3, h.s4, ⟨h.bd.s, h.bd.f, h.bd.n, h.bd.b, h.bd.h, k.bd.g, k.bd.gs⟩, h.nb, k.ng, k.gc⟩
set_option maxHeartbeats 32000000 in
theorem blind_row (x : Shp) (cv : Int) (gA : Option Addr) (gn gc : Nat) (X : Nat → Option Addr × Nat × Nat) (bss : Nat → List UInt8) (w : World) (hx : IsShp w x) (hcw : (Lit.int .u32 cv).wf = true) (hgr : IsRows w gA gn gc X bss) (hT : Sizes w) :
    Calls Tryd.prog 4 #[x.val, .int .u32 cv, .slice gA gn gc] w fun e w' => e = .returned (.bool true) ∧ Below w.heap.size w w' := by
  unfold Shp.val
  have HGR := Lib.hid hgr
  have HCW := bounds_u32 hcw
  obtain ⟨hcw1, hcw2⟩ := HCW
  obtain ⟨cn, rfl⟩ : ∃ cn : Nat, cv = (cn : Int) := ⟨cv.toNat, by omega⟩
  have hgn9 := hgr.lim
  clear hgr hcw
  have HX := Lib.hid hx
  have HS := Lib.hid hT
  clear hx hT
  go_enter Tryd.func4, Tryd.ntmps4
  go_upto_region 1 with (fail)
  refine wp_nm fun W0 hW0 => ?_
  have k0 : W0.heap[w.heap.size]? = some (.cells x.cells 42) := by rw [← hW0]; exact has_new w _
  have hb0 : Below w.heap.size w W0 := by rw [← hW0]; exact kp_alloc (Below.refl _ _) _
  have KX := Lib.hid (And.intro k0 hb0)
  have CB := Lib.hid (brought_any x W0 (HX.out.r.below hb0) HX.out.lc HX.out.cc HX.out.bc HX.out.gc HX.out.bn)
  clear hW0 k0 hb0
  go_wp2_with (refine wpList_load_row rfl _ _ rfl w.heap.size rfl _ _ _ _ KX.out.1 Tryd.underlying42 rfl (by kernel_rfl) ?_)
  (with_reducible refine CB.out.mono ?_)
  clear CB
  rintro e W2 ⟨y, rfl, hy, hb2, hpl, hst, hfi, hbe, hor, hbo, hsi, hgc⟩
  have hB := brd HX.out hy hst hfi hbe hor hbo hsi hgc
  have H2 := Lib.hid (And.intro hy (And.intro (kp_call KX.out.2 hb2) (And.intro hB (And.intro (has_below KX.out.1 hb2) hpl))))
  clear hy hb2 hpl hst hfi hbe hor hbo hsi hB hgc
  go_upto_region 2 with (refine wpList_store_row rfl _ _ _ rfl W2.heap.size y.cells rfl rfl _ _ (has_new W2 _) (by kernel_rfl) rfl (by simp [Shp.cells, Value.oneCell']) ?_)
  refine wp_nm fun W3 hW3 => ?_
  have k3 : W3.heap[W2.heap.size]? = some (.cells y.cells 42) := by rw [← hW3]; exact setRow_heap _ _ _ _ _ _ (has_new W2 _)
  have hb3 : Below W2.heap.size W2 W3 := by rw [← hW3]; exact below_setRow (kp_alloc (Below.refl _ _) _) (Nat.le_refl _) _
  have H3 := Lib.hid (And.intro k3 (And.intro (H2.out.1.below hb3) (And.intro (kp_call H2.out.2.1 hb3) (And.intro H2.out.2.2.1 (And.intro (has_below H2.out.2.2.2.1 hb3) H2.out.2.2.2.2)))))
  have HW2 := Lib.hid H2.out.2.1.size
  have HYB := Lib.hid (And.intro H2.out.1 hb3)
  have HKX := Lib.hid H2.out.2.2.2.1
  have HBW := Lib.hid H2.out.2.1
  clear hW3 k3 hb3 KX H2
  have hg := H3.out.1
  unfold Shp.cells at hg
  obtain ⟨g0, g1, g2, g3, g4, g5, g6⟩ := cells_7 hg
  clear hg g0 g1 g2 g3 g4 g5
  by_cases hg0 : y.gn = 0
  · have w2 : ((y.gn : Int) == 0) = true := by rw [hg0]; rfl
    clear hg0
    go_wp2_with (fail)
    (with_reducible refine (works17_any _ (HS.out.below' H3.out.2.2.1)).mono ?_)
    rintro e w9 ⟨rfl, hb9⟩
    have HB9 := Lib.hid (kp_call H3.out.2.2.1 hb9)
    clear hb9
    go_wp2_with (fail)
    go_ret
    exact ⟨rfl, HB9.out⟩
  by_cases hm0 : gn = 0
  · have w2 : ((y.gn : Int) == 0) = false := by simp; omega
    have w3 : ((gn : Int) == 0) = true := by rw [hm0]; rfl
    clear hg0 hm0
    go_wp2_with (fail)
    (with_reducible refine (works17_any _ (HS.out.below' H3.out.2.2.1)).mono ?_)
    rintro e w9 ⟨rfl, hb9⟩
    have HB9 := Lib.hid (kp_call H3.out.2.2.1 hb9)
    clear hb9
    go_wp2_with (fail)
    go_ret
    exact ⟨rfl, HB9.out⟩
  have w2 : ((y.gn : Int) == 0) = false := by simp; omega
  have w3 : ((gn : Int) == 0) = false := by simp; omega
  obtain ⟨xs, hxs, hxl⟩ := shp_sigs HGR.out H3.out.2.2.1
  have HX2 := Lib.hid hxs
  have CB : Hid (Calls Tryd.prog 13 #[.agg #[.bool false, .slice none 0 0, .slice none 0 0, .slice none 0 0, .slice none 0 0, .slice none 0 0, .slice gA gn gc]] W3 (BrPost ⟨false, none, 0, 0, [], none, 0, 0, [], none, 0, 0, [], none, 0, 0, [], none, 0, 0, [], gA, gn, gc, xs⟩ W3)) := Lib.hid (brought_any _ W3 hxs.r hxs.lc hxs.cc hxs.bc hxs.gc hxs.bn)
  obtain ⟨p7, hp7⟩ : ∃ p7, W2.heap.size = p7 := ⟨_, rfl⟩
  have K3 : Hid (W3.heap[p7]? = some (.cells #[.bool y.plus, .slice y.sA y.sn y.sc, .slice y.fA y.fn y.fc, .slice y.bA y.bn y.bc, .slice y.oA y.on y.oc, .slice y.hA y.hn y.hc, .slice y.gA y.gn y.gc] 42) ∧ y.R W3 ∧ Below w.heap.size w W3) := Lib.hid ⟨by rw [← hp7]; exact H3.out.1, H3.out.2.1, H3.out.2.2.1⟩
  have HBY := Lib.hid H3.out.2.2.2.1
  rw [hp7] at g6 ⊢
  have HXL := Lib.hid hxl
  clear hxs hxl H3 hp7 HW2 HYB HKX HBW
  go_wp2_with (first
    | (refine wpList_buildTo rfl 42 _ rfl _ rfl #[.bool false, .slice none 0 0, .slice none 0 0, .slice none 0 0, .slice none 0 0, .slice none 0 0, .slice gA gn gc] ?_ ?_; · kernel_rfl))
  (with_reducible refine CB.out.mono ?_)
  clear CB
  rintro e W5 ⟨z, rfl, hz, hb5, _, hst, hfi, hbe, hor, hbo, hsi, hgc⟩
  have hZ := brd HX2.out hz hst hfi hbe hor hbo hsi hgc
  have hz0 : z.sig.map (fun z => z.2.2.2) ≠ [] := by
    rw [hsi]
    unfold bringS
    intro h
    have h1 := congrArg List.length h
    simp at h1
    have := HXL.out
    rcases h1 with h1 | h1 <;> simp_all
  have HBZ := Lib.hid hZ
  have HZN := Lib.hid hz0
  obtain ⟨p8, hp8⟩ : ∃ p8, W5.heap.size = p8 := ⟨_, rfl⟩
  have hp78 : p7 < p8 := by rw [← hp8]; exact block_lt (has_below K3.out.1 hb5)
  have K5 : Hid (W5.heap[p7]? = some (.cells #[.bool y.plus, .slice y.sA y.sn y.sc, .slice y.fA y.fn y.fc, .slice y.bA y.bn y.bc, .slice y.oA y.on y.oc, .slice y.hA y.hn y.hc, .slice y.gA y.gn y.gc] 42) ∧ y.R W5 ∧ z.R W5 ∧ Below w.heap.size w W5) := Lib.hid ⟨has_below K3.out.1 hb5, K3.out.2.1.below hb5, hz, kp_call K3.out.2.2 hb5⟩
  have HP8 := Lib.hid hp8
  clear hz hb5 hst hfi hbe hor hbo hsi hgc hZ hz0 K3 g6 HX2 hp8
  go_upto_region 5 with (refine wpList_store_row rfl _ _ _ rfl W5.heap.size z.cells rfl rfl _ _ (has_new W5 _) (by kernel_rfl) rfl (by simp [Shp.cells, Value.oneCell']) ?_)
  refine wp_nm fun Wa hWa => ?_
  have Ka0 : Hid (Wa.heap[p7]? = some (.cells #[.bool y.plus, .slice y.sA y.sn y.sc, .slice y.fA y.fn y.fc, .slice y.bA y.bn y.bc, .slice y.oA y.on y.oc, .slice y.hA y.hn y.hc, .slice y.gA y.gn y.gc] 42) ∧ Wa.heap[p8]? = some (.cells #[.bool z.plus, .slice z.sA z.sn z.sc, .slice z.fA z.fn z.fc, .slice z.bA z.bn z.bc, .slice z.oA z.on z.oc, .slice z.hA z.hn z.hc, .slice z.gA z.gn z.gc] 42) ∧ Below p8 Wa Wa) := by
    rw [← hWa, ← HP8.out]
    exact Lib.hid ⟨has_below K5.out.1 (below_setRow (kp_alloc (Below.refl _ _) _) (Nat.le_refl _) _), setRow_heap _ _ _ _ _ _ (has_new W5 _), Below.refl _ _⟩
  have hba : Below W5.heap.size W5 Wa := by rw [← hWa]; exact below_setRow (kp_alloc (Below.refl _ _) _) (Nat.le_refl _) _
  have HBA := Lib.hid hba
  have HP78 := Lib.hid hp78
  rw [HP8.out]
  clear hWa hba w2 w3
  obtain ⟨g0, g1, g2, g3, g4, g5, g6⟩ := cells_7 Ka0.out.1
  obtain ⟨h0, h1, h2, h3, h4, h5, h6⟩ := cells_7 Ka0.out.2.1
  have f0 := Lib.frozen_of_heap Ka0.out.2.1 0
  go_upto_region 6 with (fail)
  refine wp_nm fun Y0 hY => ?_
  have Ka1 : Hid (Y0.heap[p7]? = some (.cells #[.bool y.plus, .slice y.sA y.sn y.sc, .slice y.fA y.fn y.fc, .slice y.bA y.bn y.bc, .slice y.oA y.on y.oc, .slice y.hA y.hn y.hc, .slice y.gA y.gn y.gc] 42) ∧ Y0.heap[p8]? = some (.cells #[.bool y.plus, .slice z.sA z.sn z.sc, .slice z.fA z.fn z.fc, .slice z.bA z.bn z.bc, .slice z.oA z.on z.oc, .slice z.hA z.hn z.hc, .slice z.gA z.gn z.gc] 42) ∧ Below p8 Wa Y0) := by
    rw [← hY]
    refine Lib.hid ⟨has_set Ka0.out.1 (fun e => by have := HP78.out; omega), ?_, Ka0.out.2.2.setCell (Nat.le_refl _) _⟩
    have h9 := heap_set_at _ p8 0 _ _ _ (.bool y.plus) Ka0.out.2.1
    simp only [List.setIfInBounds_toArray, List.set_cons_zero, List.set_cons_succ] at h9
    exact h9
  clear hY Ka0 g0 g1 g2 g3 g4 g5 g6 h0 h1 h2 h3 h4 h5 h6 f0
  obtain ⟨g0, g1, g2, g3, g4, g5, g6⟩ := cells_7 Ka1.out.1
  obtain ⟨h0, h1, h2, h3, h4, h5, h6⟩ := cells_7 Ka1.out.2.1
  have f1 := Lib.frozen_of_heap Ka1.out.2.1 1
  go_upto_region 7 with (fail)
  refine wp_nm fun Y1 hY => ?_
  have Ka2 : Hid (Y1.heap[p7]? = some (.cells #[.bool y.plus, .slice y.sA y.sn y.sc, .slice y.fA y.fn y.fc, .slice y.bA y.bn y.bc, .slice y.oA y.on y.oc, .slice y.hA y.hn y.hc, .slice y.gA y.gn y.gc] 42) ∧ Y1.heap[p8]? = some (.cells #[.bool y.plus, .slice y.sA y.sn y.sc, .slice z.fA z.fn z.fc, .slice z.bA z.bn z.bc, .slice z.oA z.on z.oc, .slice z.hA z.hn z.hc, .slice z.gA z.gn z.gc] 42) ∧ Below p8 Wa Y1) := by
    rw [← hY]
    refine Lib.hid ⟨has_set Ka1.out.1 (fun e => by have := HP78.out; omega), ?_, Ka1.out.2.2.setCell (Nat.le_refl _) _⟩
    have h9 := heap_set_at _ p8 1 _ _ _ (.slice y.sA y.sn y.sc) Ka1.out.2.1
    simp only [List.setIfInBounds_toArray, List.set_cons_zero, List.set_cons_succ] at h9
    exact h9
  clear hY Ka1 g0 g1 g2 g3 g4 g5 g6 h0 h1 h2 h3 h4 h5 h6 f1
  obtain ⟨g0, g1, g2, g3, g4, g5, g6⟩ := cells_7 Ka2.out.1
  obtain ⟨h0, h1, h2, h3, h4, h5, h6⟩ := cells_7 Ka2.out.2.1
  have f2 := Lib.frozen_of_heap Ka2.out.2.1 2
  go_upto_region 8 with (fail)
  refine wp_nm fun Y2 hY => ?_
  have Ka3 : Hid (Y2.heap[p7]? = some (.cells #[.bool y.plus, .slice y.sA y.sn y.sc, .slice y.fA y.fn y.fc, .slice y.bA y.bn y.bc, .slice y.oA y.on y.oc, .slice y.hA y.hn y.hc, .slice y.gA y.gn y.gc] 42) ∧ Y2.heap[p8]? = some (.cells #[.bool y.plus, .slice y.sA y.sn y.sc, .slice y.fA y.fn y.fc, .slice z.bA z.bn z.bc, .slice z.oA z.on z.oc, .slice z.hA z.hn z.hc, .slice z.gA z.gn z.gc] 42) ∧ Below p8 Wa Y2) := by
    rw [← hY]
    refine Lib.hid ⟨has_set Ka2.out.1 (fun e => by have := HP78.out; omega), ?_, Ka2.out.2.2.setCell (Nat.le_refl _) _⟩
    have h9 := heap_set_at _ p8 2 _ _ _ (.slice y.fA y.fn y.fc) Ka2.out.2.1
    simp only [List.setIfInBounds_toArray, List.set_cons_zero, List.set_cons_succ] at h9
    exact h9
  clear hY Ka2 g0 g1 g2 g3 g4 g5 g6 h0 h1 h2 h3 h4 h5 h6 f2
  obtain ⟨g0, g1, g2, g3, g4, g5, g6⟩ := cells_7 Ka3.out.1
  obtain ⟨h0, h1, h2, h3, h4, h5, h6⟩ := cells_7 Ka3.out.2.1
  have f3 := Lib.frozen_of_heap Ka3.out.2.1 3
  go_upto_region 9 with (fail)
  refine wp_nm fun Y3 hY => ?_
  have Ka4 : Hid (Y3.heap[p7]? = some (.cells #[.bool y.plus, .slice y.sA y.sn y.sc, .slice y.fA y.fn y.fc, .slice y.bA y.bn y.bc, .slice y.oA y.on y.oc, .slice y.hA y.hn y.hc, .slice y.gA y.gn y.gc] 42) ∧ Y3.heap[p8]? = some (.cells #[.bool y.plus, .slice y.sA y.sn y.sc, .slice y.fA y.fn y.fc, .slice y.bA y.bn y.bc, .slice z.oA z.on z.oc, .slice z.hA z.hn z.hc, .slice z.gA z.gn z.gc] 42) ∧ Below p8 Wa Y3) := by
    rw [← hY]
    refine Lib.hid ⟨has_set Ka3.out.1 (fun e => by have := HP78.out; omega), ?_, Ka3.out.2.2.setCell (Nat.le_refl _) _⟩
    have h9 := heap_set_at _ p8 3 _ _ _ (.slice y.bA y.bn y.bc) Ka3.out.2.1
    simp only [List.setIfInBounds_toArray, List.set_cons_zero, List.set_cons_succ] at h9
    exact h9
  clear hY Ka3 g0 g1 g2 g3 g4 g5 g6 h0 h1 h2 h3 h4 h5 h6 f3
  obtain ⟨g0, g1, g2, g3, g4, g5, g6⟩ := cells_7 Ka4.out.1
  obtain ⟨h0, h1, h2, h3, h4, h5, h6⟩ := cells_7 Ka4.out.2.1
  have f4 := Lib.frozen_of_heap Ka4.out.2.1 4
  go_upto_region 10 with (fail)
  refine wp_nm fun Y4 hY => ?_
  have Ka5 : Hid (Y4.heap[p7]? = some (.cells #[.bool y.plus, .slice y.sA y.sn y.sc, .slice y.fA y.fn y.fc, .slice y.bA y.bn y.bc, .slice y.oA y.on y.oc, .slice y.hA y.hn y.hc, .slice y.gA y.gn y.gc] 42) ∧ Y4.heap[p8]? = some (.cells #[.bool y.plus, .slice y.sA y.sn y.sc, .slice y.fA y.fn y.fc, .slice y.bA y.bn y.bc, .slice y.oA y.on y.oc, .slice z.hA z.hn z.hc, .slice z.gA z.gn z.gc] 42) ∧ Below p8 Wa Y4) := by
    rw [← hY]
    refine Lib.hid ⟨has_set Ka4.out.1 (fun e => by have := HP78.out; omega), ?_, Ka4.out.2.2.setCell (Nat.le_refl _) _⟩
    have h9 := heap_set_at _ p8 4 _ _ _ (.slice y.oA y.on y.oc) Ka4.out.2.1
    simp only [List.setIfInBounds_toArray, List.set_cons_zero, List.set_cons_succ] at h9
    exact h9
  clear hY Ka4 g0 g1 g2 g3 g4 g5 g6 h0 h1 h2 h3 h4 h5 h6 f4
  obtain ⟨g0, g1, g2, g3, g4, g5, g6⟩ := cells_7 Ka5.out.1
  obtain ⟨h0, h1, h2, h3, h4, h5, h6⟩ := cells_7 Ka5.out.2.1
  have f5 := Lib.frozen_of_heap Ka5.out.2.1 5
  go_upto_region 11 with (fail)
  refine wp_nm fun Y5 hY => ?_
  have Ka6 : Hid (Y5.heap[p7]? = some (.cells #[.bool y.plus, .slice y.sA y.sn y.sc, .slice y.fA y.fn y.fc, .slice y.bA y.bn y.bc, .slice y.oA y.on y.oc, .slice y.hA y.hn y.hc, .slice y.gA y.gn y.gc] 42) ∧ Y5.heap[p8]? = some (.cells #[.bool y.plus, .slice y.sA y.sn y.sc, .slice y.fA y.fn y.fc, .slice y.bA y.bn y.bc, .slice y.oA y.on y.oc, .slice y.hA y.hn y.hc, .slice z.gA z.gn z.gc] 42) ∧ Below p8 Wa Y5) := by
    rw [← hY]
    refine Lib.hid ⟨has_set Ka5.out.1 (fun e => by have := HP78.out; omega), ?_, Ka5.out.2.2.setCell (Nat.le_refl _) _⟩
    have h9 := heap_set_at _ p8 5 _ _ _ (.slice y.hA y.hn y.hc) Ka5.out.2.1
    simp only [List.setIfInBounds_toArray, List.set_cons_zero, List.set_cons_succ] at h9
    exact h9
  clear hY Ka5 g0 g1 g2 g3 g4 g5 g6 h0 h1 h2 h3 h4 h5 h6 f5
  have hbz : Below W5.heap.size W5 Y5 := by
    have h9 := Ka6.out.2.2
    rw [← HP8.out] at h9
    exact HBA.out.trans h9
  obtain ⟨u, hu⟩ : ∃ u : Shp, (⟨y.plus, y.sA, y.sn, y.sc, y.stub, y.fA, y.fn, y.fc, y.fill, y.bA, y.bn, y.bc, y.bod, y.oA, y.on, y.oc, y.ord, y.hA, y.hn, y.hc, y.beh, z.gA, z.gn, z.gc, z.sig⟩ : Shp) = u := ⟨_, rfl⟩
  have hyR := K5.out.2.1.below hbz
  have hzR := K5.out.2.2.1.below hbz
  have huR : u.R Y5 := by
    rw [← hu]
    exact ⟨hyR.s, hyR.f, hyR.b, hyR.ol, hyR.o, hyR.h, hzR.g⟩
  have huB : Brd0 u := by rw [← hu]; exact HBY.out.toBrd0.mix HBZ.out.toBrd0
  have hu6 : u.sig.map (fun z => z.2.2.2) = z.sig.map (fun z => z.2.2.2) := by rw [← hu]
  have hue : u.plus = y.plus ∧ u.stub = y.stub ∧ u.fill = y.fill ∧ u.bod = y.bod ∧ u.ord = y.ord ∧ u.beh = y.beh := by rw [← hu]; exact ⟨rfl, rfl, rfl, rfl, rfl, rfl⟩
  have hun : u.gn = (z.sig.map (fun z => z.2.2.2)).length := by rw [← hu]; exact HBZ.out.ng
  have K6 : Hid (Y5.heap[p7]? = some (.cells #[.bool y.plus, .slice y.sA y.sn y.sc, .slice y.fA y.fn y.fc, .slice y.bA y.bn y.bc, .slice y.oA y.on y.oc, .slice y.hA y.hn y.hc, .slice y.gA y.gn y.gc] 42) ∧ Y5.heap[p8]? = some (.cells #[.bool u.plus, .slice u.sA u.sn u.sc, .slice u.fA u.fn u.fc, .slice u.bA u.bn u.bc, .slice u.oA u.on u.oc, .slice u.hA u.hn u.hc, .slice u.gA u.gn u.gc] 42) ∧ y.R Y5 ∧ u.R Y5 ∧ Below w.heap.size w Y5) := by
    rw [← hu]
    exact Lib.hid ⟨Ka6.out.1, Ka6.out.2.1, hyR, (by rw [hu]; exact huR), kp_call K5.out.2.2.2 hbz⟩
  have HUB := Lib.hid huB
  have HUE := Lib.hid (And.intro hu6 (And.intro hue hun))
  have hyn : y.sig.map (fun z => z.2.2.2) ≠ [] := by
    intro h
    apply hg0
    rw [HBY.out.ng, h]; rfl
  have hbd2 := huB.bd
  rw [hu6, hue.2.1, hue.2.2.1, hue.2.2.2.1, hue.2.2.2.2.2] at hbd2
  obtain ⟨im1, BD1, BD2, BD3, BD4, BD5⟩ := blind_dig y.plus y.stub y.fill (y.bod.map fun z => z.2.2.2) y.ord y.beh (y.sig.map fun z => z.2.2.2) (z.sig.map fun z => z.2.2.2) HBY.out.bd hbd2 hyn HZN.out (by have := HBY.out.g8; have := HBY.out.ng; omega) (by have := HBZ.out.g8; have := HBZ.out.ng; omega)
  have hw2 : writeL u.plus u.stub u.fill (u.bod.map fun z => z.2.2.2) u.ord u.beh (u.sig.map fun z => z.2.2.2) = writeL y.plus y.stub y.fill (y.bod.map fun z => z.2.2.2) y.ord y.beh (z.sig.map fun z => z.2.2.2) := by
    rw [hu6, hue.1, hue.2.1, hue.2.2.1, hue.2.2.2.1, hue.2.2.2.2.1, hue.2.2.2.2.2]
  rw [← hw2] at BD3 BD4 BD5
  rw [← hun] at BD5
  have HBD := Lib.hid (And.intro BD1 BD5)
  clear BD1 BD5 hw2 hbd2 hyn hun hue hu6 huB huR hzR hyR hbz Ka6 K5 HBZ HZN HBA HGR HXL hg0 hm0 hu
  have C := writeD_any y Y5 K6.out.2.2.1 HBY.out.s1 HBY.out.s2 HBY.out.s3 HBY.out.s4
  unfold Shp.cells at C
  obtain ⟨ba, hba⟩ : ∃ bs, writeL y.plus y.stub y.fill (y.bod.map fun z => z.2.2.2) y.ord y.beh (y.sig.map fun z => z.2.2.2) = bs := ⟨_, rfl⟩
  rw [hba] at C
  replace C := Lib.hid C
  have HBSba := Lib.hid hba
  clear hba
  go_upto_region 12 with (refine wpList_load_row rfl _ _ rfl p7 rfl _ _ _ _ K6.out.1 Tryd.underlying42 rfl (by kernel_rfl) ?_)
  (with_reducible refine C.out.mono ?_)
  rintro e W8 ⟨A1, na, ca, rfl, ho, hb⟩
  clear C
  have HOba := Lib.hid ho
  have HBba := Lib.hid hb
  clear ho hb
  have K8 : Hid (W8.heap[p8]? = _ ∧ u.R W8 ∧ Below w.heap.size w W8) := Lib.hid ⟨has_below K6.out.2.1 HBba.out, K6.out.2.2.2.1.below HBba.out, kp_call K6.out.2.2.2.2 HBba.out⟩
  clear K6
  have C := writeD_any u W8 K8.out.2.1 HUB.out.s1 HUB.out.s2 HUB.out.s3 HUB.out.s4
  unfold Shp.cells at C
  obtain ⟨bb, hbb⟩ : ∃ bs, writeL u.plus u.stub u.fill (u.bod.map fun z => z.2.2.2) u.ord u.beh (u.sig.map fun z => z.2.2.2) = bs := ⟨_, rfl⟩
  rw [hbb] at C
  replace C := Lib.hid C
  have HBSbb := Lib.hid hbb
  clear hbb
  go_upto_region 13 with (refine wpList_load_row rfl _ _ rfl p8 rfl _ _ _ _ K8.out.1 Tryd.underlying42 rfl (by kernel_rfl) ?_)
  (with_reducible refine C.out.mono ?_)
  rintro e W9 ⟨A2, nb, cb, rfl, ho, hb⟩
  clear C
  have HObb := Lib.hid ho
  have HBbb := Lib.hid hb
  clear ho hb
  rw [HBSbb.out] at BD3 BD4 HBD
  rw [HBSba.out] at HBD
  have hlb : bb.length = nb := HObb.out.len
  have hla : ba.length = na := HOba.out.len
  rw [hlb] at BD3 BD4
  have hcpa := HOba.out.row.cap
  have hcpb := HObb.out.row.cap
  have hca : na ≤ ca := hcpa.1
  have hcca : ca ≤ 9223372036854775807 := by have := hcpa.2; unfold maxLen at this; omega
  have hcb : nb ≤ cb := hcpb.1
  have hccb : cb ≤ 9223372036854775807 := by have := hcpb.2; unfold maxLen at this; omega
  obtain ⟨gb, hA2, hgb1, hgb2⟩ := HObb.out.shape (by omega)
  subst hA2
  have K9 : Hid (W9.heap[p8]? = _ ∧ OwnB W9 Y5.heap.size A1 na ca ba ∧ OwnB W9 W8.heap.size (some ⟨gb, 0, none⟩) nb cb bb ∧ Below w.heap.size w W9) := Lib.hid ⟨has_below K8.out.1 HBbb.out, HOba.out.below HBbb.out (Nat.le_refl _), HObb.out, kp_call K8.out.2.2 HBbb.out⟩
  have hp8b : p8 < W8.heap.size := block_lt K8.out.1
  have hgb8 : W8.heap.size ≤ gb := hgb1
  have hwb : w.heap.size ≤ W8.heap.size := K8.out.2.2.size
  have HLB := Lib.hid hlb
  have hp8g : p8 ≠ gb := by omega
  have hwg : w.heap.size ≤ gb := by omega
  have P := Lib.hid (digest_any A1 na ca ba W9 K9.out.2.1.rb (HS.out.below' K9.out.2.2.2) hca hcca)
  have HB8 := Lib.hid (And.intro hgb2 hgb8)
  clear hla hlb hcpa hcpb hgb1 hgb2 K8 HBbb HBba HOba HObb HBSba HBSbb hp8b hgb8 hwb
  go_wp2_with (fail)
  (with_reducible refine P.out.mono ?_)
  clear P
  rintro e W10 hp
  obtain ⟨ds0, iv0, er2, rfl, hda0⟩ := digest_abs hp
  have DA0 := Lib.hid hda0
  have DSZ0 := Lib.hid hda0.sz
  have DS10 := Lib.hid hda0.s1
  have DSO0 := Lib.hid hda0.so
  clear hp hda0
  go_upto_region 14 with (first
    | (refine wpList_store_row rfl _ _ _ rfl W10.heap.size ds0 rfl rfl _ _ (has_alloc (has_new W10 (.cells zD 28)) _) DSZ0.out DS10.out DSO0.out ?_)
    | (refine wpList_store_row rfl _ _ _ rfl (W10.heap.size + 1) iv0 rfl rfl _ _ ((setRow_other _ _ _ _ (by omega)).trans (has_new' (W10.alloc (.cells zD 28)) (.cells imZero 33) _ (by simp))) DA0.out.isz DA0.out.is1 DA0.out.iso ?_))
  refine wp_nm fun W11 hW11 => ?_
  obtain ⟨q0, hq0⟩ : ∃ q0, W10.heap.size = q0 := ⟨_, rfl⟩
  have K11 : Hid (W11.heap[q0]? = some (.cells ds0 28) ∧ W11.heap[q0 + 1]? = some (.cells iv0 33) ∧ Below W10.heap.size W10 W11) := by
    rw [← hW11, ← hq0]
    exact Lib.hid ⟨(setRow_other _ _ _ _ (by omega)).trans (setRow_heap _ _ _ _ _ _ (has_alloc (has_new W10 (.cells zD 28)) _)), setRow_heap _ _ _ _ _ _ ((setRow_other _ _ _ _ (by omega)).trans (has_new' (W10.alloc (.cells zD 28)) (.cells imZero 33) _ (by simp))), below_setRow (below_setRow (kp_alloc (kp_alloc (Below.refl _ _) _) _) (Nat.le_refl _) _) (by omega) _⟩
  have HZq0 := Lib.hid hq0
  rw [hq0]
  clear hW11 hq0
  have h6 : er2 = 0 := by
    by_cases h : er2 = 0
    · exact h
    · have := (DA0.out.no h).1; rw [HBD.out.1] at this; cases this
  obtain ⟨imy, V, m, cV, U, k, cU, xs1, h7, hd0, hiv, hio⟩ := DA0.out.ok h6
  obtain rfl : im1 = imy := by rw [HBD.out.1] at h7; injection h7
  subst h6
  have h911 : Below W9.heap.size W9 W11 := kp_call DA0.out.b K11.out.2.2
  have hq0 : W9.heap.size ≤ q0 := by rw [← HZq0.out]; exact DA0.out.b.size
  have hgq : gb < q0 := by
    have := HB8.out.1
    omega
  have k33 := K11.out.2.1
  rw [hiv] at k33
  have K12 : Hid (W11.heap[q0]? = some (.cells ds0 28) ∧ W11.heap[q0 + 1]? = some (.cells #[.bool im1.plus, .int .i64 (im1.check : Nat), .int .i64 (im1.dir : Nat), .int .u32 (im1.hdr : Nat), .slice V m cV, .int .u32 (im1.table : Nat), .int .u32 (im1.length : Nat), .slice U k cU] 33) ∧ W11.heap[p8]? = _ ∧ OwnB W11 W8.heap.size (some ⟨gb, 0, none⟩) nb cb bb ∧ Below w.heap.size w W11) := Lib.hid ⟨K11.out.1, k33, has_below K9.out.1 h911, K9.out.2.2.1.below h911 (Nat.le_refl _), kp_call K9.out.2.2.2 h911⟩
  have HD0 := Lib.hid hd0
  clear h7 hd0 hiv hio h911 k33 K11 K9 hq0
  obtain ⟨z0, z1, z2, z3, z4, z5, z6, z7⟩ := cells_8 K12.out.2.1
  clear z0 z2 z3 z4 z5 z6 z7
  rw [show ((0 : Nat) : Int) = 0 from rfl]
  obtain ⟨ck, hck⟩ : ∃ ck, im1.check = ck := ⟨_, rfl⟩
  have HCK := Lib.hid hck
  rw [hck] at z1 BD2 BD3
  obtain ⟨c4, hc4⟩ : ∃ c4, ck + 4 = c4 := ⟨_, rfl⟩
  have e4 : IntKind.i64.wrap ((ck : Int) + 4) = (c4 : Int) := by rw [IntWalk.i64_in _ (by omega)]; omega
  have u1 : decide ((ck : Int) < 64) = false := by simp; omega
  have u1n : decide (ck < 64) = false := by simp; omega
  have u2 : decide ((nb : Int) < (c4 : Int)) = false := by simp; omega
  have u2n : decide (nb < c4) = false := by simp; omega
  go_upto_region 15 with (fail)
  clear z1 e4 u1 u1n u2 u2n hc4
  go_wp2_with (fail)
  go_loopw [14] (fun vi wl => ∃ (i : Nat) (bs' : List UInt8), vi = .int .i64 (i : Int) ∧ i ≤ 4 ∧ Hid (∀ j, (j < ck ∨ ck + 4 ≤ j) → bs'[j]? = bb[j]?) ∧ Hid (wl.heap[q0]? = some (.cells ds0 28) ∧ wl.heap[q0 + 1]? = some (.cells #[.bool im1.plus, .int .i64 (im1.check : Nat), .int .i64 (im1.dir : Nat), .int .u32 (im1.hdr : Nat), .slice V m cV, .int .u32 (im1.table : Nat), .int .u32 (im1.length : Nat), .slice U k cU] 33) ∧ wl.heap[p8]? = some (.cells #[.bool u.plus, .slice u.sA u.sn u.sc, .slice u.fA u.fn u.fc, .slice u.bA u.bn u.bc, .slice u.oA u.on u.oc, .slice u.hA u.hn u.hc, .slice u.gA u.gn u.gc] 42) ∧ OwnB wl W8.heap.size (some ⟨gb, 0, none⟩) nb cb bs' ∧ Below w.heap.size w wl)) (fun vi _ => 4 - (intOf vi).toNat)
  case atStart => exact ⟨0, bb, rfl, Nat.zero_le _, Lib.hid (fun j _ => rfl), K12⟩
  case round =>
    obtain ⟨i, bs', rfl, hi, HAG, HK⟩ := hrel
    clear K12
    by_cases hlt : i < 4
    · have i1 : decide ((i : Int) < 4) = true := by simp; omega
      have i1n : decide (i < 4) = true := by simp; omega
      have e1 : IntKind.i64.wrap ((i : Int) + 1) = (i : Int) + 1 := IntWalk.i64_in _ (by omega)
      obtain ⟨z0, z1, z2, z3, z4, z5, z6, z7⟩ := cells_8 HK.out.2.1
      clear z0 z2 z3 z4 z5 z6 z7
      rw [HCK.out] at z1
      obtain ⟨ci, hci⟩ : ∃ ci, ck + i = ci := ⟨_, rfl⟩
      have e2 : IntKind.i64.wrap ((ck : Int) + (i : Int)) = (ci : Int) := by rw [IntWalk.i64_in _ (by omega)]; omega
      have o1 : (ci : Int) < (nb : Int) := by omega
      have o1n : ci < nb := by omega
      obtain ⟨q, hq⟩ : ∃ q, 8 * i = q := ⟨_, rfl⟩
      have HM32 : Hid (min q 32 = q) := Lib.hid (by omega)
      have e3 : IntKind.i64.wrap (8 * (i : Int)) = (q : Int) := by rw [IntWalk.i64_in _ (by omega)]; omega
      have e5 : IntKind.u64.wrap (q : Int) = (q : Int) := by rw [IntKind.wrap_u64]; omega
      have hsh : ∀ W, (Op.shift BinOp.shr IntKind.u32 (cn : Int) IntKind.u64 (q : Int)).run Tryd.prog W = .ok (.int .u32 ((cn : Int) / 2 ^ q)) W := fun W => run_shrD cn q (by omega) W
      obtain ⟨v, hv⟩ : ∃ v : UInt8, IntKind.u8.wrap ((cn : Int) / 2 ^ q) = (v.toNat : Int) := by
        refine ⟨UInt8.ofNat (cn / 2 ^ q), ?_⟩
        have h1 : ((cn : Int) / 2 ^ q) = ((cn / 2 ^ q : Nat) : Int) := by simp
        rw [h1, UInt8.toNat_ofNat', IntKind.wrap_u8]
        simp
      obtain ⟨p, hp⟩ : ∃ p, bs'[ci]? = some p := ⟨_, List.getElem?_eq_getElem (by have := HK.out.2.2.2.1.len; omega)⟩
      have d2 := HK.out.2.2.2.1.cellAt ci p hp
      have d3 := HK.out.2.2.2.1.free ci
      have HN : Hid ((wr.setCell ⟨gb, ci, none⟩ (.int .u8 (v.toNat : Int))).heap[q0]? = some (.cells ds0 28) ∧ (wr.setCell ⟨gb, ci, none⟩ (.int .u8 (v.toNat : Int))).heap[q0 + 1]? = some (.cells #[.bool im1.plus, .int .i64 (im1.check : Nat), .int .i64 (im1.dir : Nat), .int .u32 (im1.hdr : Nat), .slice V m cV, .int .u32 (im1.table : Nat), .int .u32 (im1.length : Nat), .slice U k cU] 33) ∧ (wr.setCell ⟨gb, ci, none⟩ (.int .u8 (v.toNat : Int))).heap[p8]? = some (.cells #[.bool u.plus, .slice u.sA u.sn u.sc, .slice u.fA u.fn u.fc, .slice u.bA u.bn u.bc, .slice u.oA u.on u.oc, .slice u.hA u.hn u.hc, .slice u.gA u.gn u.gc] 42) ∧ OwnB (wr.setCell ⟨gb, ci, none⟩ (.int .u8 (v.toNat : Int))) W8.heap.size (some ⟨gb, 0, none⟩) nb cb (bs'.set ci v) ∧ Below w.heap.size w (wr.setCell ⟨gb, ci, none⟩ (.int .u8 (v.toNat : Int)))) :=
        Lib.hid ⟨has_set HK.out.1 (by omega), has_set HK.out.2.1 (by omega), has_set HK.out.2.2.1 hp8g, HK.out.2.2.2.1.stored ci v, kp_set HK.out.2.2.2.2 hwg⟩
      have HAN : Hid (∀ j, (j < ck ∨ ck + 4 ≤ j) → (bs'.set ci v)[j]? = bb[j]?) := Lib.hid (fun j hj => by rw [List.getElem?_set_ne (by omega)]; exact HAG.out j hj)
      clear hp HK HAG hci hq
      go_wp2_with (fail)
      go_roundw
      case rel =>
        rw [HM32.out, ← IntKind.wrap_u8, hv]
        exact ⟨i + 1, bs'.set ci v, by go_num, by omega, HAN, HN⟩
      case measure => simp [intOf]; omega
    · have i1 : decide ((i : Int) < 4) = false := by simp; omega
      have i1n : decide (i < 4) = false := by simp; omega
      have hl9 : bs'.length = nb := HK.out.2.2.2.1.len
      obtain ⟨im2, hpq, hsg, hdg⟩ := HBD.out.2 bs' (by rw [hl9, HLB.out]) (by rw [HCK.out]; exact HAG.out)
      have HPQ := Lib.hid (And.intro hpq (And.intro hsg hdg))
      have P := Lib.hid (digest_any (some ⟨gb, 0, none⟩) nb cb bs' wr HK.out.2.2.2.1.rb (HS.out.below' HK.out.2.2.2.2) hcb hccb)
      clear hpq hsg hdg hl9
      go_wp2_with (fail)
      (with_reducible refine P.out.mono ?_)
      clear P
      rintro e W20 hp
      obtain ⟨ds1, iv1, er3, rfl, hda1⟩ := digest_abs hp
      have DA1 := Lib.hid hda1
      have DSZ1 := Lib.hid hda1.sz
      have DS11 := Lib.hid hda1.s1
      have DSO1 := Lib.hid hda1.so
      clear hp hda1
      go_upto_region 21 with (first
        | (refine wpList_store_row rfl _ _ _ rfl W20.heap.size ds1 rfl rfl _ _ (has_alloc (has_new W20 (.cells zD 28)) _) DSZ1.out DS11.out DSO1.out ?_)
        | (refine wpList_store_row rfl _ _ _ rfl (W20.heap.size + 1) iv1 rfl rfl _ _ ((setRow_other _ _ _ _ (by omega)).trans (has_new' (W20.alloc (.cells zD 28)) (.cells imZero 33) _ (by simp))) DA1.out.isz DA1.out.is1 DA1.out.iso ?_))
      refine wp_nm fun W21 hW21 => ?_
      obtain ⟨q1, hq1⟩ : ∃ q1, W20.heap.size = q1 := ⟨_, rfl⟩
      have K21 : Hid (W21.heap[q1]? = some (.cells ds1 28) ∧ W21.heap[q1 + 1]? = some (.cells iv1 33) ∧ Below W20.heap.size W20 W21) := by
        rw [← hW21, ← hq1]
        exact Lib.hid ⟨(setRow_other _ _ _ _ (by omega)).trans (setRow_heap _ _ _ _ _ _ (has_alloc (has_new W20 (.cells zD 28)) _)), setRow_heap _ _ _ _ _ _ ((setRow_other _ _ _ _ (by omega)).trans (has_new' (W20.alloc (.cells zD 28)) (.cells imZero 33) _ (by simp))), below_setRow (below_setRow (kp_alloc (kp_alloc (Below.refl _ _) _) _) (Nat.le_refl _) _) (by omega) _⟩
      have HZq1 := Lib.hid hq1
      rw [hq1]
      clear hW21 hq1
      have h6 : er3 = 0 := by
        by_cases h : er3 = 0
        · exact h
        · have := (DA1.out.no h).1; rw [HPQ.out.1] at this; cases this
      obtain ⟨imy, V2, m2, cV2, U2, k2, cU2, xs2, h7, hd1, hiv, hio⟩ := DA1.out.ok h6
      obtain rfl : im2 = imy := by rw [HPQ.out.1] at h7; injection h7
      subst h6
      have hk2 : k2 = u.gn := by
        rw [hio.kl, ← HPQ.out.2.1, ← hio.bytes, List.length_map]
      subst hk2
      have hb21 : Below wr.heap.size wr W21 := kp_call DA1.out.b K21.out.2.2
      have k33 := K21.out.2.1
      rw [hiv] at k33
      have hd01 : ds1 = ds0 := by rw [hd1, HD0.out, HPQ.out.2.2]
      have K22 : Hid (W21.heap[q0]? = some (.cells ds0 28) ∧ W21.heap[q1]? = some (.cells ds0 28) ∧ W21.heap[q1 + 1]? = _ ∧ W21.heap[p8]? = _ ∧ Below w.heap.size w W21) := Lib.hid ⟨has_below HK.out.1 hb21, (by rw [← hd01]; exact K21.out.1), k33, has_below HK.out.2.2.1 hb21, kp_call HK.out.2.2.2.2 hb21⟩
      have heq : ∀ W, (Op.equalIn 10000 28 (.agg ds0) (.agg ds0)).run Tryd.prog W = .ok true W := fun W => by rw [HD0.out]; exact dig_same _ (dig_ofv _ _) W
      clear h7 hd1 hiv hio hb21 k33 K21 HK HAG hd01
      obtain ⟨z0, z1, z2, z3, z4, z5, z6, z7⟩ := cells_8 K22.out.2.2.1
      obtain ⟨g0, g1, g2, g3, g4, g5, g6⟩ := cells_7 K22.out.2.2.2.1
      clear z0 z1 z2 z3 z4 z5 z6 g0 g1 g2 g3 g4 g5
      rw [show ((0 : Nat) : Int) = 0 from rfl]
      go_wp2_with (first
        | (refine wpList_load_rowH rfl _ _ rfl q0 rfl _ _ _ _ K22.out.1 Tryd.underlying28 rfl DSZ0.out ?_)
        | (refine wpList_load_rowH rfl _ _ rfl q1 rfl _ _ _ _ K22.out.2.1 Tryd.underlying28 rfl DSZ0.out ?_)
        | (go_at_call 8; (with_reducible refine (works17_any _ (HS.out.below' K22.out.2.2.2.2)).mono ?_); rintro e w9 ⟨rfl, hb9⟩; have HB9 := Lib.hid (kp_call K22.out.2.2.2.2 hb9); clear hb9))
      go_ret
      exact ⟨rfl, HB9.out⟩
end Go.Proofs.YtcedojmhgmgcgaaDoor
