/-
  pe: the anchor.
-/
import Derived.Test.YtcedojmhgmgcgaaGreatDoorPeN
import Derived.Test.YtcedojmhgmgcgaaGreatDoorMp6
import Derived.Test.YtcedojmhgmgcgaaGreatDoorMp6
namespace Go.Proofs.YtcedojmhgmgcgaaGreatDoor
open Go.RowKit Go
set_option linter.unusedVariables false
set_option maxRecDepth 100000
/-- The anchor's shape in memory. -/
def shpW (p0 p1 p2 p3 p4 p5 : Nat) : Shp :=
  ⟨false, none, 0, 0, [], none, 0, 0, [], some ⟨p2, 0, none⟩, 2, 2, [(some ⟨p0, 0, none⟩, 2, 2, [1, 2]), (some ⟨p1, 0, none⟩, 1, 1, [3])], some ⟨p3, 0, none⟩, 1, 1, [1], none, 0, 0, [], some ⟨p5, 0, none⟩, 1, 1, [(some ⟨p4, 0, none⟩, 1, 1, [7])]⟩
theorem rb_cells {W : World} {p : Nat} {bs : List UInt8} {cs : Array Value} (k : W.heap[p]? = some (.cells cs 5)) (h : cs.toList = bs.map bv) : RB W (some ⟨p, 0, none⟩) bs.length bs := by
  refine ⟨rfl, fun _ => ⟨p, 0, rfl, block_lt k, fun j hj => ?_⟩⟩
  rw [show W.cell? ⟨p, 0 + j, none⟩ = _ from Lib.cell_of_heap k (0 + j)]
  rw [Nat.zero_add, ← Array.getElem?_toList, h, List.getElem?_map, List.getElem?_eq_getElem hj]
  rfl
theorem readR_cells {W : World} {p t : Nat} {vs : List Value} (k : W.heap[p]? = some (.cells vs.toArray t)) : ReadR W (some ⟨p, 0, none⟩) vs := by
  refine fun _ => ⟨p, 0, rfl, block_lt k, fun j u hu => ?_⟩
  rw [show W.cell? ⟨p, 0 + j, none⟩ = _ from Lib.cell_of_heap k (0 + j)]
  rw [Nat.zero_add]
  simpa using hu
theorem shp_R {W : World} {p0 p1 p2 p3 p4 p5 : Nat} (k0 : W.heap[p0]? = some (.cells #[.int .u8 1, .int .u8 2] 5)) (k1 : W.heap[p1]? = some (.cells #[.int .u8 3] 5)) (k2 : W.heap[p2]? = some (.cells #[.slice (some ⟨p0, 0, none⟩) 2 2, .slice (some ⟨p1, 0, none⟩) 1 1] 22))
    (k3 : W.heap[p3]? = some (.cells #[.int .i64 1] 3)) (k4 : W.heap[p4]? = some (.cells #[.int .u8 7] 5)) (k5 : W.heap[p5]? = some (.cells #[.slice (some ⟨p4, 0, none⟩) 1 1] 22)) : (shpW p0 p1 p2 p3 p4 p5).R W := by
  refine ⟨RB.nil _ _, RB.nil _ _, ⟨rfl, readR_cells k2, ?_⟩, rfl, readR_cells k3, RB.nil _ _, ⟨rfl, readR_cells k5, ?_⟩⟩
  · intro x hx
    rcases List.mem_cons.1 hx with rfl | hx
    · exact rb_cells (bs := [1, 2]) k0 rfl
    · simp only [List.mem_singleton] at hx; subst hx
      exact rb_cells (bs := [3]) k1 rfl
  · intro x hx
    simp only [shpW, List.mem_singleton] at hx; subst hx
    exact rb_cells (bs := [7]) k4 rfl
end Go.Proofs.YtcedojmhgmgcgaaGreatDoor
namespace Go.Proofs.YtcedojmhgmgcgaaGreatDoor
open Go.RowKit Go
set_option linter.unusedVariables false
set_option maxRecDepth 100000
set_option maxHeartbeats 4000000 in
theorem same_zero (w : World) : Calls Tryz.prog 10 #[.agg imZero, .agg imZero] w fun e w' => e = .returned (.bool true) ∧ Below w.heap.size w w' := by
  unfold imZero
  go_enter Tryz.func10, Tryz.ntmps10
  go_upto_region 1 with (fail)
  refine wp_nm fun W0 hW0 => ?_
  have k0 : W0.heap[w.heap.size]? = some (.cells #[.bool false, .int .i64 0, .int .i64 0, .int .u32 0, .slice none 0 0, .int .u32 0, .int .u32 0, .slice none 0 0] 30) := by rw [← hW0]; exact has_alloc (has_new w _) _
  have k1 : W0.heap[w.heap.size + 1]? = some (.cells #[.bool false, .int .i64 0, .int .i64 0, .int .u32 0, .slice none 0 0, .int .u32 0, .int .u32 0, .slice none 0 0] 30) := by rw [← hW0]; exact has_new' _ _ _ (by simp)
  have hb0 : Below w.heap.size w W0 := by rw [← hW0]; exact kp_alloc (kp_alloc (Below.refl _ _) _) _
  have HB := Lib.hid hb0
  clear hW0 hb0
  obtain ⟨x0, x1, x2, x3, x4, x5, x6, x7⟩ := cells_8 k0
  obtain ⟨y0, y1, y2, y3, y4, y5, y6, y7⟩ := cells_8 k1
  have K := Lib.hid (And.intro k0 (And.intro k1 HB.out))
  clear k0 k1 HB
  go_wp2_with (fail)
  go_loopw [5] (fun vi wl => vi = .int .i64 0 ∧ Hid (wl.heap[w.heap.size]? = some (.cells #[.bool false, .int .i64 0, .int .i64 0, .int .u32 0, .slice none 0 0, .int .u32 0, .int .u32 0, .slice none 0 0] 30) ∧ wl.heap[w.heap.size + 1]? = some (.cells #[.bool false, .int .i64 0, .int .i64 0, .int .u32 0, .slice none 0 0, .int .u32 0, .int .u32 0, .slice none 0 0] 30) ∧ Below w.heap.size w wl)) (fun _ _ => 0)
  case atStart => exact ⟨rfl, K⟩
  case round =>
    obtain ⟨rfl, HK⟩ := hrel
    clear K x0 x1 x2 x3 x4 x5 x6 x7 y0 y1 y2 y3 y4 y5 y6 y7
    obtain ⟨x0, x1, x2, x3, x4, x5, x6, x7⟩ := cells_8 HK.out.1
    go_wp2_with (fail)
    go_loopw [6] (fun vi wl => vi = .int .i64 0 ∧ Hid (wl.heap[w.heap.size]? = some (.cells #[.bool false, .int .i64 0, .int .i64 0, .int .u32 0, .slice none 0 0, .int .u32 0, .int .u32 0, .slice none 0 0] 30) ∧ wl.heap[w.heap.size + 1]? = some (.cells #[.bool false, .int .i64 0, .int .i64 0, .int .u32 0, .slice none 0 0, .int .u32 0, .int .u32 0, .slice none 0 0] 30) ∧ Below w.heap.size w wl)) (fun _ _ => 0)
    case atStart => exact ⟨rfl, HK⟩
    case round =>
      obtain ⟨rfl, HK2⟩ := hrel
      clear HK x0 x1 x2 x3 x4 x5 x6 x7
      obtain ⟨x0, x1, x2, x3, x4, x5, x6, x7⟩ := cells_8 HK2.out.1
      go_wp2_with (fail)
      go_ret
      exact ⟨rfl, HK2.out.2.2⟩
end Go.Proofs.YtcedojmhgmgcgaaGreatDoor
namespace Go.Proofs.YtcedojmhgmgcgaaGreatDoor
open Go.RowKit Go
set_option linter.unusedVariables false
set_option maxRecDepth 100000
theorem parse_err {bs : List UInt8} {er : Nat} (h : parseQ bs = .inl er) : er = 9 ∨ er = 10 := by
  unfold parseQ at h
  split at h
  · injection h with h; exact .inr h.symm
  · split at h
    · injection h with h; exact .inl h.symm
    · split at h
      · cases h
      · split at h
        · injection h with h; exact .inl h.symm
        · split at h
          · injection h with h; exact .inl h.symm
          · split at h
            · injection h with h; exact .inr h.symm
            · cases h
end Go.Proofs.YtcedojmhgmgcgaaGreatDoor
