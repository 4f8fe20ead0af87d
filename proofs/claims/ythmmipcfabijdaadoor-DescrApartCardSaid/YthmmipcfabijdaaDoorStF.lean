/-
  stamp: a moment's bytes.
-/
import Derived.Test.YthmmipcfabijdaaDoorStE
import Derived.Test.YthmmipcfabijdaaDoorAppZ
import Derived.Test.YthmmipcfabijdaaDoorOctC1
namespace Go.Proofs.YthmmipcfabijdaaDoor
open Go.RowKit Go
set_option linter.unusedVariables false
set_option maxRecDepth 100000
/-- A moment's sixteen bytes. -/
def tmB (t : Tm) : List UInt8 := leB t.y 2 ++ [t.mo, t.d, t.h, t.mi, t.s] ++ List.replicate 9 0
theorem write_any (t : Tm) (w : World) (hT : Sizes w) (hy : t.y < 65536) : Calls Tryd.prog 25 #[tmV t] w (Fresh w (tmB t)) := by
  have P := Lib.hid (put_ok none 0 0 [] t.y 2 (w.alloc (.cells t.cells 25)) (RB.nil _ _) (hT.alloc _) (by omega) rfl (by omega))
  have hb0 : Below w.heap.size w (w.alloc (.cells t.cells 25)) := (Below.refl _ _).alloc (Nat.le_refl _) _
  have hh0 : (w.alloc (.cells t.cells 25)).heap[w.heap.size]? = some (.cells t.cells 25) := heap_alloc_new w _
  have hl2 := leB_len t.y 2
  unfold tmB tmV
  unfold Tm.cells at *
  obtain ⟨y, mo, d, h', mi, s'⟩ := t
  simp only at hy P hb0 hh0 hl2 ⊢
  rw [List.nil_append] at P
  generalize leB y 2 = l at P hl2
  have HL := Lib.hid hl2
  have HH := Lib.hid hh0
  clear hl2 hh0
  go_enter Tryd.func25, Tryd.ntmps25
  go_wp2_with fail
  refine P.out.mono ?_
  rintro e w1 ⟨A1, n1, c1, rfl, hown1, hb1⟩
  obtain rfl : 2 = n1 := HL.out.symm.trans hown1.len
  have hk1 := (hb1.block w.heap.size (by simp)).trans HH.out
  have hbw1 := hb0.trans (hb1.mono (by simp))
  have hsz1 : w.heap.size + 1 ≤ w1.heap.size := by have := hb1.size; simpa using this
  have p1 : w1.cell? ⟨w.heap.size, 1, none⟩ = some (.int .u8 (mo.toNat : Int)) := Lib.cell_of_heap hk1 1
  have p2 : w1.cell? ⟨w.heap.size, 2, none⟩ = some (.int .u8 (d.toNat : Int)) := Lib.cell_of_heap hk1 2
  have p3 : w1.cell? ⟨w.heap.size, 3, none⟩ = some (.int .u8 (h'.toNat : Int)) := Lib.cell_of_heap hk1 3
  have p4 : w1.cell? ⟨w.heap.size, 4, none⟩ = some (.int .u8 (mi.toNat : Int)) := Lib.cell_of_heap hk1 4
  have p5 : w1.cell? ⟨w.heap.size, 5, none⟩ = some (.int .u8 (s'.toNat : Int)) := Lib.cell_of_heap hk1 5
  have hown1' := hown1.lower (base' := w.heap.size) (by simp)
  clear hk1 hown1 hb0
  go_wp2_with (at_builtin; refine wpList_app _ _ rfl rfl rfl w.heap.size A1 2 c1 l rfl (hown1'.alloc _) (w1.heap.size + 1) (some ⟨w1.heap.size, 0, none⟩) 5 [mo, d, h', mi, s'] rfl (bs_new _ _ _ _ _ rfl) (by rw [HL.out]; simp) (by simp; omega) ?_)
  intro A2 c2 w2 hown2 hg2
  have hsz2 := hg2.size
  have hb2 : Below w.heap.size w w2 := (hbw1.alloc (by omega) _).grown hg2 (by simp; omega) (fun k hk => (hown1'.blk_lt hk).1)
  clear hg2 p1 p2 p3 p4 p5
  go_wp2_with (refine wpList_appz (.tmp 21) (.const (.int .i64 9)) rfl rfl rfl w.heap.size A2 7 c2 _ rfl hown2 9 rfl (by omega) (by omega) hb2.size ?_)
  intro A3 c3 w3 hown3 hg3
  go_wp2
  go_ret
  exact ⟨_, _, _, rfl, by simpa [List.replicate] using hown3, hb2.grown hg3 hb2.size (fun k hk => (hown2.blk_lt hk).1)⟩
end Go.Proofs.YthmmipcfabijdaaDoor
