/-
  option: the statements' own copy of an option.
-/
import Derived.Test.YtokklcfdfjgbjaaDoorOpH
import Derived.Deep.RegionHeld3
import Derived.Deep.DrawnRows
namespace Go.Proofs.YtokklcfdfjgbjaaDoor
open Go.RowKit Go
set_option linter.unusedVariables false
set_option maxRecDepth 100000
attribute [local go_sem ↓] Go.wp_at_zero Go.wp_at_succ
/-- The world has grown since w, and block g is as it was. -/
structure KB (w : World) (g : Nat) (o : Obj) (W : World) : Prop where
  b : Below w.heap.size w W
  h : W.heap[g]? = some o
theorem KB.drew {w : World} {g : Nat} {o : Obj} {W : World} (h : KB w g o W) : KB w g o W.drew := ⟨h.b.drew, h.h⟩
theorem KB.call {w : World} {g : Nat} {o : Obj} {W W' : World} (h : KB w g o W) (hb : Below W.heap.size W W') : KB w g o W' := ⟨h.b.trans (hb.mono h.b.size), (hb.block _ (heap_lt h.h)).trans h.h⟩
theorem KB.set {w : World} {g : Nat} {o : Obj} {W : World} (h : KB w g o W) {b i : Nat} (hw : w.heap.size ≤ b) (hg : g ≠ b) (u : Value) : KB w g o (W.setCell ⟨b, i, none⟩ u) :=
  ⟨h.b.setCell hw u, (Below.heap_setCell W ⟨b, i, none⟩ u g hg).trans h.h⟩
def CopiedPost (w : World) (a : Nat) (l : ByteArray) (pn : Nat) (pb : List UInt8) (dn : Nat) (db : List UInt8) (e : Ending) (w' : World) : Prop :=
  ∃ P pc D dc, e = .returned (.agg #[.int .u32 (a : Int), .string l, .slice P pn pc, .slice D dn dc]) ∧ OwnB w' w.heap.size P pn pc pb ∧ OwnB w' w.heap.size D dn dc db ∧ (blk P = none ∨ blk P ≠ blk D) ∧ Below w.heap.size w w'
set_option maxHeartbeats 1600000 in
theorem copied_any (a : Nat) (l : ByteArray) (P : Option Addr) (pn pc : Nat) (pb : List UInt8) (D : Option Addr) (dn dc : Nat) (db : List UInt8) (w : World) (hP : RB w P pn pb) (hD : RB w D dn db) (hpn : pn ≤ 1000000) (hdn : dn ≤ 1000000) :
    Calls Tryd.prog 11 #[.agg #[.int .u32 (a : Int), .string l, .slice P pn pc, .slice D dn dc]] w (CopiedPost w a l pn pb dn db) := by
  have C1 := Lib.hid (fun W (h : Below w.heap.size w W) => copy_any P pn pc pb W (hP.below h) (by omega))
  have C2 := Lib.hid (fun W (h : Below w.heap.size w W) => copy_any D dn dc db W (hD.below h) (by omega))
  have HPL := Lib.hid hP.1
  have HDL := Lib.hid hD.1
  have hB : Below w.heap.size w ((w.alloc (.cells #[.int .u32 (a : Int), .string l, .slice P pn pc, .slice D dn dc] 25)).alloc (.cells #[.int .u32 0, .string ByteArray.empty, .slice none 0 0, .slice none 0 0] 25)) := ((Below.refl _ _).alloc (Nat.le_refl _) _).alloc (by simp) _
  have HB := Lib.hid hB
  clear hB hP hD
  go_enter Tryd.func11, Tryd.ntmps11
  go_wp2
  refine wp_named fun W1 hW1 => ?_
  have hbw : Below w.heap.size w W1 := below_named hW1 HB.out
  have k0 := heap_named hW1 (heap_alloc2_old w _ _)
  have z0 := heap_named hW1 (heap_alloc2_new w _ _)
  clear hW1 HB
  have K0 : KB w w.heap.size (.cells #[.int .u32 (a : Int), .string l, .slice P pn pc, .slice D dn dc] 25) W1 := ⟨hbw, k0⟩
  have KEEP : Hid (∀ W, KB w w.heap.size (.cells #[.int .u32 (a : Int), .string l, .slice P pn pc, .slice D dn dc] 25) W → (W.cell? ⟨w.heap.size, 0, none⟩ = some (.int .u32 (a : Int)) ∧ W.cell? ⟨w.heap.size, 1, none⟩ = some (.string l) ∧ W.cell? ⟨w.heap.size, 2, none⟩ = some (.slice P pn pc) ∧ W.cell? ⟨w.heap.size, 3, none⟩ = some (.slice D dn dc)) ∧ KB w w.heap.size (.cells #[.int .u32 (a : Int), .string l, .slice P pn pc, .slice D dn dc] 25) W) := fun W h => ⟨cells4 h.h, h⟩
  have hz1 : w.heap.size + 1 < W1.heap.size := heap_lt z0
  have Z0 := Lib.hid z0
  clear k0 hbw z0
  go_region_held3 (fun W => (W.cell? ⟨w.heap.size, 0, none⟩ = some (.int .u32 (a : Int)) ∧ W.cell? ⟨w.heap.size, 1, none⟩ = some (.string l) ∧ W.cell? ⟨w.heap.size, 2, none⟩ = some (.slice P pn pc) ∧ W.cell? ⟨w.heap.size, 3, none⟩ = some (.slice D dn dc)) ∧ KB w w.heap.size (.cells #[.int .u32 (a : Int), .string l, .slice P pn pc, .slice D dn dc] 25) W)
    ((apply KEEP.out; repeat (with_reducible (first | assumption | refine KB.drew ?_ | refine KB.set ?_ (by omega) (by omega) _))))
    (first
      | (go_at_call 21; (with_reducible refine (C1.out _ (by (go_split_ands; exact KB.b (by assumption)))).mono ?_); (rintro e W3 ⟨A3, n3, c3, rfl, hown3, hb3⟩; obtain rfl : pn = n3 := HPL.out.symm.trans hown3.len; have K3 := KB.call (w := w) (g := w.heap.size) (o := .cells #[.int .u32 (a : Int), .string l, .slice P pn pc, .slice D dn dc] 25) (by (go_split_ands; assumption)) hb3; have Z3 := Lib.hid ((hb3.block _ (heap_lt Z0.out)).trans Z0.out); have O3 := Lib.hid hown3; have hz3 : W1.heap.size ≤ W3.heap.size := hb3.size; clear hown3 hb3))
      | (go_at_call 21; (with_reducible refine (C2.out _ (by (go_split_ands; exact KB.b (by assumption)))).mono ?_); (rintro e W4 ⟨A4, n4, c4, rfl, hown4, hb4⟩; obtain rfl : dn = n4 := HDL.out.symm.trans hown4.len; have K4 := KB.call (w := w) (g := w.heap.size) (o := .cells #[.int .u32 (a : Int), .string l, .slice P pn pc, .slice D dn dc] 25) (by (go_split_ands; assumption)) hb4; have z4 := (hb4.block _ (heap_lt Z3.out)).trans Z3.out; have O4 := Lib.hid hown4; have O34 := Lib.hid (O3.out.below hb4 (Nat.le_refl _)); obtain ⟨x0, x1, x2, x3⟩ := cells4 z4; obtain ⟨f0, f1, f2, f3⟩ := free4 z4; have Z4 := Lib.hid z4; have B4 := Lib.hid K4.b; have hz4 : W3.heap.size ≤ W4.heap.size := hb4.size; clear hown4 hb4 z4)))
  have hG := grown4 W4 (w.heap.size + 1) (.int .u32 (a : Int)) (.string l) (.slice A3 pn c3) (.slice A4 dn c4)
  have e1 : W1.drew.heap.size = W1.heap.size := rfl
  have own3 := (O34.out.kept hG (by
    rcases hA : blk A3 with _ | q
    · exact .inl rfl
    · exact .inr (fun e => by have := (O34.out.blk_lt hA).1; injection e with e; omega))).lower (base' := w.heap.size) (by omega)
  have own4 := (O4.out.kept hG (by
    rcases hA : blk A4 with _ | q
    · exact .inl rfl
    · exact .inr (fun e => by have := (O4.out.blk_lt hA).1; injection e with e; omega))).lower (base' := w.heap.size) (by omega)
  have hfar : blk A3 = none ∨ blk A3 ≠ blk A4 := by
    rcases hA : blk A3 with _ | q
    · exact .inl rfl
    · exact .inr (fun e => by have h7 := (O3.out.blk_lt hA).2; have h8 := (O4.out.blk_lt e.symm).1; omega)
  have HF := Lib.hid (show CopiedPost w a l pn pb dn db (.returned (.agg #[.int .u32 (a : Int), .string l, .slice A3 pn c3, .slice A4 dn c4])) _ from ⟨A3, c3, A4, c4, rfl, own3, own4, hfar, below4 B4.out (by omega)⟩)
  clear hG own3 own4 hfar e1
  go_wp2
  refine bodyPost_ret (results_cell_row rfl _ _ (w.heap.size + 1) 25 _ _ _ rfl (set4 Z4.out) Tryd.underlying25 rfl (by kernel_rfl)) rfl ?_
  exact HF.out
end Go.Proofs.YtokklcfdfjgbjaaDoor
