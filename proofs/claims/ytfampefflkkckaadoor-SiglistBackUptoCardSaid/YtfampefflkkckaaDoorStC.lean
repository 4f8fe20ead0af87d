/-
  stamp: the moment of parts; the years of two digits and of four.
-/
import Derived.Test.YtfampefflkkckaaDoorStB
import Derived.Lib.Builder
import Derived.Laws.ResultCell
import Derived.Laws.Rows
namespace Go.Proofs.YtfampefflkkckaaDoor
open Go.RowKit Go
set_option linter.unusedVariables false
set_option maxRecDepth 100000
def partsV (t : Tm) : Value := .agg #[.int .i64 (t.y : Int), .int .i64 (t.mo.toNat : Int), .int .i64 (t.d.toNat : Int), .int .i64 (t.h.toNat : Int), .int .i64 (t.mi.toNat : Int), .int .i64 (t.s.toNat : Int)]
def optV (r : Option Tm) : Value := .tuple #[tmV (r.getD Tm.zero), .bool r.isSome]
def rightO (t : Tm) : Option Tm := if rightB t then some t else none
theorem alloc3_2 (w : World) (a b c : Obj) : (((w.alloc a).alloc b).alloc c).heap[w.heap.size + 1 + 1]? = some c := by
  have := heap_alloc_new ((w.alloc a).alloc b) c
  simpa using this
theorem alloc3_1 (w : World) (a b c : Obj) : (((w.alloc a).alloc b).alloc c).heap[w.heap.size + 1]? = some b := by
  rw [heap_alloc_old _ _ (by simp)]
  have := heap_alloc_new (w.alloc a) b
  simpa using this
theorem heap_set_here (w : World) (g j : Nat) (cs : Array Value) (t : TypeId) (fr : Nat × Nat) (u : Value) (hg : w.heap[g]? = some (.cells cs t fr)) : (w.setCell ⟨g, j, none⟩ u).heap[g]? = some (.cells (cs.setIfInBounds j u) t fr) := by
  have hlt := (Array.getElem?_eq_some_iff.1 hg).1
  simp [World.setCell, Array.getElem?_modify, hg]
/-- A moment that is stored whole. -/
theorem heap_set_tm (w : World) (g : Nat) (t t0 : Tm) (hg : w.heap[g]? = some (.cells t0.cells 71)) :
    ((((((w.setCell ⟨g, 0, none⟩ (.int .u16 (t.y : Int))).setCell ⟨g, 1, none⟩ (.int .u8 (t.mo.toNat : Int))).setCell ⟨g, 2, none⟩ (.int .u8 (t.d.toNat : Int))).setCell ⟨g, 3, none⟩ (.int .u8 (t.h.toNat : Int))).setCell ⟨g, 4, none⟩ (.int .u8 (t.mi.toNat : Int))).setCell ⟨g, 5, none⟩ (.int .u8 (t.s.toNat : Int))).heap[g]? = some (.cells t.cells 71) :=
  heap_set_here _ _ _ _ _ _ _ (heap_set_here _ _ _ _ _ _ _ (heap_set_here _ _ _ _ _ _ _ (heap_set_here _ _ _ _ _ _ _ (heap_set_here _ _ _ _ _ _ _ (heap_set_here _ _ _ _ _ _ _ hg)))))
theorem results_tm {fn : Func} {p u : Tmp} (h : fn.results = #[.cell p 71, .tmp u]) (tmps : Array Value) (w : World) (g : Nat) (t : Tm) (hp : tmps.getD p undef = .pointer (some ⟨g, 0, none⟩)) (hg : w.heap[g]? = some (.cells t.cells 71)) :
    (results fn tmps).run Tryd.prog w = .ok (.tuple #[tmV t, tmps.getD u undef]) w := by
  rw [results_cell_tmp h, hp]
  simp [asAddr, run_loadVar_row w g _ 71 t.cells _ _ hg Tryd.underlying71 rfl (by kernel_rfl), Result.andThen, tmV]
def yearU (v : Int) : Int := if v < 0 then v else if v < 50 then v + 2000 else v + 1900
def yearG (u v : Int) : Int := if u < 0 ∨ v < 0 then -1 else 100 * u + v
end Go.Proofs.YtfampefflkkckaaDoor
