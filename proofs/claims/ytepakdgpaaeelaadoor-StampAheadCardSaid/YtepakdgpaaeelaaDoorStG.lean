/-
  stamp: a moment's parts.
-/
import Derived.Test.YtepakdgpaaeelaaDoorStF
namespace Go.Proofs.YtepakdgpaaeelaaDoor
open Go.RowKit Go
set_option linter.unusedVariables false
set_option maxRecDepth 100000
def Tm.row (t : Tm) : Array Value := #[.int .i64 (t.y : Int), .int .i64 (t.mo.toNat : Int), .int .i64 (t.d.toNat : Int), .int .i64 (t.h.toNat : Int), .int .i64 (t.mi.toNat : Int), .int .i64 (t.s.toNat : Int)]
theorem partsOf_any (t : Tm) (w : World) (hy : t.y < 65536) : Calls Tryd.prog 39 #[tmV t] w fun e w' => e = .returned (partsV t) ∧ Below w.heap.size w w' := by
  have h1 := t.mo.toNat_lt
  have h2 := t.d.toNat_lt
  have h3 := t.h.toNat_lt
  have h4 := t.mi.toNat_lt
  have h5 := t.s.toNat_lt
  have hb : ∀ c1 c2, Below w.heap.size w ((w.alloc (.cells c1 25)).alloc (.cells c2 53)) := fun c1 c2 => ((Below.refl _ _).alloc (Nat.le_refl _) _).alloc (by simp) _
  have hh : ∀ c1 : Array Value, ((w.alloc (.cells c1 25)).alloc (.cells t.row 53)).heap[w.heap.size + 1]? = some (.cells t.row 53) := fun c1 => by
    have := heap_alloc_new (w.alloc (.cells c1 25)) (.cells t.row 53)
    simpa using this
  have HB := Lib.hid hb
  have HH := Lib.hid hh
  clear hb hh
  have e : partsV t = .agg t.row := rfl
  rw [e]
  unfold tmV Tm.cells
  unfold Tm.row at HH ⊢
  obtain ⟨y, mo, d, h', mi, s'⟩ := t
  simp only at hy h1 h2 h3 h4 h5 HH ⊢
  go_enter Tryd.func39, Tryd.ntmps39
  go_wp2
  refine bodyPost_ret (results_cell_row rfl _ _ (w.heap.size + 1) 53 _ _ _ rfl (HH.out _) Tryd.underlying53 rfl (by kernel_rfl)) rfl ?_
  exact ⟨rfl, HB.out _ _⟩
end Go.Proofs.YtepakdgpaaeelaaDoor
