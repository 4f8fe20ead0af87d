/-
  Regions that draw their order, whose operations only read and whose callees may make memory: one walk of the text's order serves them all, in the class of the worlds that agree with the region's first one below its size.
-/
import Derived.Test.YtcedojmhgmgcgaaGreatDoorOwn
import Derived.RegionTactic
import Derived.BigRegion
import Derived.ChangeAlike
import Derived.Deep.QuietTactic
import Derived.BigQuiet
namespace Go.Proofs.YtcedojmhgmgcgaaGreatDoor
open Go.RowKit Go
set_option linter.unusedVariables false
/-- A world that agrees with W in all that W has. -/
structure Up (W : World) where
  w : World
  b : Below W.heap.size W w
instance Up.has (W : World) : Nonempty (Up W) := ⟨⟨W, Below.refl _ _⟩⟩
theorem Up.cell {W : World} {g j : Nat} {v : Value} (h : W.cell? ⟨g, j, none⟩ = some v) (x : Up W) : x.w.cell? ⟨g, j, none⟩ = some v := by
  have hlt := World.block_lt_of_cell? W _ h
  rw [x.b.cell (p := ⟨g, j, none⟩) hlt]
  exact h
theorem Up.free {W : World} {g j : Nat} {b : Bool} (h : W.frozen? ⟨g, j, none⟩ = b) (hg : g < W.heap.size) (x : Up W) : x.w.frozen? ⟨g, j, none⟩ = b := by
  rw [x.b.frozen (p := ⟨g, j, none⟩) hg]
  exact h
theorem Up.heap {W : World} {g : Nat} {o : Obj} (h : W.heap[g]? = some o) (x : Up W) : x.w.heap[g]? = some o := by
  rw [x.b.block g (Array.getElem?_eq_some_iff.1 h).1]
  exact h
theorem Up.calls {P : Program} {f : FuncId} {args : Array Value} {W : World} {x : Up W} {v : Value} (h : Calls P f args x.w fun e w' => e = .returned v ∧ Below x.w.heap.size x.w w') :
    Calls P f args x.w fun e w'' => e = .returned v ∧ ∃ y : Up W, w'' = y.w :=
  h.mono fun _ w' ⟨he, hb⟩ => ⟨he, ⟨w', x.b.trans (hb.mono x.b.size)⟩, rfl⟩
theorem Up.same {P : Program} {f : FuncId} {args : Array Value} {W : World} {x : Up W} {v : Value} (h : Calls P f args x.w fun e w' => e = .returned v ∧ x.w = w') :
    Calls P f args x.w fun e w'' => e = .returned v ∧ ∃ y : Up W, w'' = y.w :=
  h.mono fun _ w' ⟨he, hw⟩ => ⟨he, x, hw.symm⟩
theorem wp_region_up {P : Program} {id : Nat} {Q : Exit → Act → World → Prop} {a : Act} {w : World} {l : List Oper} (hm : P.follows .mixedOrders = true) (hB : Region.lexB .any l.toArray = true)
    (h : wpQuiet P l.toArray (fun w' => ∃ x : Up w, w' = x.w) (fun a' => ∀ w', (∃ x : Up w, w' = x.w) → Q .normal a' w') l a) : (Code.region id l.toArray true).wp P Q a w :=
  wp_region_quiet (C := fun w' => ∃ x : Up w, w' = x.w) hm hB ⟨⟨{ w with drawn := w.drawn + 1 }, ⟨rfl, rfl, rfl, Nat.le_refl _, fun _ _ => rfl⟩⟩, rfl⟩ (by simpa using h)
/-- The world at hand under a name of its own. -/
theorem wp_named {c : Code} {P : Program} {Q : Exit → Act → World → Prop} {a : Act} {w : World} (h : ∀ W, w = W → c.wp P Q a W) : c.wp P Q a w := h w rfl
theorem heap_named {w W : World} {g : Nat} {o : Obj} (h : w = W) (hk : w.heap[g]? = some o) : W.heap[g]? = some o := h ▸ hk
theorem below_named {B : Nat} {v w W : World} (h : w = W) (hk : Below B v w) : Below B v W := h ▸ hk
end Go.Proofs.YtcedojmhgmgcgaaGreatDoor
