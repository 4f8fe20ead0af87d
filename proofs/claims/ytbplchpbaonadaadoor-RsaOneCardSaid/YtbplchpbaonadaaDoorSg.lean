/-
  Structs in blocks, of any type: their cells, a store of a whole one, results that lie in cells; what worlds that only grow keep.
-/
import Derived.Test.YtbplchpbaonadaaDoorOwn
import Derived.Laws.ResultCell
import Derived.Laws.Rows
import Derived.Lib.Builder
namespace Go.Proofs.YtbplchpbaonadaaDoor
open Go.RowKit Go
set_option linter.unusedVariables false
set_option maxRecDepth 100000
theorem heap_set_at (w : World) (g j : Nat) (cs : Array Value) (t : TypeId) (fr : Nat × Nat) (u : Value) (hg : w.heap[g]? = some (.cells cs t fr)) : (w.setCell ⟨g, j, none⟩ u).heap[g]? = some (.cells (cs.setIfInBounds j u) t fr) := by
  have hlt := (Array.getElem?_eq_some_iff.1 hg).1
  simp [World.setCell, Array.getElem?_modify, hg]
theorem heap_set_far (w : World) (g k j : Nat) (u : Value) (h : k ≠ g) : (w.setCell ⟨g, j, none⟩ u).heap[k]? = w.heap[k]? := Below.heap_setCell w ⟨g, j, none⟩ u k h
theorem grown_one (w : World) (g j : Nat) (u : Value) : w.grownBy (w.setCell ⟨g, j, none⟩ u) (some g) :=
  ⟨rfl, rfl, rfl, by simp [World.setCell], fun k _ hk => Below.heap_setCell w ⟨g, j, none⟩ u k (fun e => hk (by rw [e]))⟩
theorem grown_tr {a b d : World} {row : Option Nat} (h : a.grownBy b row) (k : b.grownBy d row) : a.grownBy d row :=
  ⟨k.os.trans h.os, k.tape.trans h.tape, k.output.trans h.output, Nat.le_trans h.size k.size, fun i hi hne => (k.block i (Nat.lt_of_lt_of_le hi h.size) hne).trans (h.block i hi hne)⟩
theorem block_lt {w : World} {g : Nat} {o : Obj} (h : w.heap[g]? = some o) : g < w.heap.size := (Array.getElem?_eq_some_iff.1 h).1
/-! ### What worlds that only grow keep -/
section
variable {w w' v : World} {g B : Nat} {o : Obj}
theorem has_new (w : World) (o : Obj) : (w.alloc o).heap[w.heap.size]? = some o := heap_alloc_new w o
theorem has_new' (w : World) (o : Obj) (g : Nat) (hg : g = w.heap.size) : (w.alloc o).heap[g]? = some o := by subst hg; exact heap_alloc_new w o
theorem has_alloc (h : w.heap[g]? = some o) (o' : Obj) : (w.alloc o').heap[g]? = some o := (heap_alloc_old w o' (block_lt h)).trans h
theorem has_drew (h : w.heap[g]? = some o) : w.drew.heap[g]? = some o := h
theorem has_below (h : w.heap[g]? = some o) (hb : Below w.heap.size w w') : w'.heap[g]? = some o := (hb.block _ (block_lt h)).trans h
theorem has_set (h : w.heap[g]? = some o) {k j : Nat} {u : Value} (hne : g ≠ k) : (w.setCell ⟨k, j, none⟩ u).heap[g]? = some o := (heap_set_far w k g j u hne).trans h
theorem kp_drew (h : Below v.heap.size v w) : Below v.heap.size v w.drew := h.drew
theorem kp_drewN (h : Below v.heap.size v w) (k : Nat) : Below v.heap.size v (w.drewN k) := ⟨h.os, h.tape, h.output, h.size, h.block⟩
theorem has_drewN (h : w.heap[g]? = some o) (k : Nat) : (w.drewN k).heap[g]? = some o := h
theorem kp_alloc (h : Below v.heap.size v w) (o : Obj) : Below v.heap.size v (w.alloc o) := h.alloc h.size o
theorem kp_call (h : Below v.heap.size v w) (hb : Below w.heap.size w w') : Below v.heap.size v w' := h.trans (hb.mono h.size)
theorem kp_set (h : Below v.heap.size v w) {k j : Nat} {u : Value} (hk : v.heap.size ≤ k) : Below v.heap.size v (w.setCell ⟨k, j, none⟩ u) := h.setCell hk _
theorem kp_cell (h : Below v.heap.size v w) {b j : Nat} {u : Value} (hc : v.cell? ⟨b, j, none⟩ = some u) : w.cell? ⟨b, j, none⟩ = some u := (h.cell (p := ⟨b, j, none⟩) (World.block_lt_of_cell? v _ hc)).trans hc
theorem kp_of {h : Nat} (hb : Below h v w) (hh : v.heap.size = h) : Below v.heap.size v w := by subst hh; exact hb
end
/-! ### Cells -/
section
variable {w : World} {g : Nat} {t : TypeId}
theorem cells_1 {a0 : Value} {mk : Nat × Nat} (hk : w.heap[g]? = some (.cells #[a0] t mk)) :
    w.cell? ⟨g, 0, none⟩ = some a0 :=
  (Lib.cell_of_heap hk 0).trans rfl
theorem free_1 {a0 : Value} (hk : w.heap[g]? = some (.cells #[a0] t)) :
    w.frozen? ⟨g, 0, none⟩ = false :=
  Lib.frozen_of_heap hk 0
theorem set_1 {a0 v0 : Value} (hk : w.heap[g]? = some (.cells #[a0] t)) :
    (w.setCell ⟨g, 0, none⟩ v0).heap[g]? = some (.cells #[v0] t) := by
  have h0 := heap_set_at _ g 0 _ _ _ v0 hk
  simp only [List.setIfInBounds_toArray, List.set_cons_zero] at h0
  exact h0
theorem below_1 {v0 : Value} {B : Nat} {u : World} (h : Below B u w) (hg : B ≤ g) : Below B u (w.setCell ⟨g, 0, none⟩ v0) :=
  (h.setCell hg _)
theorem grown_1 {v0 : Value} (w : World) (g : Nat) : w.grownBy (w.setCell ⟨g, 0, none⟩ v0) (some g) :=
  grown_one _ _ _ _
theorem far_1 {v0 : Value} (w : World) (g b : Nat) (hb : b ≠ g) : (w.setCell ⟨g, 0, none⟩ v0).heap[b]? = w.heap[b]? :=
  heap_set_far _ _ _ _ _ hb
theorem cells_2 {a0 a1 : Value} {mk : Nat × Nat} (hk : w.heap[g]? = some (.cells #[a0, a1] t mk)) :
    w.cell? ⟨g, 0, none⟩ = some a0 ∧ w.cell? ⟨g, 1, none⟩ = some a1 :=
  ⟨(Lib.cell_of_heap hk 0).trans rfl, (Lib.cell_of_heap hk 1).trans rfl⟩
theorem free_2 {a0 a1 : Value} (hk : w.heap[g]? = some (.cells #[a0, a1] t)) :
    w.frozen? ⟨g, 0, none⟩ = false ∧ w.frozen? ⟨g, 1, none⟩ = false :=
  ⟨Lib.frozen_of_heap hk 0, Lib.frozen_of_heap hk 1⟩
theorem set_2 {a0 a1 v0 v1 : Value} (hk : w.heap[g]? = some (.cells #[a0, a1] t)) :
    ((w.setCell ⟨g, 0, none⟩ v0).setCell ⟨g, 1, none⟩ v1).heap[g]? = some (.cells #[v0, v1] t) := by
  have h0 := heap_set_at _ g 0 _ _ _ v0 hk
  simp only [List.setIfInBounds_toArray, List.set_cons_zero] at h0
  have h1 := heap_set_at _ g 1 _ _ _ v1 h0
  simp only [List.setIfInBounds_toArray, List.set_cons_zero, List.set_cons_succ] at h1
  exact h1
theorem below_2 {v0 v1 : Value} {B : Nat} {u : World} (h : Below B u w) (hg : B ≤ g) : Below B u ((w.setCell ⟨g, 0, none⟩ v0).setCell ⟨g, 1, none⟩ v1) :=
  ((h.setCell hg _).setCell hg _)
theorem grown_2 {v0 v1 : Value} (w : World) (g : Nat) : w.grownBy ((w.setCell ⟨g, 0, none⟩ v0).setCell ⟨g, 1, none⟩ v1) (some g) :=
  grown_tr (grown_one _ _ _ _) (grown_one _ _ _ _)
theorem far_2 {v0 v1 : Value} (w : World) (g b : Nat) (hb : b ≠ g) : ((w.setCell ⟨g, 0, none⟩ v0).setCell ⟨g, 1, none⟩ v1).heap[b]? = w.heap[b]? :=
  (heap_set_far _ _ _ _ _ hb).trans (heap_set_far _ _ _ _ _ hb)
theorem cells_3 {a0 a1 a2 : Value} {mk : Nat × Nat} (hk : w.heap[g]? = some (.cells #[a0, a1, a2] t mk)) :
    w.cell? ⟨g, 0, none⟩ = some a0 ∧ w.cell? ⟨g, 1, none⟩ = some a1 ∧ w.cell? ⟨g, 2, none⟩ = some a2 :=
  ⟨(Lib.cell_of_heap hk 0).trans rfl, (Lib.cell_of_heap hk 1).trans rfl, (Lib.cell_of_heap hk 2).trans rfl⟩
theorem free_3 {a0 a1 a2 : Value} (hk : w.heap[g]? = some (.cells #[a0, a1, a2] t)) :
    w.frozen? ⟨g, 0, none⟩ = false ∧ w.frozen? ⟨g, 1, none⟩ = false ∧ w.frozen? ⟨g, 2, none⟩ = false :=
  ⟨Lib.frozen_of_heap hk 0, Lib.frozen_of_heap hk 1, Lib.frozen_of_heap hk 2⟩
theorem set_3 {a0 a1 a2 v0 v1 v2 : Value} (hk : w.heap[g]? = some (.cells #[a0, a1, a2] t)) :
    (((w.setCell ⟨g, 0, none⟩ v0).setCell ⟨g, 1, none⟩ v1).setCell ⟨g, 2, none⟩ v2).heap[g]? = some (.cells #[v0, v1, v2] t) := by
  have h0 := heap_set_at _ g 0 _ _ _ v0 hk
  simp only [List.setIfInBounds_toArray, List.set_cons_zero] at h0
  have h1 := heap_set_at _ g 1 _ _ _ v1 h0
  simp only [List.setIfInBounds_toArray, List.set_cons_zero, List.set_cons_succ] at h1
  have h2 := heap_set_at _ g 2 _ _ _ v2 h1
  simp only [List.setIfInBounds_toArray, List.set_cons_zero, List.set_cons_succ] at h2
  exact h2
theorem below_3 {v0 v1 v2 : Value} {B : Nat} {u : World} (h : Below B u w) (hg : B ≤ g) : Below B u (((w.setCell ⟨g, 0, none⟩ v0).setCell ⟨g, 1, none⟩ v1).setCell ⟨g, 2, none⟩ v2) :=
  (((h.setCell hg _).setCell hg _).setCell hg _)
theorem grown_3 {v0 v1 v2 : Value} (w : World) (g : Nat) : w.grownBy (((w.setCell ⟨g, 0, none⟩ v0).setCell ⟨g, 1, none⟩ v1).setCell ⟨g, 2, none⟩ v2) (some g) :=
  grown_tr (grown_tr (grown_one _ _ _ _) (grown_one _ _ _ _)) (grown_one _ _ _ _)
theorem far_3 {v0 v1 v2 : Value} (w : World) (g b : Nat) (hb : b ≠ g) : (((w.setCell ⟨g, 0, none⟩ v0).setCell ⟨g, 1, none⟩ v1).setCell ⟨g, 2, none⟩ v2).heap[b]? = w.heap[b]? :=
  (heap_set_far _ _ _ _ _ hb).trans ((heap_set_far _ _ _ _ _ hb).trans (heap_set_far _ _ _ _ _ hb))
theorem cells_4 {a0 a1 a2 a3 : Value} {mk : Nat × Nat} (hk : w.heap[g]? = some (.cells #[a0, a1, a2, a3] t mk)) :
    w.cell? ⟨g, 0, none⟩ = some a0 ∧ w.cell? ⟨g, 1, none⟩ = some a1 ∧ w.cell? ⟨g, 2, none⟩ = some a2 ∧ w.cell? ⟨g, 3, none⟩ = some a3 :=
  ⟨(Lib.cell_of_heap hk 0).trans rfl, (Lib.cell_of_heap hk 1).trans rfl, (Lib.cell_of_heap hk 2).trans rfl, (Lib.cell_of_heap hk 3).trans rfl⟩
theorem free_4 {a0 a1 a2 a3 : Value} (hk : w.heap[g]? = some (.cells #[a0, a1, a2, a3] t)) :
    w.frozen? ⟨g, 0, none⟩ = false ∧ w.frozen? ⟨g, 1, none⟩ = false ∧ w.frozen? ⟨g, 2, none⟩ = false ∧ w.frozen? ⟨g, 3, none⟩ = false :=
  ⟨Lib.frozen_of_heap hk 0, Lib.frozen_of_heap hk 1, Lib.frozen_of_heap hk 2, Lib.frozen_of_heap hk 3⟩
theorem set_4 {a0 a1 a2 a3 v0 v1 v2 v3 : Value} (hk : w.heap[g]? = some (.cells #[a0, a1, a2, a3] t)) :
    ((((w.setCell ⟨g, 0, none⟩ v0).setCell ⟨g, 1, none⟩ v1).setCell ⟨g, 2, none⟩ v2).setCell ⟨g, 3, none⟩ v3).heap[g]? = some (.cells #[v0, v1, v2, v3] t) := by
  have h0 := heap_set_at _ g 0 _ _ _ v0 hk
  simp only [List.setIfInBounds_toArray, List.set_cons_zero] at h0
  have h1 := heap_set_at _ g 1 _ _ _ v1 h0
  simp only [List.setIfInBounds_toArray, List.set_cons_zero, List.set_cons_succ] at h1
  have h2 := heap_set_at _ g 2 _ _ _ v2 h1
  simp only [List.setIfInBounds_toArray, List.set_cons_zero, List.set_cons_succ] at h2
  have h3 := heap_set_at _ g 3 _ _ _ v3 h2
  simp only [List.setIfInBounds_toArray, List.set_cons_zero, List.set_cons_succ] at h3
  exact h3
theorem below_4 {v0 v1 v2 v3 : Value} {B : Nat} {u : World} (h : Below B u w) (hg : B ≤ g) : Below B u ((((w.setCell ⟨g, 0, none⟩ v0).setCell ⟨g, 1, none⟩ v1).setCell ⟨g, 2, none⟩ v2).setCell ⟨g, 3, none⟩ v3) :=
  ((((h.setCell hg _).setCell hg _).setCell hg _).setCell hg _)
theorem grown_4 {v0 v1 v2 v3 : Value} (w : World) (g : Nat) : w.grownBy ((((w.setCell ⟨g, 0, none⟩ v0).setCell ⟨g, 1, none⟩ v1).setCell ⟨g, 2, none⟩ v2).setCell ⟨g, 3, none⟩ v3) (some g) :=
  grown_tr (grown_tr (grown_tr (grown_one _ _ _ _) (grown_one _ _ _ _)) (grown_one _ _ _ _)) (grown_one _ _ _ _)
theorem far_4 {v0 v1 v2 v3 : Value} (w : World) (g b : Nat) (hb : b ≠ g) : ((((w.setCell ⟨g, 0, none⟩ v0).setCell ⟨g, 1, none⟩ v1).setCell ⟨g, 2, none⟩ v2).setCell ⟨g, 3, none⟩ v3).heap[b]? = w.heap[b]? :=
  (heap_set_far _ _ _ _ _ hb).trans ((heap_set_far _ _ _ _ _ hb).trans ((heap_set_far _ _ _ _ _ hb).trans (heap_set_far _ _ _ _ _ hb)))
theorem cells_5 {a0 a1 a2 a3 a4 : Value} {mk : Nat × Nat} (hk : w.heap[g]? = some (.cells #[a0, a1, a2, a3, a4] t mk)) :
    w.cell? ⟨g, 0, none⟩ = some a0 ∧ w.cell? ⟨g, 1, none⟩ = some a1 ∧ w.cell? ⟨g, 2, none⟩ = some a2 ∧ w.cell? ⟨g, 3, none⟩ = some a3 ∧ w.cell? ⟨g, 4, none⟩ = some a4 :=
  ⟨(Lib.cell_of_heap hk 0).trans rfl, (Lib.cell_of_heap hk 1).trans rfl, (Lib.cell_of_heap hk 2).trans rfl, (Lib.cell_of_heap hk 3).trans rfl, (Lib.cell_of_heap hk 4).trans rfl⟩
theorem free_5 {a0 a1 a2 a3 a4 : Value} (hk : w.heap[g]? = some (.cells #[a0, a1, a2, a3, a4] t)) :
    w.frozen? ⟨g, 0, none⟩ = false ∧ w.frozen? ⟨g, 1, none⟩ = false ∧ w.frozen? ⟨g, 2, none⟩ = false ∧ w.frozen? ⟨g, 3, none⟩ = false ∧ w.frozen? ⟨g, 4, none⟩ = false :=
  ⟨Lib.frozen_of_heap hk 0, Lib.frozen_of_heap hk 1, Lib.frozen_of_heap hk 2, Lib.frozen_of_heap hk 3, Lib.frozen_of_heap hk 4⟩
theorem set_5 {a0 a1 a2 a3 a4 v0 v1 v2 v3 v4 : Value} (hk : w.heap[g]? = some (.cells #[a0, a1, a2, a3, a4] t)) :
    (((((w.setCell ⟨g, 0, none⟩ v0).setCell ⟨g, 1, none⟩ v1).setCell ⟨g, 2, none⟩ v2).setCell ⟨g, 3, none⟩ v3).setCell ⟨g, 4, none⟩ v4).heap[g]? = some (.cells #[v0, v1, v2, v3, v4] t) := by
  have h0 := heap_set_at _ g 0 _ _ _ v0 hk
  simp only [List.setIfInBounds_toArray, List.set_cons_zero] at h0
  have h1 := heap_set_at _ g 1 _ _ _ v1 h0
  simp only [List.setIfInBounds_toArray, List.set_cons_zero, List.set_cons_succ] at h1
  have h2 := heap_set_at _ g 2 _ _ _ v2 h1
  simp only [List.setIfInBounds_toArray, List.set_cons_zero, List.set_cons_succ] at h2
  have h3 := heap_set_at _ g 3 _ _ _ v3 h2
  simp only [List.setIfInBounds_toArray, List.set_cons_zero, List.set_cons_succ] at h3
  have h4 := heap_set_at _ g 4 _ _ _ v4 h3
  simp only [List.setIfInBounds_toArray, List.set_cons_zero, List.set_cons_succ] at h4
  exact h4
theorem below_5 {v0 v1 v2 v3 v4 : Value} {B : Nat} {u : World} (h : Below B u w) (hg : B ≤ g) : Below B u (((((w.setCell ⟨g, 0, none⟩ v0).setCell ⟨g, 1, none⟩ v1).setCell ⟨g, 2, none⟩ v2).setCell ⟨g, 3, none⟩ v3).setCell ⟨g, 4, none⟩ v4) :=
  (((((h.setCell hg _).setCell hg _).setCell hg _).setCell hg _).setCell hg _)
theorem grown_5 {v0 v1 v2 v3 v4 : Value} (w : World) (g : Nat) : w.grownBy (((((w.setCell ⟨g, 0, none⟩ v0).setCell ⟨g, 1, none⟩ v1).setCell ⟨g, 2, none⟩ v2).setCell ⟨g, 3, none⟩ v3).setCell ⟨g, 4, none⟩ v4) (some g) :=
  grown_tr (grown_tr (grown_tr (grown_tr (grown_one _ _ _ _) (grown_one _ _ _ _)) (grown_one _ _ _ _)) (grown_one _ _ _ _)) (grown_one _ _ _ _)
theorem far_5 {v0 v1 v2 v3 v4 : Value} (w : World) (g b : Nat) (hb : b ≠ g) : (((((w.setCell ⟨g, 0, none⟩ v0).setCell ⟨g, 1, none⟩ v1).setCell ⟨g, 2, none⟩ v2).setCell ⟨g, 3, none⟩ v3).setCell ⟨g, 4, none⟩ v4).heap[b]? = w.heap[b]? :=
  (heap_set_far _ _ _ _ _ hb).trans ((heap_set_far _ _ _ _ _ hb).trans ((heap_set_far _ _ _ _ _ hb).trans ((heap_set_far _ _ _ _ _ hb).trans (heap_set_far _ _ _ _ _ hb))))
theorem cells_6 {a0 a1 a2 a3 a4 a5 : Value} {mk : Nat × Nat} (hk : w.heap[g]? = some (.cells #[a0, a1, a2, a3, a4, a5] t mk)) :
    w.cell? ⟨g, 0, none⟩ = some a0 ∧ w.cell? ⟨g, 1, none⟩ = some a1 ∧ w.cell? ⟨g, 2, none⟩ = some a2 ∧ w.cell? ⟨g, 3, none⟩ = some a3 ∧ w.cell? ⟨g, 4, none⟩ = some a4 ∧ w.cell? ⟨g, 5, none⟩ = some a5 :=
  ⟨(Lib.cell_of_heap hk 0).trans rfl, (Lib.cell_of_heap hk 1).trans rfl, (Lib.cell_of_heap hk 2).trans rfl, (Lib.cell_of_heap hk 3).trans rfl, (Lib.cell_of_heap hk 4).trans rfl, (Lib.cell_of_heap hk 5).trans rfl⟩
theorem free_6 {a0 a1 a2 a3 a4 a5 : Value} (hk : w.heap[g]? = some (.cells #[a0, a1, a2, a3, a4, a5] t)) :
    w.frozen? ⟨g, 0, none⟩ = false ∧ w.frozen? ⟨g, 1, none⟩ = false ∧ w.frozen? ⟨g, 2, none⟩ = false ∧ w.frozen? ⟨g, 3, none⟩ = false ∧ w.frozen? ⟨g, 4, none⟩ = false ∧ w.frozen? ⟨g, 5, none⟩ = false :=
  ⟨Lib.frozen_of_heap hk 0, Lib.frozen_of_heap hk 1, Lib.frozen_of_heap hk 2, Lib.frozen_of_heap hk 3, Lib.frozen_of_heap hk 4, Lib.frozen_of_heap hk 5⟩
theorem set_6 {a0 a1 a2 a3 a4 a5 v0 v1 v2 v3 v4 v5 : Value} (hk : w.heap[g]? = some (.cells #[a0, a1, a2, a3, a4, a5] t)) :
    ((((((w.setCell ⟨g, 0, none⟩ v0).setCell ⟨g, 1, none⟩ v1).setCell ⟨g, 2, none⟩ v2).setCell ⟨g, 3, none⟩ v3).setCell ⟨g, 4, none⟩ v4).setCell ⟨g, 5, none⟩ v5).heap[g]? = some (.cells #[v0, v1, v2, v3, v4, v5] t) := by
  have h0 := heap_set_at _ g 0 _ _ _ v0 hk
  simp only [List.setIfInBounds_toArray, List.set_cons_zero] at h0
  have h1 := heap_set_at _ g 1 _ _ _ v1 h0
  simp only [List.setIfInBounds_toArray, List.set_cons_zero, List.set_cons_succ] at h1
  have h2 := heap_set_at _ g 2 _ _ _ v2 h1
  simp only [List.setIfInBounds_toArray, List.set_cons_zero, List.set_cons_succ] at h2
  have h3 := heap_set_at _ g 3 _ _ _ v3 h2
  simp only [List.setIfInBounds_toArray, List.set_cons_zero, List.set_cons_succ] at h3
  have h4 := heap_set_at _ g 4 _ _ _ v4 h3
  simp only [List.setIfInBounds_toArray, List.set_cons_zero, List.set_cons_succ] at h4
  have h5 := heap_set_at _ g 5 _ _ _ v5 h4
  simp only [List.setIfInBounds_toArray, List.set_cons_zero, List.set_cons_succ] at h5
  exact h5
theorem below_6 {v0 v1 v2 v3 v4 v5 : Value} {B : Nat} {u : World} (h : Below B u w) (hg : B ≤ g) : Below B u ((((((w.setCell ⟨g, 0, none⟩ v0).setCell ⟨g, 1, none⟩ v1).setCell ⟨g, 2, none⟩ v2).setCell ⟨g, 3, none⟩ v3).setCell ⟨g, 4, none⟩ v4).setCell ⟨g, 5, none⟩ v5) :=
  ((((((h.setCell hg _).setCell hg _).setCell hg _).setCell hg _).setCell hg _).setCell hg _)
theorem grown_6 {v0 v1 v2 v3 v4 v5 : Value} (w : World) (g : Nat) : w.grownBy ((((((w.setCell ⟨g, 0, none⟩ v0).setCell ⟨g, 1, none⟩ v1).setCell ⟨g, 2, none⟩ v2).setCell ⟨g, 3, none⟩ v3).setCell ⟨g, 4, none⟩ v4).setCell ⟨g, 5, none⟩ v5) (some g) :=
  grown_tr (grown_tr (grown_tr (grown_tr (grown_tr (grown_one _ _ _ _) (grown_one _ _ _ _)) (grown_one _ _ _ _)) (grown_one _ _ _ _)) (grown_one _ _ _ _)) (grown_one _ _ _ _)
theorem far_6 {v0 v1 v2 v3 v4 v5 : Value} (w : World) (g b : Nat) (hb : b ≠ g) : ((((((w.setCell ⟨g, 0, none⟩ v0).setCell ⟨g, 1, none⟩ v1).setCell ⟨g, 2, none⟩ v2).setCell ⟨g, 3, none⟩ v3).setCell ⟨g, 4, none⟩ v4).setCell ⟨g, 5, none⟩ v5).heap[b]? = w.heap[b]? :=
  (heap_set_far _ _ _ _ _ hb).trans ((heap_set_far _ _ _ _ _ hb).trans ((heap_set_far _ _ _ _ _ hb).trans ((heap_set_far _ _ _ _ _ hb).trans ((heap_set_far _ _ _ _ _ hb).trans (heap_set_far _ _ _ _ _ hb)))))
theorem cells_7 {a0 a1 a2 a3 a4 a5 a6 : Value} {mk : Nat × Nat} (hk : w.heap[g]? = some (.cells #[a0, a1, a2, a3, a4, a5, a6] t mk)) :
    w.cell? ⟨g, 0, none⟩ = some a0 ∧ w.cell? ⟨g, 1, none⟩ = some a1 ∧ w.cell? ⟨g, 2, none⟩ = some a2 ∧ w.cell? ⟨g, 3, none⟩ = some a3 ∧ w.cell? ⟨g, 4, none⟩ = some a4 ∧ w.cell? ⟨g, 5, none⟩ = some a5 ∧ w.cell? ⟨g, 6, none⟩ = some a6 :=
  ⟨(Lib.cell_of_heap hk 0).trans rfl, (Lib.cell_of_heap hk 1).trans rfl, (Lib.cell_of_heap hk 2).trans rfl, (Lib.cell_of_heap hk 3).trans rfl, (Lib.cell_of_heap hk 4).trans rfl, (Lib.cell_of_heap hk 5).trans rfl, (Lib.cell_of_heap hk 6).trans rfl⟩
theorem free_7 {a0 a1 a2 a3 a4 a5 a6 : Value} (hk : w.heap[g]? = some (.cells #[a0, a1, a2, a3, a4, a5, a6] t)) :
    w.frozen? ⟨g, 0, none⟩ = false ∧ w.frozen? ⟨g, 1, none⟩ = false ∧ w.frozen? ⟨g, 2, none⟩ = false ∧ w.frozen? ⟨g, 3, none⟩ = false ∧ w.frozen? ⟨g, 4, none⟩ = false ∧ w.frozen? ⟨g, 5, none⟩ = false ∧ w.frozen? ⟨g, 6, none⟩ = false :=
  ⟨Lib.frozen_of_heap hk 0, Lib.frozen_of_heap hk 1, Lib.frozen_of_heap hk 2, Lib.frozen_of_heap hk 3, Lib.frozen_of_heap hk 4, Lib.frozen_of_heap hk 5, Lib.frozen_of_heap hk 6⟩
theorem set_7 {a0 a1 a2 a3 a4 a5 a6 v0 v1 v2 v3 v4 v5 v6 : Value} (hk : w.heap[g]? = some (.cells #[a0, a1, a2, a3, a4, a5, a6] t)) :
    (((((((w.setCell ⟨g, 0, none⟩ v0).setCell ⟨g, 1, none⟩ v1).setCell ⟨g, 2, none⟩ v2).setCell ⟨g, 3, none⟩ v3).setCell ⟨g, 4, none⟩ v4).setCell ⟨g, 5, none⟩ v5).setCell ⟨g, 6, none⟩ v6).heap[g]? = some (.cells #[v0, v1, v2, v3, v4, v5, v6] t) := by
  have h0 := heap_set_at _ g 0 _ _ _ v0 hk
  simp only [List.setIfInBounds_toArray, List.set_cons_zero] at h0
  have h1 := heap_set_at _ g 1 _ _ _ v1 h0
  simp only [List.setIfInBounds_toArray, List.set_cons_zero, List.set_cons_succ] at h1
  have h2 := heap_set_at _ g 2 _ _ _ v2 h1
  simp only [List.setIfInBounds_toArray, List.set_cons_zero, List.set_cons_succ] at h2
  have h3 := heap_set_at _ g 3 _ _ _ v3 h2
  simp only [List.setIfInBounds_toArray, List.set_cons_zero, List.set_cons_succ] at h3
  have h4 := heap_set_at _ g 4 _ _ _ v4 h3
  simp only [List.setIfInBounds_toArray, List.set_cons_zero, List.set_cons_succ] at h4
  have h5 := heap_set_at _ g 5 _ _ _ v5 h4
  simp only [List.setIfInBounds_toArray, List.set_cons_zero, List.set_cons_succ] at h5
  have h6 := heap_set_at _ g 6 _ _ _ v6 h5
  simp only [List.setIfInBounds_toArray, List.set_cons_zero, List.set_cons_succ] at h6
  exact h6
theorem below_7 {v0 v1 v2 v3 v4 v5 v6 : Value} {B : Nat} {u : World} (h : Below B u w) (hg : B ≤ g) : Below B u (((((((w.setCell ⟨g, 0, none⟩ v0).setCell ⟨g, 1, none⟩ v1).setCell ⟨g, 2, none⟩ v2).setCell ⟨g, 3, none⟩ v3).setCell ⟨g, 4, none⟩ v4).setCell ⟨g, 5, none⟩ v5).setCell ⟨g, 6, none⟩ v6) :=
  (((((((h.setCell hg _).setCell hg _).setCell hg _).setCell hg _).setCell hg _).setCell hg _).setCell hg _)
theorem grown_7 {v0 v1 v2 v3 v4 v5 v6 : Value} (w : World) (g : Nat) : w.grownBy (((((((w.setCell ⟨g, 0, none⟩ v0).setCell ⟨g, 1, none⟩ v1).setCell ⟨g, 2, none⟩ v2).setCell ⟨g, 3, none⟩ v3).setCell ⟨g, 4, none⟩ v4).setCell ⟨g, 5, none⟩ v5).setCell ⟨g, 6, none⟩ v6) (some g) :=
  grown_tr (grown_tr (grown_tr (grown_tr (grown_tr (grown_tr (grown_one _ _ _ _) (grown_one _ _ _ _)) (grown_one _ _ _ _)) (grown_one _ _ _ _)) (grown_one _ _ _ _)) (grown_one _ _ _ _)) (grown_one _ _ _ _)
theorem far_7 {v0 v1 v2 v3 v4 v5 v6 : Value} (w : World) (g b : Nat) (hb : b ≠ g) : (((((((w.setCell ⟨g, 0, none⟩ v0).setCell ⟨g, 1, none⟩ v1).setCell ⟨g, 2, none⟩ v2).setCell ⟨g, 3, none⟩ v3).setCell ⟨g, 4, none⟩ v4).setCell ⟨g, 5, none⟩ v5).setCell ⟨g, 6, none⟩ v6).heap[b]? = w.heap[b]? :=
  (heap_set_far _ _ _ _ _ hb).trans ((heap_set_far _ _ _ _ _ hb).trans ((heap_set_far _ _ _ _ _ hb).trans ((heap_set_far _ _ _ _ _ hb).trans ((heap_set_far _ _ _ _ _ hb).trans ((heap_set_far _ _ _ _ _ hb).trans (heap_set_far _ _ _ _ _ hb))))))
theorem cells_8 {a0 a1 a2 a3 a4 a5 a6 a7 : Value} {mk : Nat × Nat} (hk : w.heap[g]? = some (.cells #[a0, a1, a2, a3, a4, a5, a6, a7] t mk)) :
    w.cell? ⟨g, 0, none⟩ = some a0 ∧ w.cell? ⟨g, 1, none⟩ = some a1 ∧ w.cell? ⟨g, 2, none⟩ = some a2 ∧ w.cell? ⟨g, 3, none⟩ = some a3 ∧ w.cell? ⟨g, 4, none⟩ = some a4 ∧ w.cell? ⟨g, 5, none⟩ = some a5 ∧ w.cell? ⟨g, 6, none⟩ = some a6 ∧ w.cell? ⟨g, 7, none⟩ = some a7 :=
  ⟨(Lib.cell_of_heap hk 0).trans rfl, (Lib.cell_of_heap hk 1).trans rfl, (Lib.cell_of_heap hk 2).trans rfl, (Lib.cell_of_heap hk 3).trans rfl, (Lib.cell_of_heap hk 4).trans rfl, (Lib.cell_of_heap hk 5).trans rfl, (Lib.cell_of_heap hk 6).trans rfl, (Lib.cell_of_heap hk 7).trans rfl⟩
theorem free_8 {a0 a1 a2 a3 a4 a5 a6 a7 : Value} (hk : w.heap[g]? = some (.cells #[a0, a1, a2, a3, a4, a5, a6, a7] t)) :
    w.frozen? ⟨g, 0, none⟩ = false ∧ w.frozen? ⟨g, 1, none⟩ = false ∧ w.frozen? ⟨g, 2, none⟩ = false ∧ w.frozen? ⟨g, 3, none⟩ = false ∧ w.frozen? ⟨g, 4, none⟩ = false ∧ w.frozen? ⟨g, 5, none⟩ = false ∧ w.frozen? ⟨g, 6, none⟩ = false ∧ w.frozen? ⟨g, 7, none⟩ = false :=
  ⟨Lib.frozen_of_heap hk 0, Lib.frozen_of_heap hk 1, Lib.frozen_of_heap hk 2, Lib.frozen_of_heap hk 3, Lib.frozen_of_heap hk 4, Lib.frozen_of_heap hk 5, Lib.frozen_of_heap hk 6, Lib.frozen_of_heap hk 7⟩
theorem set_8 {a0 a1 a2 a3 a4 a5 a6 a7 v0 v1 v2 v3 v4 v5 v6 v7 : Value} (hk : w.heap[g]? = some (.cells #[a0, a1, a2, a3, a4, a5, a6, a7] t)) :
    ((((((((w.setCell ⟨g, 0, none⟩ v0).setCell ⟨g, 1, none⟩ v1).setCell ⟨g, 2, none⟩ v2).setCell ⟨g, 3, none⟩ v3).setCell ⟨g, 4, none⟩ v4).setCell ⟨g, 5, none⟩ v5).setCell ⟨g, 6, none⟩ v6).setCell ⟨g, 7, none⟩ v7).heap[g]? = some (.cells #[v0, v1, v2, v3, v4, v5, v6, v7] t) := by
  have h0 := heap_set_at _ g 0 _ _ _ v0 hk
  simp only [List.setIfInBounds_toArray, List.set_cons_zero] at h0
  have h1 := heap_set_at _ g 1 _ _ _ v1 h0
  simp only [List.setIfInBounds_toArray, List.set_cons_zero, List.set_cons_succ] at h1
  have h2 := heap_set_at _ g 2 _ _ _ v2 h1
  simp only [List.setIfInBounds_toArray, List.set_cons_zero, List.set_cons_succ] at h2
  have h3 := heap_set_at _ g 3 _ _ _ v3 h2
  simp only [List.setIfInBounds_toArray, List.set_cons_zero, List.set_cons_succ] at h3
  have h4 := heap_set_at _ g 4 _ _ _ v4 h3
  simp only [List.setIfInBounds_toArray, List.set_cons_zero, List.set_cons_succ] at h4
  have h5 := heap_set_at _ g 5 _ _ _ v5 h4
  simp only [List.setIfInBounds_toArray, List.set_cons_zero, List.set_cons_succ] at h5
  have h6 := heap_set_at _ g 6 _ _ _ v6 h5
  simp only [List.setIfInBounds_toArray, List.set_cons_zero, List.set_cons_succ] at h6
  have h7 := heap_set_at _ g 7 _ _ _ v7 h6
  simp only [List.setIfInBounds_toArray, List.set_cons_zero, List.set_cons_succ] at h7
  exact h7
theorem below_8 {v0 v1 v2 v3 v4 v5 v6 v7 : Value} {B : Nat} {u : World} (h : Below B u w) (hg : B ≤ g) : Below B u ((((((((w.setCell ⟨g, 0, none⟩ v0).setCell ⟨g, 1, none⟩ v1).setCell ⟨g, 2, none⟩ v2).setCell ⟨g, 3, none⟩ v3).setCell ⟨g, 4, none⟩ v4).setCell ⟨g, 5, none⟩ v5).setCell ⟨g, 6, none⟩ v6).setCell ⟨g, 7, none⟩ v7) :=
  ((((((((h.setCell hg _).setCell hg _).setCell hg _).setCell hg _).setCell hg _).setCell hg _).setCell hg _).setCell hg _)
theorem grown_8 {v0 v1 v2 v3 v4 v5 v6 v7 : Value} (w : World) (g : Nat) : w.grownBy ((((((((w.setCell ⟨g, 0, none⟩ v0).setCell ⟨g, 1, none⟩ v1).setCell ⟨g, 2, none⟩ v2).setCell ⟨g, 3, none⟩ v3).setCell ⟨g, 4, none⟩ v4).setCell ⟨g, 5, none⟩ v5).setCell ⟨g, 6, none⟩ v6).setCell ⟨g, 7, none⟩ v7) (some g) :=
  grown_tr (grown_tr (grown_tr (grown_tr (grown_tr (grown_tr (grown_tr (grown_one _ _ _ _) (grown_one _ _ _ _)) (grown_one _ _ _ _)) (grown_one _ _ _ _)) (grown_one _ _ _ _)) (grown_one _ _ _ _)) (grown_one _ _ _ _)) (grown_one _ _ _ _)
theorem far_8 {v0 v1 v2 v3 v4 v5 v6 v7 : Value} (w : World) (g b : Nat) (hb : b ≠ g) : ((((((((w.setCell ⟨g, 0, none⟩ v0).setCell ⟨g, 1, none⟩ v1).setCell ⟨g, 2, none⟩ v2).setCell ⟨g, 3, none⟩ v3).setCell ⟨g, 4, none⟩ v4).setCell ⟨g, 5, none⟩ v5).setCell ⟨g, 6, none⟩ v6).setCell ⟨g, 7, none⟩ v7).heap[b]? = w.heap[b]? :=
  (heap_set_far _ _ _ _ _ hb).trans ((heap_set_far _ _ _ _ _ hb).trans ((heap_set_far _ _ _ _ _ hb).trans ((heap_set_far _ _ _ _ _ hb).trans ((heap_set_far _ _ _ _ _ hb).trans ((heap_set_far _ _ _ _ _ hb).trans ((heap_set_far _ _ _ _ _ hb).trans (heap_set_far _ _ _ _ _ hb)))))))
theorem cells_9 {a0 a1 a2 a3 a4 a5 a6 a7 a8 : Value} {mk : Nat × Nat} (hk : w.heap[g]? = some (.cells #[a0, a1, a2, a3, a4, a5, a6, a7, a8] t mk)) :
    w.cell? ⟨g, 0, none⟩ = some a0 ∧ w.cell? ⟨g, 1, none⟩ = some a1 ∧ w.cell? ⟨g, 2, none⟩ = some a2 ∧ w.cell? ⟨g, 3, none⟩ = some a3 ∧ w.cell? ⟨g, 4, none⟩ = some a4 ∧ w.cell? ⟨g, 5, none⟩ = some a5 ∧ w.cell? ⟨g, 6, none⟩ = some a6 ∧ w.cell? ⟨g, 7, none⟩ = some a7 ∧ w.cell? ⟨g, 8, none⟩ = some a8 :=
  ⟨(Lib.cell_of_heap hk 0).trans rfl, (Lib.cell_of_heap hk 1).trans rfl, (Lib.cell_of_heap hk 2).trans rfl, (Lib.cell_of_heap hk 3).trans rfl, (Lib.cell_of_heap hk 4).trans rfl, (Lib.cell_of_heap hk 5).trans rfl, (Lib.cell_of_heap hk 6).trans rfl, (Lib.cell_of_heap hk 7).trans rfl, (Lib.cell_of_heap hk 8).trans rfl⟩
theorem free_9 {a0 a1 a2 a3 a4 a5 a6 a7 a8 : Value} (hk : w.heap[g]? = some (.cells #[a0, a1, a2, a3, a4, a5, a6, a7, a8] t)) :
    w.frozen? ⟨g, 0, none⟩ = false ∧ w.frozen? ⟨g, 1, none⟩ = false ∧ w.frozen? ⟨g, 2, none⟩ = false ∧ w.frozen? ⟨g, 3, none⟩ = false ∧ w.frozen? ⟨g, 4, none⟩ = false ∧ w.frozen? ⟨g, 5, none⟩ = false ∧ w.frozen? ⟨g, 6, none⟩ = false ∧ w.frozen? ⟨g, 7, none⟩ = false ∧ w.frozen? ⟨g, 8, none⟩ = false :=
  ⟨Lib.frozen_of_heap hk 0, Lib.frozen_of_heap hk 1, Lib.frozen_of_heap hk 2, Lib.frozen_of_heap hk 3, Lib.frozen_of_heap hk 4, Lib.frozen_of_heap hk 5, Lib.frozen_of_heap hk 6, Lib.frozen_of_heap hk 7, Lib.frozen_of_heap hk 8⟩
theorem set_9 {a0 a1 a2 a3 a4 a5 a6 a7 a8 v0 v1 v2 v3 v4 v5 v6 v7 v8 : Value} (hk : w.heap[g]? = some (.cells #[a0, a1, a2, a3, a4, a5, a6, a7, a8] t)) :
    (((((((((w.setCell ⟨g, 0, none⟩ v0).setCell ⟨g, 1, none⟩ v1).setCell ⟨g, 2, none⟩ v2).setCell ⟨g, 3, none⟩ v3).setCell ⟨g, 4, none⟩ v4).setCell ⟨g, 5, none⟩ v5).setCell ⟨g, 6, none⟩ v6).setCell ⟨g, 7, none⟩ v7).setCell ⟨g, 8, none⟩ v8).heap[g]? = some (.cells #[v0, v1, v2, v3, v4, v5, v6, v7, v8] t) := by
  have h0 := heap_set_at _ g 0 _ _ _ v0 hk
  simp only [List.setIfInBounds_toArray, List.set_cons_zero] at h0
  have h1 := heap_set_at _ g 1 _ _ _ v1 h0
  simp only [List.setIfInBounds_toArray, List.set_cons_zero, List.set_cons_succ] at h1
  have h2 := heap_set_at _ g 2 _ _ _ v2 h1
  simp only [List.setIfInBounds_toArray, List.set_cons_zero, List.set_cons_succ] at h2
  have h3 := heap_set_at _ g 3 _ _ _ v3 h2
  simp only [List.setIfInBounds_toArray, List.set_cons_zero, List.set_cons_succ] at h3
  have h4 := heap_set_at _ g 4 _ _ _ v4 h3
  simp only [List.setIfInBounds_toArray, List.set_cons_zero, List.set_cons_succ] at h4
  have h5 := heap_set_at _ g 5 _ _ _ v5 h4
  simp only [List.setIfInBounds_toArray, List.set_cons_zero, List.set_cons_succ] at h5
  have h6 := heap_set_at _ g 6 _ _ _ v6 h5
  simp only [List.setIfInBounds_toArray, List.set_cons_zero, List.set_cons_succ] at h6
  have h7 := heap_set_at _ g 7 _ _ _ v7 h6
  simp only [List.setIfInBounds_toArray, List.set_cons_zero, List.set_cons_succ] at h7
  have h8 := heap_set_at _ g 8 _ _ _ v8 h7
  simp only [List.setIfInBounds_toArray, List.set_cons_zero, List.set_cons_succ] at h8
  exact h8
theorem below_9 {v0 v1 v2 v3 v4 v5 v6 v7 v8 : Value} {B : Nat} {u : World} (h : Below B u w) (hg : B ≤ g) : Below B u (((((((((w.setCell ⟨g, 0, none⟩ v0).setCell ⟨g, 1, none⟩ v1).setCell ⟨g, 2, none⟩ v2).setCell ⟨g, 3, none⟩ v3).setCell ⟨g, 4, none⟩ v4).setCell ⟨g, 5, none⟩ v5).setCell ⟨g, 6, none⟩ v6).setCell ⟨g, 7, none⟩ v7).setCell ⟨g, 8, none⟩ v8) :=
  (((((((((h.setCell hg _).setCell hg _).setCell hg _).setCell hg _).setCell hg _).setCell hg _).setCell hg _).setCell hg _).setCell hg _)
theorem grown_9 {v0 v1 v2 v3 v4 v5 v6 v7 v8 : Value} (w : World) (g : Nat) : w.grownBy (((((((((w.setCell ⟨g, 0, none⟩ v0).setCell ⟨g, 1, none⟩ v1).setCell ⟨g, 2, none⟩ v2).setCell ⟨g, 3, none⟩ v3).setCell ⟨g, 4, none⟩ v4).setCell ⟨g, 5, none⟩ v5).setCell ⟨g, 6, none⟩ v6).setCell ⟨g, 7, none⟩ v7).setCell ⟨g, 8, none⟩ v8) (some g) :=
  grown_tr (grown_tr (grown_tr (grown_tr (grown_tr (grown_tr (grown_tr (grown_tr (grown_one _ _ _ _) (grown_one _ _ _ _)) (grown_one _ _ _ _)) (grown_one _ _ _ _)) (grown_one _ _ _ _)) (grown_one _ _ _ _)) (grown_one _ _ _ _)) (grown_one _ _ _ _)) (grown_one _ _ _ _)
theorem far_9 {v0 v1 v2 v3 v4 v5 v6 v7 v8 : Value} (w : World) (g b : Nat) (hb : b ≠ g) : (((((((((w.setCell ⟨g, 0, none⟩ v0).setCell ⟨g, 1, none⟩ v1).setCell ⟨g, 2, none⟩ v2).setCell ⟨g, 3, none⟩ v3).setCell ⟨g, 4, none⟩ v4).setCell ⟨g, 5, none⟩ v5).setCell ⟨g, 6, none⟩ v6).setCell ⟨g, 7, none⟩ v7).setCell ⟨g, 8, none⟩ v8).heap[b]? = w.heap[b]? :=
  (heap_set_far _ _ _ _ _ hb).trans ((heap_set_far _ _ _ _ _ hb).trans ((heap_set_far _ _ _ _ _ hb).trans ((heap_set_far _ _ _ _ _ hb).trans ((heap_set_far _ _ _ _ _ hb).trans ((heap_set_far _ _ _ _ _ hb).trans ((heap_set_far _ _ _ _ _ hb).trans ((heap_set_far _ _ _ _ _ hb).trans (heap_set_far _ _ _ _ _ hb))))))))
end
/-- A world that grew from w, and in which block g still is o. -/
structure GB (w : World) (g : Nat) (o : Obj) (W : World) : Prop where
  b : Below w.heap.size w W
  h : W.heap[g]? = some o
section
variable {w W W' : World} {g : Nat} {o : Obj}
theorem GB.drew (h : GB w g o W) : GB w g o W.drew := ⟨h.b.drew, h.h⟩
theorem GB.drewN (h : GB w g o W) (k : Nat) : GB w g o (W.drewN k) := ⟨kp_drewN h.b k, h.h⟩
theorem GB.alloc (h : GB w g o W) (o' : Obj) : GB w g o (W.alloc o') := ⟨kp_alloc h.b o', has_alloc h.h o'⟩
theorem GB.call (h : GB w g o W) (hb : Below W.heap.size W W') : GB w g o W' := ⟨kp_call h.b hb, has_below h.h hb⟩
theorem GB.set (h : GB w g o W) {k j : Nat} {u : Value} (hk : w.heap.size ≤ k) (hne : g ≠ k) : GB w g o (W.setCell ⟨k, j, none⟩ u) := ⟨kp_set h.b hk, has_set h.h hne⟩
end
/-- The world at hand under a name of its own. -/
theorem wp_nm {c : Code} {P : Program} {Q : Exit → Act → World → Prop} {a : Act} {w : World} (h : ∀ W, w = W → c.wp P Q a W) : c.wp P Q a w := h w rfl
theorem calls_nm {P : Program} {f : FuncId} {args : Array Value} {w : World} {Q : Ending → World → Prop} (h : ∀ W, w = W → Calls P f args W Q) : Calls P f args w Q := h w rfl
/-! ### Results that lie in cells -/
section
variable {P : Program} {fn : Func} {w : World} {g : Nat} {t ty : TypeId} {cs : Array Value} {fr : Nat × Nat}
/-- Loading a variable gives v. -/
def LV (P : Program) (w : World) (ty : TypeId) (p : Value) (v : Value) : Prop := ∃ a w1, (asAddr p).run P w = .ok a w1 ∧ (loadVar ty a).run P w1 = .ok v w
theorem LV.agg {d : TypeDesc} (hg : w.heap[g]? = some (.cells cs t fr)) (hu : P.underlying ty = some d) (hd : (match d with | .struct _ | .array _ _ => true | _ => false) = true) (hi : (P.info? ty).map (·.size) = some cs.size) :
    LV P w ty (.pointer (some ⟨g, 0, none⟩)) (.agg cs) := ⟨⟨g, 0, none⟩, w, by simp [asAddr], run_loadVar_row w g t ty cs fr d hg hu hd hi⟩
theorem results_c {p : Tmp} (h : fn.results = #[.cell p ty]) (tmps : Array Value) {v : Value} (hp : LV P w ty (tmps.getD p undef) v) :
    (results fn tmps).run P w = .ok v w := by
  obtain ⟨a, w1, h1, h2⟩ := hp
  rw [Array.getD_eq_getD_getElem?] at h1
  simp only [results, h]
  simp [Sem.run_bind, h1, h2, Result.andThen]
theorem results_ct {p u : Tmp} (h : fn.results = #[.cell p ty, .tmp u]) (tmps : Array Value) {v : Value} (hp : LV P w ty (tmps.getD p undef) v) :
    (results fn tmps).run P w = .ok (.tuple #[v, tmps.getD u undef]) w := by
  obtain ⟨a, w1, h1, h2⟩ := hp
  rw [Array.getD_eq_getD_getElem?] at h1
  simp only [results, h]
  simp [Sem.run_bind, h1, h2, Result.andThen]
theorem results_ctt {p u1 u2 : Tmp} (h : fn.results = #[.cell p ty, .tmp u1, .tmp u2]) (tmps : Array Value) {v : Value} (hp : LV P w ty (tmps.getD p undef) v) :
    (results fn tmps).run P w = .ok (.tuple #[v, tmps.getD u1 undef, tmps.getD u2 undef]) w := by
  obtain ⟨a, w1, h1, h2⟩ := hp
  rw [Array.getD_eq_getD_getElem?] at h1
  simp only [results, h]
  simp [Sem.run_bind, h1, h2, Result.andThen]
theorem results_cc {p q : Tmp} {ty2 : TypeId} (h : fn.results = #[.cell p ty, .cell q ty2]) (tmps : Array Value) {v v2 : Value} (hp : LV P w ty (tmps.getD p undef) v) (hq : LV P w ty2 (tmps.getD q undef) v2) :
    (results fn tmps).run P w = .ok (.tuple #[v, v2]) w := by
  obtain ⟨a, w1, h1, h2⟩ := hp
  obtain ⟨b, w2, h3, h4⟩ := hq
  rw [Array.getD_eq_getD_getElem?] at h1 h3
  simp only [results, h]
  simp [Sem.run_bind, h1, h2, h3, h4, Result.andThen]
end
end Go.Proofs.YtbplchpbaonadaaDoor
