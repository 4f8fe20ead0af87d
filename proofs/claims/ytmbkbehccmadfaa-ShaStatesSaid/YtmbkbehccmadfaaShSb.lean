/-
  sha: four states at the start, and a store beside them.
-/
import Derived.Test.YtmbkbehccmadfaaShSa
namespace Go.Proofs.Ytmbkbehccmadfaa
open Go.RowKit Go
set_option linter.unusedVariables false
set_option linter.unusedSimpArgs false
set_option maxRecDepth 100000
theorem sl_row : RowT 41 22 1 24 (.slice none 0 0) := ⟨Try.underlying41, by kernel_rfl, rfl, by decide⟩
theorem StR.set {B : Nat} {w0 w : World} {Q : Nat → Option Addr × Nat × Nat} {xs : Nat → List UInt8} {ys : Nat → List Nat} {ts : Nat → Nat} (h : StR B w0 Q xs ys ts w) {g : Nat} (hg : B + 5 ≤ g) (hf : ∀ k, k < 4 → blk (Q k).1 ≠ some g) (j : Nat) (v : Value) :
    StR B w0 Q xs ys ts (w.setCell ⟨g, j, none⟩ v) := by
  have hz := h.size
  have hset : w.grownBy (w.setCell ⟨g, j, none⟩ v) (some g) := ⟨rfl, rfl, rfl, by simp, fun k _ hne => Below.heap_setCell _ _ _ _ (fun e => hne (by rw [e]))⟩
  have hz3 := hset.size
  have hne : ∀ j, j < 5 → some (B + j) ≠ some g := fun j hj e => by injection e with e; omega
  refine ⟨fun k hk => (h.own k hk).kept hset (.inr (hf k hk)), h.far, fun k hk => (h.st k hk).grown hset (hne k (by omega)),
    fun k hk => (World.cell?_of_block (a := ⟨B + 3, k, none⟩) (hset.block (B + 3) (by omega) (hne 3 (by omega)))).trans (h.lcell k hk),
    fun k hk => (World.cell?_of_block (a := ⟨B + 4, k, none⟩) (hset.block (B + 4) (by omega) (hne 4 (by omega)))).trans (h.acell k hk),
    fun k => (World.frozen?_of_block (a := ⟨B + 4, k, none⟩) (hset.block (B + 4) (by omega) (hne 4 (by omega)))).trans (h.afree k),
    h.below.setCell (show B ≤ g by omega) _, by omega⟩
theorem StR_init {B : Nat} {w w1 w2 w5 : World} {T : TypeId} (hB : w.heap.size = B) (hs1 : w1.heap.size = B + 1) (hs2 : w2.heap.size = B + 2) (hk1 : Holds w1 B [] 0) (hb1 : Below w.heap.size w w1) (hk2 : Holds w2 (B + 1) [] 0) (hb2 : Below w1.heap.size w1 w2) {W4 : World}
    (hW : (w2.alloc (.cells zeroState.toArray 39)).alloc (.cells #[.pointer (some ⟨B, 0, none⟩), .pointer (some ⟨B + 1, 0, none⟩), .pointer (some ⟨B + 2, 0, none⟩), .pointer none] T) = W4)
    (ho : OwnR w5 (B + 4) 22 1 (some ⟨B + 4, 0, none⟩) 4 4 (madeCells (Value.slice none 0 0).cells (4 * 1)).toList) (hg : W4.grownBy w5 none) :
    StR B w (fun _ => (none, 0, 0)) (fun _ => []) (fun _ => []) (fun _ => 0) w5 := by
  have hs3 : (w2.alloc (.cells zeroState.toArray 39)).heap.size = B + 3 := by simp [hs2]
  have hs4 : W4.heap.size = B + 4 := by rw [← hW]; simp [hs2]
  have h3 : Below w2.heap.size w2 (w2.alloc (.cells zeroState.toArray 39)) := kp_alloc (Below.refl _ _) _
  have h4 : Below (w2.alloc (.cells zeroState.toArray 39)).heap.size (w2.alloc (.cells zeroState.toArray 39)) W4 := by rw [← hW]; exact kp_alloc (Below.refl _ _) _
  have hk3 : Holds (w2.alloc (.cells zeroState.toArray 39)) (B + 2) [] 0 := holds_new w2 (B + 2) hs2.symm
  have hz : B + 5 ≤ w5.heap.size := by have := (OwnR.blk_lt ho (g := B + 4) rfl).2; omega
  have hst : ∀ k, k < 3 → Holds W4 (B + k) [] 0 := by
    intro k hk
    match k, hk with
    | 0, _ => exact ((hk1.below hb2).below h3).below h4
    | 1, _ => exact (hk2.below h3).below h4
    | 2, _ => exact hk3.below h4
  have hL : W4.heap[B + 3]? = some (.cells #[.pointer (some ⟨B, 0, none⟩), .pointer (some ⟨B + 1, 0, none⟩), .pointer (some ⟨B + 2, 0, none⟩), .pointer none] T) := by
    rw [← hW]
    exact has_new' _ _ _ hs3.symm
  have hmc : (madeCells (Value.slice none 0 0).cells (4 * 1)).toList = [.slice none 0 0, .slice none 0 0, .slice none 0 0, .slice none 0 0] := by
    rw [show (Value.slice none 0 0).cells = #[.slice none 0 0] from rfl, toList_madeCells_one]
    rfl
  rw [hmc] at ho
  refine ⟨fun k hk => OwnB.nil _ _, fun j k _ _ _ => .inl rfl, fun k hk => (hst k hk).grown hg (by intro e; cases e), fun k hk => ?_, fun k hk => ?_, fun k => OwnR.free ho k, ?_, hz⟩
  · refine (World.cell?_of_block (a := ⟨B + 3, k, none⟩) (hg.block (B + 3) (by omega) (by intro e; cases e))).trans ?_
    rw [Lib.cell_of_heap hL k]
    match k, hk with
    | 0, _ => rfl
    | 1, _ => rfl
    | 2, _ => rfl
    | 3, _ => rfl
  · rw [World.ownsRow.cellAt ho k (by omega)]
    match k, hk with
    | 0, _ => rfl
    | 1, _ => rfl
    | 2, _ => rfl
    | 3, _ => rfl
  · rw [hB] at hb1
    have q1 := hb1.trans (hb2.mono (by omega))
    have q2 := q1.trans (h3.mono (by omega))
    have q3 := q2.trans (h4.mono (by omega))
    exact q3.grown hg (by omega) (by intro k hk; cases hk)
end Go.Proofs.Ytmbkbehccmadfaa
