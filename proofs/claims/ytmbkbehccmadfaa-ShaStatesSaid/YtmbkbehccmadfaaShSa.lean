/-
  sha: four states and what each has been given.
-/
import Derived.Test.YtmbkbehccmadfaaShOp
import Derived.Test.YtmbkbehccmadfaaShSu
import Derived.Test.YtmbkbehccmadfaaRef
namespace Go.Proofs.Ytmbkbehccmadfaa
open Go.RowKit Go
set_option linter.unusedVariables false
set_option linter.unusedSimpArgs false
set_option maxRecDepth 100000
def ptrV (B k : Nat) : Value := if k < 3 then .pointer (some ⟨B + k, 0, none⟩) else .pointer none
/-- Four states, the last nil, and the slices that the law keeps beside them. -/
structure StR (B : Nat) (w0 : World) (Q : Nat → Option Addr × Nat × Nat) (xs : Nat → List UInt8) (ys : Nat → List Nat) (ts : Nat → Nat) (w : World) : Prop where
  own : ∀ k, k < 4 → OwnB w (B + 5) (Q k).1 (Q k).2.1 (Q k).2.2 (xs k)
  far : ∀ j k, j < 4 → k < 4 → j ≠ k → (blk (Q j).1 = none ∨ blk (Q j).1 ≠ blk (Q k).1)
  st : ∀ k, k < 3 → Holds w (B + k) (ys k) (ts k)
  lcell : ∀ k, k < 4 → w.cell? ⟨B + 3, k, none⟩ = some (ptrV B k)
  acell : ∀ k, k < 4 → w.cell? ⟨B + 4, k, none⟩ = some (.slice (Q k).1 (Q k).2.1 (Q k).2.2)
  afree : ∀ k, w.frozen? ⟨B + 4, k, none⟩ = false
  below : Below B w0 w
  size : B + 5 ≤ w.heap.size
section
variable {B : Nat} {w0 w w' : World} {Q : Nat → Option Addr × Nat × Nat} {xs : Nat → List UInt8} {ys : Nat → List Nat} {ts : Nat → Nat}
theorem StR.call (h : StR B w0 Q xs ys ts w) (hb : Below w.heap.size w w') : StR B w0 Q xs ys ts w' := by
  have hz := h.size
  have hz2 := hb.size
  exact ⟨fun k hk => (h.own k hk).below hb (Nat.le_refl _), h.far, fun k hk => (h.st k hk).below hb,
    fun k hk => (hb.cell (p := ⟨B + 3, k, none⟩) (show B + 3 < w.heap.size by omega)).trans (h.lcell k hk),
    fun k hk => (hb.cell (p := ⟨B + 4, k, none⟩) (show B + 4 < w.heap.size by omega)).trans (h.acell k hk),
    fun k => (hb.frozen (p := ⟨B + 4, k, none⟩) (show B + 4 < w.heap.size by omega)).trans (h.afree k),
    h.below.trans (hb.mono (by omega)), by omega⟩
theorem StR.write (h : StR B w0 Q xs ys ts w) {k0 : Nat} (hk0 : k0 < 3) {y : List Nat} {t : Nat} (hg : w.grownBy w' (some (B + k0))) (hy : Holds w' (B + k0) y t) :
    StR B w0 Q xs (fun k => if k = k0 then y else ys k) (fun k => if k = k0 then t else ts k) w' := by
  have hz := h.size
  have hz2 := hg.size
  have hne : ∀ j, 3 ≤ j → some (B + j) ≠ some (B + k0) := fun j hj e => by injection e with e; omega
  refine ⟨fun k hk => (h.own k hk).kept hg (far_num (h.own k hk) (by omega)), h.far, fun k hk => ?_,
    fun k hk => (World.cell?_of_block (a := ⟨B + 3, k, none⟩) (hg.block (B + 3) (by omega) (hne 3 (by omega)))).trans (h.lcell k hk),
    fun k hk => (World.cell?_of_block (a := ⟨B + 4, k, none⟩) (hg.block (B + 4) (by omega) (hne 4 (by omega)))).trans (h.acell k hk),
    fun k => (World.frozen?_of_block (a := ⟨B + 4, k, none⟩) (hg.block (B + 4) (by omega) (hne 4 (by omega)))).trans (h.afree k),
    h.below.grown hg (by omega) (fun k e => by injection e with e; omega), by omega⟩
  by_cases e : k = k0
  · subst e
    simpa using hy
  · simp only [if_neg e]
    exact (h.st k hk).grown hg (fun e2 => by injection e2 with e2; omega)
theorem StR.app (h : StR B w0 Q xs ys ts w) {k0 : Nat} (hk0 : k0 < 4) {A9 : Option Addr} {n9 c9 : Nat} {x9 : List UInt8} {w9 : World} (ho : OwnB w9 (B + 5) A9 n9 c9 x9) (hg : w.grownBy w9 (blk (Q k0).1)) (hp : blk A9 = blk (Q k0).1 ∨ blk A9 = some w.heap.size) :
    StR B w0 (fun k => if k = k0 then (A9, n9, c9) else Q k) (fun k => if k = k0 then x9 else xs k) ys ts (w9.setCell ⟨B + 4, k0, none⟩ (.slice A9 n9 c9)) := by
  have hz := h.size
  have hz2 := hg.size
  have hn : ∀ k, blk (Q k0).1 = some k → B + 5 ≤ k := fun k hk => ((h.own k0 hk0).blk_lt hk).1
  have hset : w9.grownBy (w9.setCell ⟨B + 4, k0, none⟩ (.slice A9 n9 c9)) (some (B + 4)) :=
    ⟨rfl, rfl, rfl, by simp, fun k _ hne => Below.heap_setCell _ _ _ _ (fun e => hne (by rw [e]))⟩
  have hz3 := hset.size
  have hrow : ∀ j, j < 5 → some (B + j) ≠ blk (Q k0).1 := fun j hj e => by have := hn _ e.symm; omega
  have hnf : ∀ k, k < 4 → k ≠ k0 → (blk A9 = none ∨ blk A9 ≠ blk (Q k).1) := fun k hk hne => far_new (h.own k hk) (h.far k0 k hk0 hk (fun e => hne e.symm)) hp
  have hc9 : ∀ k, k < 4 → w9.cell? ⟨B + 4, k, none⟩ = some (.slice (Q k).1 (Q k).2.1 (Q k).2.2) := fun k hk => (World.cell?_of_block (a := ⟨B + 4, k, none⟩) (hg.block (B + 4) (by omega) (hrow 4 (by omega)))).trans (h.acell k hk)
  refine ⟨fun k hk => ?_, fun j k hj hk hjk => ?_, fun k hk => ?_, fun k hk => ?_, fun k hk => ?_, fun k => ?_, ?_, by omega⟩
  · by_cases e : k = k0
    · simp only [if_pos e]
      exact ho.kept hset (far_num ho (by omega))
    · simp only [if_neg e]
      have h1 := (h.own k hk).kept hg (h.far k k0 hk hk0 e)
      exact h1.kept hset (far_num h1 (by omega))
  · by_cases e : j = k0
    · have e2 : k ≠ k0 := fun e2 => hjk (e.trans e2.symm)
      simp only [if_pos e, if_neg e2]
      exact hnf k hk e2
    · by_cases e2 : k = k0
      · simp only [if_neg e, if_pos e2]
        exact far_symm2 (hnf j hj e)
      · simp only [if_neg e, if_neg e2]
        exact h.far j k hj hk hjk
  · exact ((h.st k hk).grown hg (hrow k (by omega))).grown hset (fun e2 => by injection e2 with e2; omega)
  · refine (World.cell?_of_block (a := ⟨B + 3, k, none⟩) (hset.block (B + 3) (by omega) (fun e2 => by injection e2 with e2; omega))).trans ?_
    exact (World.cell?_of_block (a := ⟨B + 3, k, none⟩) (hg.block (B + 3) (by omega) (hrow 3 (by omega)))).trans (h.lcell k hk)
  · by_cases e : k = k0
    · subst e
      simp only [if_true]
      exact World.cell?_setCell_same _ _ _ (hc9 k hk)
    · simp only [if_neg e]
      exact (World.cell?_setCell_other _ _ _ _ (by intro e2; injection e2 with _ e3 _; exact e e3.symm)).trans (hc9 k hk)
  · rw [World.frozen?_setCell]
    exact (World.frozen?_of_block (a := ⟨B + 4, k, none⟩) (hg.block (B + 4) (by omega) (hrow 4 (by omega)))).trans (h.afree k)
  · exact (h.below.grown hg (by omega) (fun k e => by have := hn k e; omega)).setCell (show B ≤ B + 4 by omega) _
end
theorem step_appA {ops : Array Oper} {o : Oper} {a : Act} {w : World} {K : Act → World → Prop} {Q : Exit → Act → World → Prop} {E : Prop} (hgd : o.guard = none) (s x : Operand)
    (ho : o.op = .call { callee := .builtin .append, args := #[s, x], argTypes := #[22, 22] }) (hty : o.type = 22)
    (base : Nat) (A0 : Option Addr) (n0 c0 : Nat) (bs : List UInt8) (hs : a.eval s = .slice A0 n0 c0) (hown : OwnB w base A0 n0 c0 bs)
    (A : Option Addr) (m c : Nat) (news : List UInt8) (hx : a.eval x = .slice A m c) (hr : RB w A m news) (hlim : n0 + m ≤ 140737488355328) (hbase : base ≤ w.heap.size)
    (h : ∀ A' c' w', OwnB w' base A' (n0 + m) c' (bs ++ news) → w.grownBy w' (blk A0) → (blk A' = blk A0 ∨ blk A' = some w.heap.size) → K (a.put o.dst (.slice A' (n0 + m) c')) w') :
    if Region.wanted o (yielded ops a.tmps) = true then Oper.wp Try.prog o a w K Q else E := by
  have hw : Region.wanted o (yielded ops a.tmps) = true := by simp [Region.wanted, hgd]
  rw [if_pos hw]
  have hm := hr.1
  subst hm
  obtain ⟨A', c', w', hrun, h2, h3, h4⟩ := run_appA w base A0 n0 c0 bs hown w.heap.size A c news hr.2 hlim hbase
  unfold Oper.wp execOp
  simp only [ho, resolve, invoke, builtin, Sem.run_bind, Sem.run_pure, Result.andThen_ok, List.map_toArray, List.map_cons, List.map_nil, hs, hx, hty, hrun]
  exact h A' c' w' h2 h3 h4
end Go.Proofs.Ytmbkbehccmadfaa
