/-
  A range over a function, where the iterator makes a block of its own as it runs: one law.
-/
import Derived.Test.YtkajlbdiofobcaaDoorRg
import Derived.Test.YtkajlbdiofobcaaDoorRow
import Derived.RangeFuncNested
import Derived.RangeFuncBound
import Derived.RangeFuncCalls
import Derived.RangeFuncLeaves
import Derived.Shelf.Abstract
import Derived.WalkKit
import Derived.OwnWalkIn
import Derived.TacticsInMore
import Derived.LoopNIn
import Derived.LoopIn
namespace Go.Proofs.YtkajlbdiofobcaaDoor
open Go.RowKit Go
set_option linter.unusedVariables false
set_option maxRecDepth 100000
/-- How a round is left: off its end, or by a return; the record's block, the block of the calls that wait and the iterator's own block are as they were. -/
def RoundEndR {α : Type} (D R : Nat) (I Ix : Nat → List α → World → Prop) (o : Obj) (xs : List α) (W : World) : Exit → Act → World → Prop
  | .normal, _, W' => W'.heap[D + 1]? = some o ∧ W'.heap[D]? = W.heap[D]? ∧ W'.heap[R]? = W.heap[R]? ∧ I R xs W'
  | .ret, _, W' => W'.heap[D + 1]? = some o ∧ W'.heap[D]? = W.heap[D]? ∧ Ix R xs W'
  | _, _, _ => False
/-- What the iterator is handed: Y between two rounds, Z behind one that wants no more; it may make one block R of its own, that the rounds leave alone. -/
def IterOfR {α : Type} (P : Program) (n D gf : Nat) (lb : Array Value) (encs : α → Array Value) (Xok : Nat → α → World → Prop) (I : Nat → List α → World → Prop) (S Sp : List α → Prop) (N : Nat) : Prop :=
  ∀ (Y Z : Nat → List α → World → Prop), (∀ R pre W, Y R pre W → I R pre W) →
    (∀ R pre W W', Y R pre W → I R pre W' → W'.heap[D]? = W.heap[D]? → W'.heap[D + 1]? = W.heap[D + 1]? → Y R pre W') →
    (∀ R pre x W, D + 2 ≤ R → Y R pre W → Xok R x W → pre.length < N → YieldAt Fence.wide (n - 1 - 1) P (D + 1) (encs x) W fun e W' =>
      (e = .returned (.bool true) ∧ Y R (pre ++ [x]) W' ∧ W'.heap[R]? = W.heap[R]?) ∨ (e = .returned (.bool false) ∧ Z R (pre ++ [x]) W')) →
    (∀ R pre W, Y R pre W → (∃ o, W.heap[D]? = some (.deferred o)) ∧ ∃ r, W.heap[D + 1]? = some (.loop r)) →
    ∀ W1 : World, (∀ R, D + 2 ≤ R → Y R [] W1) → D + 2 ≤ W1.heap.size →
    CallsIn Fence.wide (n - 1) P gf (#[.func (.yield (D + 1)) #[] #[]] ++ lb) W1 fun e W' => (∃ v, e = .returned v) ∧ ∃ R, D + 2 ≤ R ∧ ((∃ xs, S xs ∧ Y R xs W') ∨ (∃ pre, Sp pre ∧ Z R pre W'))
theorem range_runR {α : Type} {P : Program} {n : Nat} {g : Operand} {ps : Array Tmp} {assign body : Code} {Q : Exit → Act → World → Prop} {a : Act} {w : World}
    {gf : Nat} {lb : Array Value} (hg : a.eval g = .func (.func gf) #[] lb) (eg : ∀ args w, (callFunc gf args).run P w = .ok (.enter gf args) w) (h1 : 1 ≤ n)
    (encs : α → Array Value) (hps : ∀ x, (encs x).size = ps.size) (Xok : Nat → α → World → Prop)
    (I Ix : Nat → List α → World → Prop) (S Sp : List α → Prop) (N : Nat)
    (hI : ∀ R pre (W : World) b (o : Obj), w.heap.size + 2 ≤ R → w.heap.size ≤ b → b ≤ w.heap.size + 1 → I R pre W → I R pre (W.putObj b o))
    (hIx : ∀ R pre (W : World) b (o : Obj), w.heap.size + 2 ≤ R → w.heap.size ≤ b → b ≤ w.heap.size + 1 → Ix R pre W → Ix R pre (W.putObj b o))
    (h0 : ∀ R o1 o2, w.heap.size + 2 ≤ R → I R [] ((w.alloc o1).alloc o2))
    (hround : ∀ R pre x (W : World) r o, w.heap.size + 2 ≤ R → W.heap[w.heap.size + 1]? = some (.loop r) → W.heap[w.heap.size]? = some (.deferred o) → I R pre W → Xok R x W → pre.length < N →
      assign.wpIn (Fence.wide.inRound (w.heap.size + 1)) (n - 1 - 1) P (Exit.then (fun a1 W1 => W1.heap[w.heap.size + 1]? = some (.loop r) ∧ W1.heap[w.heap.size]? = some (.deferred o) ∧ W1.heap[R]? = W.heap[R]? ∧
          ∀ r', body.wpIn (Fence.wide.inRound (w.heap.size + 1)) (n - 1 - 1) P (RoundEndR w.heap.size R I Ix (.loop r') (pre ++ [x]) (W1.putObj (w.heap.size + 1) (.loop r'))) a1 (W1.putObj (w.heap.size + 1) (.loop r'))) (fun _ _ _ => False))
        { tmps := (ps.zip (encs x)).foldl (fun t (p, v) => t.setIfInBounds p v) a.tmps, defers := [] } W)
    (hiter : IterOfR P n w.heap.size gf lb encs Xok I S Sp N)
    (hdone : ∀ R (xs : List α) (W : World), w.heap.size + 2 ≤ R → S xs → I R xs W → W.heap[w.heap.size]? = some (.deferred (some [])) → Q .normal { a with defers := { target := .collected w.heap.size, args := #[] } :: a.defers } W)
    (hstop : ∀ R (pre : List α) (W : World), w.heap.size + 2 ≤ R → Sp pre → Ix R pre W → W.heap[w.heap.size]? = some (.deferred (some [])) → Code.ret.wpIn Fence.wide n P Q { a with defers := { target := .collected w.heap.size, args := #[] } :: a.defers } W) :
    (Code.rangeFunc g ps assign body).wpIn Fence.wide n P Q a w := by
  refine wpIn_rangeFunc fun fn hfn => ?_
  let rec0 : LoopState → Option Code → Loop := fun st pe => { state := st, pending := pe, fn := fn, tmps := a.tmps, params := ps, assign := assign, body := body, defers := w.heap.size }
  let W1 := (w.alloc (.deferred (some []))).alloc (.loop (rec0 .ready none))
  have hL1 : W1.heap[w.heap.size + 1]? = some (.loop (rec0 .ready none)) := has_new' _ _ _ (by simp)
  have hD1 : W1.heap[w.heap.size]? = some (.deferred (some [])) := has_alloc (has_new w _) _
  refine ⟨w.heap.size + 1, [{ target := .collected w.heap.size, args := #[] }], W1, { target := .fn (.func gf) lb, args := #[.func (.yield (w.heap.size + 1)) #[] #[]] }, W1, gf,
    #[.func (.yield (w.heap.size + 1)) #[] #[]] ++ lb, W1, run_enterLoop_outer _ _ _ _ _, ?_, fun _ _ => trivial, ?_, fun _ => h1, ?_⟩
  · simp only [resolve, hg]
    simp [go_sem]
  · simp [invoke, go_sem, eg]
  refine (hiter
    (fun R pre W => I R pre W ∧ W.heap[w.heap.size + 1]? = some (.loop (rec0 .ready none)) ∧ W.heap[w.heap.size]? = some (.deferred (some [])))
    (fun R pre W => Ix R pre W ∧ W.heap[w.heap.size + 1]? = some (.loop (rec0 .done (some .ret))) ∧ W.heap[w.heap.size]? = some (.deferred (some [])))
    (fun _ _ _ h => h.1) (fun R pre W W' h hi hd hl => ⟨hi, hl.trans h.2.1, hd.trans h.2.2⟩) ?_ (fun _ _ _ h => ⟨⟨_, h.2.2⟩, ⟨_, h.2.1⟩⟩) W1 (fun R hR => ⟨h0 R _ _ hR, hL1, hD1⟩) (by simp [W1])).mono ?_
  · -- one round
    rintro R pre x W hR ⟨hi, hl, hd⟩ hx hlen
    refine ⟨fn, _, assign, body, run_yield (P := P) (args := encs x) hl (hps x), roundIn_of_wpIn hfn (wpIn_mono (hround R pre x W _ _ hR hl hd hi hx hlen) ?_)⟩
    intro e a1 Wa hp
    cases e <;> simp only [Exit.then] at hp ⊢
    obtain ⟨hla, hda, hka, hb⟩ := hp
    refine ⟨_, run_beginRound hla rfl, ?_⟩
    have hlt : w.heap.size + 1 < Wa.heap.size := (Array.getElem?_eq_some_iff.1 hla).1
    refine wpIn_mono (hb _) ?_
    intro e a3 W3 hp
    have hother : ∀ (V : World) (o : Obj) b, b ≠ w.heap.size + 1 → (V.putObj (w.heap.size + 1) o).heap[b]? = V.heap[b]? := fun V o b hb => World.putObj_heap_other (by omega)
    cases e with
    | normal =>
      obtain ⟨h3, h4, h5, h6⟩ := hp
      have hl3 := (Array.getElem?_eq_some_iff.1 h3).1
      refine ⟨_, _, run_endRound none h3, .inl ⟨rfl, ⟨hI _ _ _ _ _ hR (by omega) (Nat.le_refl _) h6, World.putObj_heap_same hl3, ?_⟩, ?_⟩⟩
      · rw [hother _ _ _ (by omega), h4, hother _ _ _ (by omega)]; exact hda
      · rw [hother _ _ _ (by omega), h5, hother _ _ _ (by omega)]; exact hka
    | ret =>
      obtain ⟨h3, h4, h6⟩ := hp
      have hl3 := (Array.getElem?_eq_some_iff.1 h3).1
      refine ⟨_, _, run_endRound (some .ret) h3, .inr ⟨rfl, hIx _ _ _ _ _ hR (by omega) (Nat.le_refl _) h6, World.putObj_heap_same hl3, ?_⟩⟩
      rw [hother _ _ _ (by omega), h4, hother _ _ _ (by omega)]; exact hda
    | exit id => exact (hp : False).elim
    | goto t => exact (hp : False).elim
    | panic ch => exact (hp : False).elim
    | outgrown => exact (hp : False).elim
  · -- behind the iterator
    rintro e W2 ⟨⟨v, rfl⟩, R, hR, (⟨xs, hS, hi, hl, hd⟩ | ⟨pre, hSp, hi, hl, hd⟩)⟩
    · exact ⟨none, _, run_endLoop (P := P) hl (by simp [rec0]), hdone R xs _ hR hS (hI _ _ _ _ _ hR (by omega) (Nat.le_refl _) hi) ((World.putObj_heap_other (by omega)).trans hd)⟩
    · exact ⟨some .ret, _, run_endLoop (P := P) hl (by simp [rec0]), hstop R pre _ hR hSp (hIx _ _ _ _ _ hR (by omega) (Nat.le_refl _) hi) ((World.putObj_heap_other (by omega)).trans hd)⟩
end Go.Proofs.YtkajlbdiofobcaaDoor
