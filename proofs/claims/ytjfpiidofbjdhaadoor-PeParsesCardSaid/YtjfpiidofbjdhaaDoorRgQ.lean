/-
  A range over a function: what the iterator says of each element in the world in which it hands it out, and what it says at its end of the world that it leaves.
-/
import Derived.Test.YtjfpiidofbjdhaaDoorRg
namespace Go.Proofs.YtjfpiidofbjdhaaDoor
open Go.RowKit Go
set_option linter.unusedVariables false
set_option maxRecDepth 100000
/-- What the iterator is handed: Y between two rounds, Z behind one that wants no more. -/
def IterQ {α : Type} (P : Program) (n D gf : Nat) (lb : Array Value) (encs : α → Array Value) (K : Nat → Prop) (Qx : List α → α → World → Prop) (I : List α → World → Prop) (S : List α → World → Prop) (Sp : List α → Prop) (N : Nat) : Prop :=
  ∀ (Y Z : List α → World → Prop), (∀ pre W, Y pre W → I pre W) →
    (∀ pre W W', Y pre W → I pre W' → W'.heap[D]? = W.heap[D]? → W'.heap[D + 1]? = W.heap[D + 1]? → Y pre W') →
    (∀ pre x W, Y pre W → Qx pre x W → pre.length < N → YieldAt Fence.wide (n - 1 - 1) P (D + 1) (encs x) W fun e W' =>
      (e = .returned (.bool true) ∧ Y (pre ++ [x]) W' ∧ ∀ b, K b → W'.heap[b]? = W.heap[b]?) ∨ (e = .returned (.bool false) ∧ Z (pre ++ [x]) W')) →
    (∀ pre W, Y pre W → (∃ o, W.heap[D]? = some (.deferred o)) ∧ ∃ r, W.heap[D + 1]? = some (.loop r)) →
    ∀ W1 : World, Y [] W1 →
    CallsIn Fence.wide (n - 1) P gf (#[.func (.yield (D + 1)) #[] #[]] ++ lb) W1 fun e W' => (∃ v, e = .returned v) ∧ ((∃ xs, S xs W' ∧ Y xs W') ∨ (∃ pre, Sp pre ∧ Z pre W'))
theorem range_runQ {α : Type} {P : Program} {n : Nat} {g : Operand} {ps : Array Tmp} {assign body : Code} {Q : Exit → Act → World → Prop} {a : Act} {w : World}
    {gf : Nat} {lb : Array Value} (hg : a.eval g = .func (.func gf) #[] lb) (eg : ∀ args w, (callFunc gf args).run P w = .ok (.enter gf args) w) (h1 : 1 ≤ n)
    (encs : α → Array Value) (hps : ∀ x, (encs x).size = ps.size) (K : Nat → Prop) (hK : ∀ b, K b → b < w.heap.size)
    (Qx : List α → α → World → Prop) (I Ix : List α → World → Prop) (S : List α → World → Prop) (Sp : List α → Prop) (N : Nat)
    (hS : ∀ xs (W : World) b (o : Obj), w.heap.size ≤ b → b ≤ w.heap.size + 1 → S xs W → S xs (W.putObj b o))
    (hI : ∀ pre (W : World) b (o : Obj), w.heap.size ≤ b → b ≤ w.heap.size + 1 → I pre W → I pre (W.putObj b o))
    (hIx : ∀ pre (W : World) b (o : Obj), w.heap.size ≤ b → b ≤ w.heap.size + 1 → Ix pre W → Ix pre (W.putObj b o))
    (h0 : ∀ o1 o2, I [] ((w.alloc o1).alloc o2))
    (hround : ∀ pre x (W : World) r o, W.heap[w.heap.size + 1]? = some (.loop r) → W.heap[w.heap.size]? = some (.deferred o) → I pre W → Qx pre x W → pre.length < N →
      assign.wpIn (Fence.wide.inRound (w.heap.size + 1)) (n - 1 - 1) P (Exit.then (fun a1 W1 => W1.heap[w.heap.size + 1]? = some (.loop r) ∧ W1.heap[w.heap.size]? = some (.deferred o) ∧ (∀ b, K b → W1.heap[b]? = W.heap[b]?) ∧
          ∀ r', body.wpIn (Fence.wide.inRound (w.heap.size + 1)) (n - 1 - 1) P (RoundEnd w.heap.size K I Ix (.loop r') (pre ++ [x]) (W1.putObj (w.heap.size + 1) (.loop r'))) a1 (W1.putObj (w.heap.size + 1) (.loop r'))) (fun _ _ _ => False))
        { tmps := (ps.zip (encs x)).foldl (fun t (p, v) => t.setIfInBounds p v) a.tmps, defers := [] } W)
    (hiter : IterQ P n w.heap.size gf lb encs K Qx I S Sp N)
    (hdone : ∀ (xs : List α) (W : World), S xs W → I xs W → W.heap[w.heap.size]? = some (.deferred (some [])) → Q .normal { a with defers := { target := .collected w.heap.size, args := #[] } :: a.defers } W)
    (hstop : ∀ (pre : List α) (W : World), Sp pre → Ix pre W → W.heap[w.heap.size]? = some (.deferred (some [])) → Code.ret.wpIn Fence.wide n P Q { a with defers := { target := .collected w.heap.size, args := #[] } :: a.defers } W) :
    (Code.rangeFunc g ps assign body).wpIn Fence.wide n P Q a w := by
  refine wpIn_rangeFunc fun fn hfn => ?_
  let rec0 : LoopState → Option Code → Loop := fun st pe => { state := st, pending := pe, fn := fn, tmps := a.tmps, params := ps, assign := assign, body := body, defers := w.heap.size }
  let W1 := (w.alloc (.deferred (some []))).alloc (.loop (rec0 .ready none))
  have hL1 : W1.heap[w.heap.size + 1]? = some (.loop (rec0 .ready none)) := has_new' _ _ _ (by simp)
  have hD1 : W1.heap[w.heap.size]? = some (.deferred (some [])) := has_alloc (has_new w _) _
  refine ⟨w.heap.size + 1, [{ target := .collected w.heap.size, args := #[] }], W1, { target := .fn (.func gf) lb, args := #[.func (.yield (w.heap.size + 1)) #[] #[]] }, W1, gf,
    #[.func (.yield (w.heap.size + 1)) #[] #[]] ++ lb, W1, run_enterLoop_outer _ _ _ _ _, ?_, fun _ _ => trivial, ?_, fun _ => h1, ?_⟩
  · simp only [resolve, hg]
    simp [go_sem]
  · simp [invoke, go_sem, eg]
  refine (hiter
    (fun pre W => I pre W ∧ W.heap[w.heap.size + 1]? = some (.loop (rec0 .ready none)) ∧ W.heap[w.heap.size]? = some (.deferred (some [])))
    (fun pre W => Ix pre W ∧ W.heap[w.heap.size + 1]? = some (.loop (rec0 .done (some .ret))) ∧ W.heap[w.heap.size]? = some (.deferred (some [])))
    (fun _ _ h => h.1) (fun pre W W' h hi hd hl => ⟨hi, hl.trans h.2.1, hd.trans h.2.2⟩) ?_ (fun _ _ h => ⟨⟨_, h.2.2⟩, ⟨_, h.2.1⟩⟩) W1 ⟨h0 _ _, hL1, hD1⟩).mono ?_
  · -- one round
    rintro pre x W ⟨hi, hl, hd⟩ hq hlen
    refine ⟨fn, _, assign, body, run_yield (P := P) (args := encs x) hl (hps x), roundIn_of_wpIn hfn (wpIn_mono (hround pre x W _ _ hl hd hi hq hlen) ?_)⟩
    intro e a1 Wa hp
    cases e <;> simp only [Exit.then] at hp ⊢
    obtain ⟨hla, hda, hka, hb⟩ := hp
    refine ⟨_, run_beginRound hla rfl, ?_⟩
    have hlt : w.heap.size + 1 < Wa.heap.size := (Array.getElem?_eq_some_iff.1 hla).1
    refine wpIn_mono (hb _) ?_
    intro e a3 W3 hp
    have hother : ∀ (V : World) (o : Obj) b, b < w.heap.size + 1 → (V.putObj (w.heap.size + 1) o).heap[b]? = V.heap[b]? := fun V o b hb => World.putObj_heap_other (by omega)
    cases e with
    | normal =>
      obtain ⟨h3, h4, h5, h6⟩ := hp
      have hl3 := (Array.getElem?_eq_some_iff.1 h3).1
      refine ⟨_, _, run_endRound none h3, .inl ⟨rfl, ⟨hI _ _ _ _ (by omega) (Nat.le_refl _) h6, World.putObj_heap_same hl3, ?_⟩, fun b hb => ?_⟩⟩
      · rw [hother _ _ _ (by omega), h4, hother _ _ _ (by omega)]; exact hda
      · have := hK b hb
        rw [hother _ _ _ (by omega), h5 b hb, hother _ _ _ (by omega)]; exact hka b hb
    | ret =>
      obtain ⟨h3, h4, h6⟩ := hp
      have hl3 := (Array.getElem?_eq_some_iff.1 h3).1
      refine ⟨_, _, run_endRound (some .ret) h3, .inr ⟨rfl, hIx _ _ _ _ (by omega) (Nat.le_refl _) h6, World.putObj_heap_same hl3, ?_⟩⟩
      rw [hother _ _ _ (by omega), h4, hother _ _ _ (by omega)]; exact hda
    | exit id => exact (hp : False).elim
    | goto t => exact (hp : False).elim
    | panic ch => exact (hp : False).elim
    | outgrown => exact (hp : False).elim
  · -- behind the iterator
    rintro e W2 ⟨⟨v, rfl⟩, (⟨xs, hS9, hi, hl, hd⟩ | ⟨pre, hSp, hi, hl, hd⟩)⟩
    · exact ⟨none, _, run_endLoop (P := P) hl (by simp [rec0]), hdone xs _ (hS _ _ _ _ (by omega) (Nat.le_refl _) hS9) (hI _ _ _ _ (by omega) (Nat.le_refl _) hi) ((World.putObj_heap_other (by omega)).trans hd)⟩
    · exact ⟨some .ret, _, run_endLoop (P := P) hl (by simp [rec0]), hstop pre _ hSp (hIx _ _ _ _ (by omega) (Nat.le_refl _) hi) ((World.putObj_heap_other (by omega)).trans hd)⟩
end Go.Proofs.YtjfpiidofbjdhaaDoor
