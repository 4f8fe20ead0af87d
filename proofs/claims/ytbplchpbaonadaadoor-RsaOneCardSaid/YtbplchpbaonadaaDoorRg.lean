/-
  A range over a function, where the iterator keeps state in a block of its own: one law.
-/
import Derived.Test.YtbplchpbaonadaaDoorSg
import Derived.Test.YtbplchpbaonadaaDoorRow
import Derived.RangeFuncNested
import Derived.RangeFuncBound
import Derived.RangeFuncCalls
import Derived.RangeFuncLeaves
import Derived.Shelf.Abstract
import Derived.WalkKit
import Derived.OwnWalkIn
import Derived.TacticsInMore
import Derived.LoopNIn
import Derived.LoopIn
namespace Go.Proofs.YtbplchpbaonadaaDoor
open Go.RowKit Go
set_option linter.unusedVariables false
set_option maxRecDepth 100000
/-- How a round is left: off its end, or by a return; the record's block and the block of the calls that wait are as they were, and so is each block that rounds leave alone. -/
def RoundEnd {α : Type} (D : Nat) (K : Nat → Prop) (I Ix : List α → World → Prop) (o : Obj) (xs : List α) (W : World) : Exit → Act → World → Prop
  | .normal, _, W' => W'.heap[D + 1]? = some o ∧ W'.heap[D]? = W.heap[D]? ∧ (∀ b, K b → W'.heap[b]? = W.heap[b]?) ∧ I xs W'
  | .ret, _, W' => W'.heap[D + 1]? = some o ∧ W'.heap[D]? = W.heap[D]? ∧ Ix xs W'
  | _, _, _ => False
/-- What the iterator is handed: Y between two rounds, Z behind one that wants no more. -/
def IterOf {α : Type} (P : Program) (n D gf : Nat) (lb : Array Value) (encs : α → Array Value) (K : Nat → Prop) (I : List α → World → Prop) (S Sp : List α → Prop) (N : Nat) : Prop :=
  ∀ (Y Z : List α → World → Prop), (∀ pre W, Y pre W → I pre W) →
    (∀ pre W W', Y pre W → I pre W' → W'.heap[D]? = W.heap[D]? → W'.heap[D + 1]? = W.heap[D + 1]? → Y pre W') →
    (∀ pre x W, Y pre W → pre.length < N → YieldAt Fence.wide (n - 1 - 1) P (D + 1) (encs x) W fun e W' =>
      (e = .returned (.bool true) ∧ Y (pre ++ [x]) W' ∧ ∀ b, K b → W'.heap[b]? = W.heap[b]?) ∨ (e = .returned (.bool false) ∧ Z (pre ++ [x]) W')) →
    (∀ pre W, Y pre W → (∃ o, W.heap[D]? = some (.deferred o)) ∧ ∃ r, W.heap[D + 1]? = some (.loop r)) →
    ∀ W1 : World, Y [] W1 →
    CallsIn Fence.wide (n - 1) P gf (#[.func (.yield (D + 1)) #[] #[]] ++ lb) W1 fun e W' => (∃ v, e = .returned v) ∧ ((∃ xs, S xs ∧ Y xs W') ∨ (∃ pre, Sp pre ∧ Z pre W'))
theorem range_run {α : Type} {P : Program} {n : Nat} {g : Operand} {ps : Array Tmp} {assign body : Code} {Q : Exit → Act → World → Prop} {a : Act} {w : World}
    {gf : Nat} {lb : Array Value} (hg : a.eval g = .func (.func gf) #[] lb) (eg : ∀ args w, (callFunc gf args).run P w = .ok (.enter gf args) w) (h1 : 1 ≤ n)
    (encs : α → Array Value) (hps : ∀ x, (encs x).size = ps.size) (K : Nat → Prop) (hK : ∀ b, K b → b < w.heap.size)
    (I Ix : List α → World → Prop) (S Sp : List α → Prop) (N : Nat)
    (hI : ∀ pre (W : World) b (o : Obj), w.heap.size ≤ b → b ≤ w.heap.size + 1 → I pre W → I pre (W.putObj b o))
    (hIx : ∀ pre (W : World) b (o : Obj), w.heap.size ≤ b → b ≤ w.heap.size + 1 → Ix pre W → Ix pre (W.putObj b o))
    (h0 : ∀ o1 o2, I [] ((w.alloc o1).alloc o2))
    (hround : ∀ pre x (W : World) r o, W.heap[w.heap.size + 1]? = some (.loop r) → W.heap[w.heap.size]? = some (.deferred o) → I pre W → pre.length < N →
      assign.wpIn (Fence.wide.inRound (w.heap.size + 1)) (n - 1 - 1) P (Exit.then (fun a1 W1 => W1.heap[w.heap.size + 1]? = some (.loop r) ∧ W1.heap[w.heap.size]? = some (.deferred o) ∧ (∀ b, K b → W1.heap[b]? = W.heap[b]?) ∧
          ∀ r', body.wpIn (Fence.wide.inRound (w.heap.size + 1)) (n - 1 - 1) P (RoundEnd w.heap.size K I Ix (.loop r') (pre ++ [x]) (W1.putObj (w.heap.size + 1) (.loop r'))) a1 (W1.putObj (w.heap.size + 1) (.loop r'))) (fun _ _ _ => False))
        { tmps := (ps.zip (encs x)).foldl (fun t (p, v) => t.setIfInBounds p v) a.tmps, defers := [] } W)
    (hiter : IterOf P n w.heap.size gf lb encs K I S Sp N)
    (hdone : ∀ (xs : List α) (W : World), S xs → I xs W → W.heap[w.heap.size]? = some (.deferred (some [])) → Q .normal { a with defers := { target := .collected w.heap.size, args := #[] } :: a.defers } W)
    (hstop : ∀ (pre : List α) (W : World), Sp pre → Ix pre W → W.heap[w.heap.size]? = some (.deferred (some [])) → Code.ret.wpIn Fence.wide n P Q { a with defers := { target := .collected w.heap.size, args := #[] } :: a.defers } W) :
    (Code.rangeFunc g ps assign body).wpIn Fence.wide n P Q a w := by
  refine wpIn_rangeFunc fun fn hfn => ?_
  let rec0 : LoopState → Option Code → Loop := fun st pe => { state := st, pending := pe, fn := fn, tmps := a.tmps, params := ps, assign := assign, body := body, defers := w.heap.size }
  let W1 := (w.alloc (.deferred (some []))).alloc (.loop (rec0 .ready none))
  have hL1 : W1.heap[w.heap.size + 1]? = some (.loop (rec0 .ready none)) := has_new' _ _ _ (by simp)
  have hD1 : W1.heap[w.heap.size]? = some (.deferred (some [])) := has_alloc (has_new w _) _
  refine ⟨w.heap.size + 1, [{ target := .collected w.heap.size, args := #[] }], W1, { target := .fn (.func gf) lb, args := #[.func (.yield (w.heap.size + 1)) #[] #[]] }, W1, gf,
    #[.func (.yield (w.heap.size + 1)) #[] #[]] ++ lb, W1, run_enterLoop_outer _ _ _ _ _, ?_, fun _ _ => trivial, ?_, fun _ => h1, ?_⟩
  · simp only [resolve, hg]
    simp [go_sem]
  · simp [invoke, go_sem, eg]
  refine (hiter
    (fun pre W => I pre W ∧ W.heap[w.heap.size + 1]? = some (.loop (rec0 .ready none)) ∧ W.heap[w.heap.size]? = some (.deferred (some [])))
    (fun pre W => Ix pre W ∧ W.heap[w.heap.size + 1]? = some (.loop (rec0 .done (some .ret))) ∧ W.heap[w.heap.size]? = some (.deferred (some [])))
    (fun _ _ h => h.1) (fun pre W W' h hi hd hl => ⟨hi, hl.trans h.2.1, hd.trans h.2.2⟩) ?_ (fun _ _ h => ⟨⟨_, h.2.2⟩, ⟨_, h.2.1⟩⟩) W1 ⟨h0 _ _, hL1, hD1⟩).mono ?_
  · -- one round
    rintro pre x W ⟨hi, hl, hd⟩ hlen
    refine ⟨fn, _, assign, body, run_yield (P := P) (args := encs x) hl (hps x), roundIn_of_wpIn hfn (wpIn_mono (hround pre x W _ _ hl hd hi hlen) ?_)⟩
    intro e a1 Wa hp
    cases e <;> simp only [Exit.then] at hp ⊢
    obtain ⟨hla, hda, hka, hb⟩ := hp
    refine ⟨_, run_beginRound hla rfl, ?_⟩
    have hlt : w.heap.size + 1 < Wa.heap.size := (Array.getElem?_eq_some_iff.1 hla).1
    refine wpIn_mono (hb _) ?_
    intro e a3 W3 hp
    have hother : ∀ (V : World) (o : Obj) b, b < w.heap.size + 1 → (V.putObj (w.heap.size + 1) o).heap[b]? = V.heap[b]? := fun V o b hb => World.putObj_heap_other (by omega)
    cases e with
    | normal =>
      obtain ⟨h3, h4, h5, h6⟩ := hp
      have hl3 := (Array.getElem?_eq_some_iff.1 h3).1
      refine ⟨_, _, run_endRound none h3, .inl ⟨rfl, ⟨hI _ _ _ _ (by omega) (Nat.le_refl _) h6, World.putObj_heap_same hl3, ?_⟩, fun b hb => ?_⟩⟩
      · rw [hother _ _ _ (by omega), h4, hother _ _ _ (by omega)]; exact hda
      · have := hK b hb
        rw [hother _ _ _ (by omega), h5 b hb, hother _ _ _ (by omega)]; exact hka b hb
    | ret =>
      obtain ⟨h3, h4, h6⟩ := hp
      have hl3 := (Array.getElem?_eq_some_iff.1 h3).1
      refine ⟨_, _, run_endRound (some .ret) h3, .inr ⟨rfl, hIx _ _ _ _ (by omega) (Nat.le_refl _) h6, World.putObj_heap_same hl3, ?_⟩⟩
      rw [hother _ _ _ (by omega), h4, hother _ _ _ (by omega)]; exact hda
    | exit id => exact (hp : False).elim
    | goto t => exact (hp : False).elim
    | panic ch => exact (hp : False).elim
    | outgrown => exact (hp : False).elim
  · -- behind the iterator
    rintro e W2 ⟨⟨v, rfl⟩, (⟨xs, hS, hi, hl, hd⟩ | ⟨pre, hSp, hi, hl, hd⟩)⟩
    · exact ⟨none, _, run_endLoop (P := P) hl (by simp [rec0]), hdone xs _ hS (hI _ _ _ _ (by omega) (Nat.le_refl _) hi) ((World.putObj_heap_other (by omega)).trans hd)⟩
    · exact ⟨some .ret, _, run_endLoop (P := P) hl (by simp [rec0]), hstop pre _ hSp (hIx _ _ _ _ (by omega) (Nat.le_refl _) hi) ((World.putObj_heap_other (by omega)).trans hd)⟩
/-- Appending a list that was just built, within a round. -/
theorem wpListIn_appL {F : Fence} {n : Nat} {w : World} {ops : Array Oper} {rest : List Oper} {o : Oper} {a : Act} {Q : Exit → Act → World → Prop} {s e k bytes : Nat} {z : Value} (T : RowT s e k bytes z) (sOp xOp : Operand) (ho : o.op = .call { callee := .builtin .append, args := #[sOp, xOp], argTypes := #[s, s] }) (hgd : o.guard = none)
    (base : Nat) (V : Option Addr) (m c0 : Nat) (vs : List Value) (hs : a.eval sOp = .slice V m c0) (hown : OwnR w base e k V m c0 vs)
    (g nn c : Nat) (cs : Array Value) (mk : Nat × Nat) (hx : a.eval xOp = .slice (some ⟨g, 0, none⟩) nn c) (hg : w.heap[g]? = some (.cells cs e mk)) (hl : cs.size = nn * k) (h1 : ∀ u ∈ cs.toList, u.oneCell' = true)
    (hlim : m + nn ≤ maxLen) (hbytes : (m + nn) * bytes ≤ 140737488355328) (hbase : base ≤ w.heap.size)
    (h : ∀ V' c' w', OwnR w' base e k V' (m + nn) c' (vs ++ cs.toList) → w.grownBy w' (blk V) → wpListIn F n Tryd.prog ops Q rest (a.put o.dst (.slice V' (m + nn) c')) w') : wpListIn F n Tryd.prog ops Q (o :: rest) a w := by
  obtain ⟨i, hi, hz0, hz1, hz2⟩ := info_parts T.info
  refine wpListIn_append_own w hgd sOp xOp s ho base e i z k bytes T.und hi hz0 hz1 hz2 T.zs T.pos (.slice V m c0) m vs hs hown ⟨g, 0, none⟩ nn c cs.toList hx (by simpa using hl) (cells_lit w g cs e mk hg) h1 hlim hbytes hbase fun v' w' h2 h3 _ => ?_
  rw [blk_own] at h3
  have hsh : ∃ V' c', v' = .slice V' (m + nn) c' := by
    rcases h2.2 with ⟨rfl, hn⟩ | ⟨g, cap, cur, rfl, _⟩
    · exact ⟨none, 0, by rw [hn]⟩
    · exact ⟨_, _, rfl⟩
  obtain ⟨V', c', rfl⟩ := hsh
  exact h V' c' w' h2 h3
theorem wpIn_nm {F : Fence} {n : Nat} {c : Code} {P : Program} {Q : Exit → Act → World → Prop} {a : Act} {w : World} (h : ∀ W, w = W → c.wpIn F n P Q a W) : c.wpIn F n P Q a w := h w rfl
/-- Loading a variable of one cell. -/
theorem LV.one {P : Program} {w : World} {ty : TypeId} {g : Nat} {v : Value} (hc : w.cell? ⟨g, 0, none⟩ = some v) (ha : ∀ w, (isAgg ty).run P w = .ok false w) : LV P w ty (.pointer (some ⟨g, 0, none⟩)) v := by
  refine ⟨⟨g, 0, none⟩, w, by simp [asAddr], ?_⟩
  simp [loadVar, Sem.run_bind, ha, Result.andThen, go_sem, hc]
end Go.Proofs.YtbplchpbaonadaaDoor
