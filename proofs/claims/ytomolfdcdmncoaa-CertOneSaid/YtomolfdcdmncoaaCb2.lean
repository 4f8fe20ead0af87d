/-
  A range over a function, where the iterator keeps state in a block of its own: one law.
-/
import Derived.Test.YtomolfdcdmncoaaCb1
import Derived.RangeFuncNested
import Derived.RangeFuncBound
import Derived.RangeFuncCalls
import Derived.RangeFuncLeaves
import Derived.Shelf.Abstract
import Derived.WalkKit
import Derived.OwnWalkIn
import Derived.TacticsInMore
import Derived.LoopNIn
import Derived.LoopIn
import Derived.Test.YtomolfdcdmncoaaProg
import Derived.RegionTactic
import Derived.Orders
import Derived.Deep.AppendLies
import Derived.Deep.RegionHeldLaw
namespace Go.Proofs.Ytomolfdcdmncoaa
open Go.RowKit Go
set_option linter.unusedVariables false
set_option maxRecDepth 100000
/-- How a round is left: off its end, or by a return; the record's block and the block of the calls that wait are as they were, and so is each block that rounds leave alone. -/
def RoundEnd {α : Type} (D : Nat) (K : Nat → Prop) (I Ix : List α → World → Prop) (o : Obj) (xs : List α) (W : World) : Exit → Act → World → Prop
  | .normal, _, W' => W'.heap[D + 1]? = some o ∧ W'.heap[D]? = W.heap[D]? ∧ (∀ b, K b → W'.heap[b]? = W.heap[b]?) ∧ I xs W'
  | .ret, _, W' => W'.heap[D + 1]? = some o ∧ W'.heap[D]? = W.heap[D]? ∧ Ix xs W'
  | _, _, _ => False
/-- What the iterator is handed: Y between two rounds, Z behind one that wants no more. -/
def IterOf {α : Type} (P : Program) (n D gf : Nat) (lb : Array Value) (encs : α → Array Value) (K : Nat → Prop) (I : List α → World → Prop) (S Sp : List α → Prop) (N : Nat) : Prop :=
  ∀ (Y Z : List α → World → Prop), (∀ pre W, Y pre W → I pre W) →
    (∀ pre W W', Y pre W → I pre W' → W'.heap[D]? = W.heap[D]? → W'.heap[D + 1]? = W.heap[D + 1]? → Y pre W') →
    (∀ pre x W, Y pre W → pre.length < N → YieldAt Fence.wide (n - 1 - 1) P (D + 1) (encs x) W fun e W' =>
      (e = .returned (.bool true) ∧ Y (pre ++ [x]) W' ∧ ∀ b, K b → W'.heap[b]? = W.heap[b]?) ∨ (e = .returned (.bool false) ∧ Z (pre ++ [x]) W')) →
    (∀ pre W, Y pre W → (∃ o, W.heap[D]? = some (.deferred o)) ∧ ∃ r, W.heap[D + 1]? = some (.loop r)) →
    ∀ W1 : World, Y [] W1 →
    CallsIn Fence.wide (n - 1) P gf (#[.func (.yield (D + 1)) #[] #[]] ++ lb) W1 fun e W' => (∃ v, e = .returned v) ∧ ((∃ xs, S xs ∧ Y xs W') ∨ (∃ pre, Sp pre ∧ Z pre W'))
theorem range_run {α : Type} {P : Program} {n : Nat} {g : Operand} {ps : Array Tmp} {assign body : Code} {Q : Exit → Act → World → Prop} {a : Act} {w : World}
    {gf : Nat} {lb : Array Value} (hg : a.eval g = .func (.func gf) #[] lb) (eg : ∀ args w, (callFunc gf args).run P w = .ok (.enter gf args) w) (h1 : 1 ≤ n)
    (encs : α → Array Value) (hps : ∀ x, (encs x).size = ps.size) (K : Nat → Prop) (hK : ∀ b, K b → b < w.heap.size)
    (I Ix : List α → World → Prop) (S Sp : List α → Prop) (N : Nat)
    (hI : ∀ pre (W : World) b (o : Obj), w.heap.size ≤ b → b ≤ w.heap.size + 1 → I pre W → I pre (W.putObj b o))
    (hIx : ∀ pre (W : World) b (o : Obj), w.heap.size ≤ b → b ≤ w.heap.size + 1 → Ix pre W → Ix pre (W.putObj b o))
    (h0 : ∀ o1 o2, I [] ((w.alloc o1).alloc o2))
    (hround : ∀ pre x (W : World) r o, W.heap[w.heap.size + 1]? = some (.loop r) → W.heap[w.heap.size]? = some (.deferred o) → I pre W → pre.length < N →
      assign.wpIn (Fence.wide.inRound (w.heap.size + 1)) (n - 1 - 1) P (Exit.then (fun a1 W1 => W1.heap[w.heap.size + 1]? = some (.loop r) ∧ W1.heap[w.heap.size]? = some (.deferred o) ∧ (∀ b, K b → W1.heap[b]? = W.heap[b]?) ∧
          ∀ r', body.wpIn (Fence.wide.inRound (w.heap.size + 1)) (n - 1 - 1) P (RoundEnd w.heap.size K I Ix (.loop r') (pre ++ [x]) (W1.putObj (w.heap.size + 1) (.loop r'))) a1 (W1.putObj (w.heap.size + 1) (.loop r'))) (fun _ _ _ => False))
        { tmps := (ps.zip (encs x)).foldl (fun t (p, v) => t.setIfInBounds p v) a.tmps, defers := [] } W)
    (hiter : IterOf P n w.heap.size gf lb encs K I S Sp N)
    (hdone : ∀ (xs : List α) (W : World), S xs → I xs W → W.heap[w.heap.size]? = some (.deferred (some [])) → Q .normal { a with defers := { target := .collected w.heap.size, args := #[] } :: a.defers } W)
    (hstop : ∀ (pre : List α) (W : World), Sp pre → Ix pre W → W.heap[w.heap.size]? = some (.deferred (some [])) → Code.ret.wpIn Fence.wide n P Q { a with defers := { target := .collected w.heap.size, args := #[] } :: a.defers } W) :
    (Code.rangeFunc g ps assign body).wpIn Fence.wide n P Q a w := by
  refine wpIn_rangeFunc fun fn hfn => ?_
  let rec0 : LoopState → Option Code → Loop := fun st pe => { state := st, pending := pe, fn := fn, tmps := a.tmps, params := ps, assign := assign, body := body, defers := w.heap.size }
  let W1 := (w.alloc (.deferred (some []))).alloc (.loop (rec0 .ready none))
  have hL1 : W1.heap[w.heap.size + 1]? = some (.loop (rec0 .ready none)) := has_new' _ _ _ (by simp)
  have hD1 : W1.heap[w.heap.size]? = some (.deferred (some [])) := has_alloc (has_new w _) _
  refine ⟨w.heap.size + 1, [{ target := .collected w.heap.size, args := #[] }], W1, { target := .fn (.func gf) lb, args := #[.func (.yield (w.heap.size + 1)) #[] #[]] }, W1, gf,
    #[.func (.yield (w.heap.size + 1)) #[] #[]] ++ lb, W1, run_enterLoop_outer _ _ _ _ _, ?_, fun _ _ => trivial, ?_, fun _ => h1, ?_⟩
  · simp only [resolve, hg]
    simp [go_sem]
  · simp [invoke, go_sem, eg]
  refine (hiter
    (fun pre W => I pre W ∧ W.heap[w.heap.size + 1]? = some (.loop (rec0 .ready none)) ∧ W.heap[w.heap.size]? = some (.deferred (some [])))
    (fun pre W => Ix pre W ∧ W.heap[w.heap.size + 1]? = some (.loop (rec0 .done (some .ret))) ∧ W.heap[w.heap.size]? = some (.deferred (some [])))
    (fun _ _ h => h.1) (fun pre W W' h hi hd hl => ⟨hi, hl.trans h.2.1, hd.trans h.2.2⟩) ?_ (fun _ _ h => ⟨⟨_, h.2.2⟩, ⟨_, h.2.1⟩⟩) W1 ⟨h0 _ _, hL1, hD1⟩).mono ?_
  · -- one round
    rintro pre x W ⟨hi, hl, hd⟩ hlen
    refine ⟨fn, _, assign, body, run_yield (P := P) (args := encs x) hl (hps x), roundIn_of_wpIn hfn (wpIn_mono (hround pre x W _ _ hl hd hi hlen) ?_)⟩
    intro e a1 Wa hp
    cases e <;> simp only [Exit.then] at hp ⊢
    obtain ⟨hla, hda, hka, hb⟩ := hp
    refine ⟨_, run_beginRound hla rfl, ?_⟩
    have hlt : w.heap.size + 1 < Wa.heap.size := (Array.getElem?_eq_some_iff.1 hla).1
    refine wpIn_mono (hb _) ?_
    intro e a3 W3 hp
    have hother : ∀ (V : World) (o : Obj) b, b < w.heap.size + 1 → (V.putObj (w.heap.size + 1) o).heap[b]? = V.heap[b]? := fun V o b hb => World.putObj_heap_other (by omega)
    cases e with
    | normal =>
      obtain ⟨h3, h4, h5, h6⟩ := hp
      have hl3 := (Array.getElem?_eq_some_iff.1 h3).1
      refine ⟨_, _, run_endRound none h3, .inl ⟨rfl, ⟨hI _ _ _ _ (by omega) (Nat.le_refl _) h6, World.putObj_heap_same hl3, ?_⟩, fun b hb => ?_⟩⟩
      · rw [hother _ _ _ (by omega), h4, hother _ _ _ (by omega)]; exact hda
      · have := hK b hb
        rw [hother _ _ _ (by omega), h5 b hb, hother _ _ _ (by omega)]; exact hka b hb
    | ret =>
      obtain ⟨h3, h4, h6⟩ := hp
      have hl3 := (Array.getElem?_eq_some_iff.1 h3).1
      refine ⟨_, _, run_endRound (some .ret) h3, .inr ⟨rfl, hIx _ _ _ _ (by omega) (Nat.le_refl _) h6, World.putObj_heap_same hl3, ?_⟩⟩
      rw [hother _ _ _ (by omega), h4, hother _ _ _ (by omega)]; exact hda
    | exit id => exact (hp : False).elim
    | goto t => exact (hp : False).elim
    | panic ch => exact (hp : False).elim
    | outgrown => exact (hp : False).elim
  · -- behind the iterator
    rintro e W2 ⟨⟨v, rfl⟩, (⟨xs, hS, hi, hl, hd⟩ | ⟨pre, hSp, hi, hl, hd⟩)⟩
    · exact ⟨none, _, run_endLoop (P := P) hl (by simp [rec0]), hdone xs _ hS (hI _ _ _ _ (by omega) (Nat.le_refl _) hi) ((World.putObj_heap_other (by omega)).trans hd)⟩
    · exact ⟨some .ret, _, run_endLoop (P := P) hl (by simp [rec0]), hstop pre _ hSp (hIx _ _ _ _ (by omega) (Nat.le_refl _) hi) ((World.putObj_heap_other (by omega)).trans hd)⟩
/-- Appending a list that was just built, within a round. -/
theorem wpListIn_appL {F : Fence} {n : Nat} {w : World} {ops : Array Oper} {rest : List Oper} {o : Oper} {a : Act} {Q : Exit → Act → World → Prop} {s e k bytes : Nat} {z : Value} (T : RowT s e k bytes z) (sOp xOp : Operand) (ho : o.op = .call { callee := .builtin .append, args := #[sOp, xOp], argTypes := #[s, s] }) (hgd : o.guard = none)
    (base : Nat) (V : Option Addr) (m c0 : Nat) (vs : List Value) (hs : a.eval sOp = .slice V m c0) (hown : OwnR w base e k V m c0 vs)
    (g nn c : Nat) (cs : Array Value) (mk : Nat × Nat) (hx : a.eval xOp = .slice (some ⟨g, 0, none⟩) nn c) (hg : w.heap[g]? = some (.cells cs e mk)) (hl : cs.size = nn * k) (h1 : ∀ u ∈ cs.toList, u.oneCell' = true)
    (hlim : m + nn ≤ maxLen) (hbytes : (m + nn) * bytes ≤ 140737488355328) (hbase : base ≤ w.heap.size)
    (h : ∀ V' c' w', OwnR w' base e k V' (m + nn) c' (vs ++ cs.toList) → w.grownBy w' (blk V) → wpListIn F n Try.prog ops Q rest (a.put o.dst (.slice V' (m + nn) c')) w') : wpListIn F n Try.prog ops Q (o :: rest) a w := by
  obtain ⟨i, hi, hz0, hz1, hz2⟩ := info_parts T.info
  refine wpListIn_append_own w hgd sOp xOp s ho base e i z k bytes T.und hi hz0 hz1 hz2 T.zs T.pos (.slice V m c0) m vs hs hown ⟨g, 0, none⟩ nn c cs.toList hx (by simpa using hl) (cells_lit w g cs e mk hg) h1 hlim hbytes hbase fun v' w' h2 h3 _ => ?_
  rw [blk_own] at h3
  have hsh : ∃ V' c', v' = .slice V' (m + nn) c' := by
    rcases h2.2 with ⟨rfl, hn⟩ | ⟨g, cap, cur, rfl, _⟩
    · exact ⟨none, 0, by rw [hn]⟩
    · exact ⟨_, _, rfl⟩
  obtain ⟨V', c', rfl⟩ := hsh
  exact h V' c' w' h2 h3
theorem wpIn_nm {F : Fence} {n : Nat} {c : Code} {P : Program} {Q : Exit → Act → World → Prop} {a : Act} {w : World} (h : ∀ W, w = W → c.wpIn F n P Q a W) : c.wpIn F n P Q a w := h w rfl
/-- Loading a variable of one cell. -/
theorem LV.one {P : Program} {w : World} {ty : TypeId} {g : Nat} {v : Value} (hc : w.cell? ⟨g, 0, none⟩ = some v) (ha : ∀ w, (isAgg ty).run P w = .ok false w) : LV P w ty (.pointer (some ⟨g, 0, none⟩)) v := by
  refine ⟨⟨g, 0, none⟩, w, by simp [asAddr], ?_⟩
  simp [loadVar, Sem.run_bind, ha, Result.andThen, go_sem, hc]
end Go.Proofs.Ytomolfdcdmncoaa
namespace Go.Proofs.Ytomolfdcdmncoaa
open Go
set_option linter.unusedVariables false
theorem cnt_set : ∀ (l : List Bool) (i : Nat), l[i]? = some false → (l.set i true).count false + 1 = l.count false
  | [], i, h => by simp at h
  | b :: l, 0, h => by
    have hb : b = false := by simpa using h
    subst hb
    simp
  | b :: l, i + 1, h => by
    have ih := cnt_set l i (by simpa using h)
    cases b <;> simp <;> omega
theorem getD_lt {l : Array Bool} {j : Nat} (h : j < l.size) (b c : Bool) : l.getD j b = l.getD j c := by
  simp [Array.getD, h]
/-- Every operation waits for elder ones alone. -/
def edgesBack (ops : Array Oper) : Bool := (List.range ops.size).all fun i => match ops[i]? with | some o => o.after.all fun e => decide (e.on < i) | none => true
theorem ready_nil_all {md : Region.Mode} {ops : Array Oper} (he : edgesBack ops = true) {listed : Array Bool} (hsz : listed.size = ops.size) (hr : Region.ready md ops listed = []) : ∀ j, j < ops.size → listed.getD j false = true := by
  intro j
  induction j using Nat.strongRecOn with
  | ind j ih =>
    intro hj
    cases hb : listed.getD j false with
    | true => rfl
    | false =>
      exfalso
      have hmem : j ∈ Region.ready md ops listed := by
        unfold Region.ready
        rw [List.mem_filter]
        refine ⟨List.mem_range.2 hj, ?_⟩
        have h1 : listed.getD j true = false := by rw [getD_lt (by omega) true false]; exact hb
        have h2 := List.all_eq_true.1 he j (List.mem_range.2 hj)
        rw [Array.getElem?_eq_getElem hj] at h2 ⊢
        simp only [h1, Bool.not_false, Bool.true_and, Option.map_some, Option.getD_some]
        rw [Array.all_eq_true_iff_forall_mem] at h2 ⊢
        intro e hem
        have h3 := of_decide_eq_true (h2 e hem)
        rw [ih e.on h3 (by omega)]
        simp
      rw [hr] at hmem
      cases hmem
/-- What is known of an operation that comes up. -/
structure Comes (ops : Array Oper) (listed : Array Bool) (i : Nat) : Prop where
  size : listed.size = ops.size
  lt : i < ops.size
  not : listed.getD i false = false
  deps : ∀ o, ops[i]? = some o → (o.after.all fun e => !Region.binds .any e || listed.getD e.on false) = true
def depB (ops : Array Oper) (i j : Nat) : Bool := match ops[i]? with | some o => o.after.any (fun e => e.on == j && Region.binds .any e) | none => false
theorem Comes.dep {ops : Array Oper} {listed : Array Bool} {i : Nat} (h : Comes ops listed i) {j : Nat} (hj : depB ops i j = true) : listed.getD j false = true := by
  unfold depB at hj
  split at hj
  · rename_i o ho
    have h1 := h.deps o ho
    rw [Array.any_eq_true'] at hj
    obtain ⟨e, he, h2⟩ := hj
    rw [Array.all_eq_true_iff_forall_mem] at h1
    have h3 := h1 e he
    simp only [Bool.and_eq_true, beq_iff_eq] at h2
    rw [h2.2, h2.1] at h3
    simpa using h3
  · cases hj
theorem wpAny_inv {P : Program} {ops : Array Oper} {Q : Exit → Act → World → Prop} (he : edgesBack ops = true) (I : Array Bool → Act → World → Prop)
    (hs : ∀ listed a w i, I listed a w → Comes ops listed i → wpOp P ops Q i (I (listed.setIfInBounds i true)) a w)
    (hf : ∀ listed a w, I listed a w → listed.size = ops.size → (∀ j, j < ops.size → listed.getD j false = true) → Q .normal a w) :
    ∀ (fuel : Nat) (listed : Array Bool) (a : Act) (w : World), listed.size = ops.size → listed.toList.count false ≤ fuel → I listed a w → wpAny P .any ops Q fuel listed a w := by
  intro fuel
  induction fuel with
  | zero =>
    intro listed a w hsz hc hI
    have hall : ∀ j, j < ops.size → listed.getD j false = true := fun j hj => by
      have hj2 : j < listed.size := by omega
      cases hb : listed.getD j false with
      | true => rfl
      | false =>
        exfalso
        have h1 : listed.toList[j]? = some false := by
          rw [Array.getElem?_toList, Array.getElem?_eq_getElem hj2]
          have : listed.getD j false = listed[j] := by simp [Array.getD, hj2]
          rw [← this, hb]
        have := cnt_set _ _ h1
        omega
    refine ⟨?_, hf listed a w hI hsz hall⟩
    unfold Region.ready
    rw [List.filter_eq_nil_iff]
    intro j hj
    have hj := List.mem_range.1 hj
    have h1 : listed.getD j true = true := by rw [getD_lt (by omega) true false]; exact hall j hj
    simp [h1]
  | succ fuel ih =>
    intro listed a w hsz hc hI
    refine ⟨fun hr => hf listed a w hI hsz (ready_nil_all he hsz hr), fun i hi => ?_⟩
    unfold Region.ready at hi
    rw [List.mem_filter] at hi
    obtain ⟨h1, h2⟩ := hi
    have hlt := List.mem_range.1 h1
    simp only [Bool.and_eq_true, Bool.not_eq_true'] at h2
    have hun : listed.getD i false = false := by rw [getD_lt (by omega) false true]; exact h2.1
    have hC : Comes ops listed i := ⟨hsz, hlt, hun, fun o ho => by
      have h3 := h2.2
      rw [ho] at h3
      simpa using h3⟩
    refine wpOp_mono (fun a' w' hI' => ih _ a' w' (by simpa using hsz) ?_ hI') (hs listed a w i hI hC)
    have hj2 : i < listed.size := by omega
    have h4 : listed.toList[i]? = some false := by
      rw [Array.getElem?_toList, Array.getElem?_eq_getElem hj2]
      have : listed.getD i false = listed[i] := by simp [Array.getD, hj2]
      rw [← this, hun]
    have h5 := cnt_set _ _ h4
    rw [Array.toList_setIfInBounds]
    omega
theorem wp_region_inv {P : Program} {id : Nat} {ops : Array Oper} {Q : Exit → Act → World → Prop} {a : Act} {w : World} (hm : P.follows .mixedOrders = true) (he : edgesBack ops = true) (I : Array Bool → Act → World → Prop)
    (h0 : I (Array.replicate ops.size false) a w.drew)
    (hs : ∀ listed a w i, I listed a w → Comes ops listed i → wpOp P ops Q i (I (listed.setIfInBounds i true)) a w)
    (hf : ∀ listed a w, I listed a w → listed.size = ops.size → (∀ j, j < ops.size → listed.getD j false = true) → Q .normal a w) : (Code.region id ops true).wp P Q a w :=
  wp_region_any hm (wpAny_inv he I hs hf _ _ _ _ (by simp) (by simp) h0)
end Go.Proofs.Ytomolfdcdmncoaa
namespace Go.Proofs.Ytomolfdcdmncoaa
open Go.RowKit Go
set_option linter.unusedVariables false
theorem step_appR {s e k bytes : _} {z : Value} (T : RowT s e k bytes z) {w : World} {ops : Array Oper} {o : Oper} {a : Act} {K : Act → World → Prop} {Q : Exit → Act → World → Prop} {E : Prop} (hgd : o.guard = none) (sOp xOp : Operand)
    (ho : o.op = .call { callee := .builtin .append, args := #[sOp, xOp], argTypes := #[s, s] })
    (base : Nat) (V : Option Addr) (m c0 : Nat) (vs : List Value) (hs : a.eval sOp = .slice V m c0) (hown : OwnR w base e k V m c0 vs)
    (ad : Addr) (nn c : Nat) (news : List Value) (hx : a.eval xOp = .slice (some ad) nn c) (hl : news.length = nn * k) (hnews : ∀ (j : Nat) (u : Value), news[j]? = some u → w.cell? (ad.add j) = some u) (h1 : ∀ u ∈ news, u.oneCell' = true)
    (hm : 0 < nn) (hlim : m + nn ≤ maxLen) (hbytes : (m + nn) * bytes ≤ 140737488355328) (hbase : base ≤ w.heap.size)
    (h : ∀ g c' w', OwnR w' base e k (some ⟨g, 0, none⟩) (m + nn) c' (vs ++ news) → w.grownBy w' (blk V) → (blk V = some g ∨ g = w.heap.size) → K (a.put o.dst (.slice (some ⟨g, 0, none⟩) (m + nn) c')) w') :
    if Region.wanted o (yielded ops a.tmps) = true then Oper.wp Try.prog o a w K Q else E := by
  obtain ⟨i, hi, hz0, hz1, hz2⟩ := info_parts T.info
  refine step_append_lies w hgd sOp xOp s ho base e i z k bytes T.und hi hz0 hz1 hz2 T.zs T.pos (.slice V m c0) m vs hs hown ad nn c news hx hl hnews h1 hm hlim hbytes hbase w.heap.size rfl fun g cap w' h2 h3 h4 _ => h g cap w' h2 ?_ ?_
  · rw [blk_own] at h3; exact h3
  · rw [blk_own] at h4; exact h4
end Go.Proofs.Ytomolfdcdmncoaa
