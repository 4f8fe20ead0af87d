/-
  A range over a function: what the iterator says of each element in the world in which it hands it out, and what it says at its end of the world that it leaves.
-/
import Derived.Test.YtcedojmhgmgcgaaGreatDoorRg
import Derived.Test.YtcedojmhgmgcgaaGreatDoorMp1
import Derived.Test.YtcedojmhgmgcgaaGreatDoorMp1
import Derived.Test.YtcedojmhgmgcgaaGreatDoorFam
import Derived.StillTailTactics
import Derived.Deep.RegionHeld3
namespace Go.Proofs.YtcedojmhgmgcgaaGreatDoor
open Go.RowKit Go
set_option linter.unusedVariables false
set_option maxRecDepth 100000
/-- What the iterator is handed: Y between two rounds, Z behind one that wants no more. -/
def IterQ {α : Type} (P : Program) (n D gf : Nat) (lb : Array Value) (encs : α → Array Value) (K : Nat → Prop) (Qx : List α → α → World → Prop) (I : List α → World → Prop) (S : List α → World → Prop) (Sp : List α → Prop) (N : Nat) : Prop :=
  ∀ (Y Z : List α → World → Prop), (∀ pre W, Y pre W → I pre W) →
    (∀ pre W W', Y pre W → I pre W' → W'.heap[D]? = W.heap[D]? → W'.heap[D + 1]? = W.heap[D + 1]? → Y pre W') →
    (∀ pre x W, Y pre W → Qx pre x W → pre.length < N → YieldAt Fence.wide (n - 1 - 1) P (D + 1) (encs x) W fun e W' =>
      (e = .returned (.bool true) ∧ Y (pre ++ [x]) W' ∧ ∀ b, K b → W'.heap[b]? = W.heap[b]?) ∨ (e = .returned (.bool false) ∧ Z (pre ++ [x]) W')) →
    (∀ pre W, Y pre W → (∃ o, W.heap[D]? = some (.deferred o)) ∧ ∃ r, W.heap[D + 1]? = some (.loop r)) →
    ∀ W1 : World, Y [] W1 →
    CallsIn Fence.wide (n - 1) P gf (#[.func (.yield (D + 1)) #[] #[]] ++ lb) W1 fun e W' => (∃ v, e = .returned v) ∧ ((∃ xs, S xs W' ∧ Y xs W') ∨ (∃ pre, Sp pre ∧ Z pre W'))
theorem range_runQ {α : Type} {P : Program} {n : Nat} {g : Operand} {ps : Array Tmp} {assign body : Code} {Q : Exit → Act → World → Prop} {a : Act} {w : World}
    {gf : Nat} {lb : Array Value} (hg : a.eval g = .func (.func gf) #[] lb) (eg : ∀ args w, (callFunc gf args).run P w = .ok (.enter gf args) w) (h1 : 1 ≤ n)
    (encs : α → Array Value) (hps : ∀ x, (encs x).size = ps.size) (K : Nat → Prop) (hK : ∀ b, K b → b < w.heap.size)
    (Qx : List α → α → World → Prop) (I Ix : List α → World → Prop) (S : List α → World → Prop) (Sp : List α → Prop) (N : Nat)
    (hS : ∀ xs (W : World) b (o : Obj), w.heap.size ≤ b → b ≤ w.heap.size + 1 → S xs W → S xs (W.putObj b o))
    (hI : ∀ pre (W : World) b (o : Obj), w.heap.size ≤ b → b ≤ w.heap.size + 1 → I pre W → I pre (W.putObj b o))
    (hIx : ∀ pre (W : World) b (o : Obj), w.heap.size ≤ b → b ≤ w.heap.size + 1 → Ix pre W → Ix pre (W.putObj b o))
    (h0 : ∀ o1 o2, I [] ((w.alloc o1).alloc o2))
    (hround : ∀ pre x (W : World) r o, W.heap[w.heap.size + 1]? = some (.loop r) → W.heap[w.heap.size]? = some (.deferred o) → I pre W → Qx pre x W → pre.length < N →
      assign.wpIn (Fence.wide.inRound (w.heap.size + 1)) (n - 1 - 1) P (Exit.then (fun a1 W1 => W1.heap[w.heap.size + 1]? = some (.loop r) ∧ W1.heap[w.heap.size]? = some (.deferred o) ∧ (∀ b, K b → W1.heap[b]? = W.heap[b]?) ∧
          ∀ r', body.wpIn (Fence.wide.inRound (w.heap.size + 1)) (n - 1 - 1) P (RoundEnd w.heap.size K I Ix (.loop r') (pre ++ [x]) (W1.putObj (w.heap.size + 1) (.loop r'))) a1 (W1.putObj (w.heap.size + 1) (.loop r'))) (fun _ _ _ => False))
        { tmps := (ps.zip (encs x)).foldl (fun t (p, v) => t.setIfInBounds p v) a.tmps, defers := [] } W)
    (hiter : IterQ P n w.heap.size gf lb encs K Qx I S Sp N)
    (hdone : ∀ (xs : List α) (W : World), S xs W → I xs W → W.heap[w.heap.size]? = some (.deferred (some [])) → Q .normal { a with defers := { target := .collected w.heap.size, args := #[] } :: a.defers } W)
    (hstop : ∀ (pre : List α) (W : World), Sp pre → Ix pre W → W.heap[w.heap.size]? = some (.deferred (some [])) → Code.ret.wpIn Fence.wide n P Q { a with defers := { target := .collected w.heap.size, args := #[] } :: a.defers } W) :
    (Code.rangeFunc g ps assign body).wpIn Fence.wide n P Q a w := by
  refine wpIn_rangeFunc fun fn hfn => ?_
  let rec0 : LoopState → Option Code → Loop := fun st pe => { state := st, pending := pe, fn := fn, tmps := a.tmps, params := ps, assign := assign, body := body, defers := w.heap.size }
  let W1 := (w.alloc (.deferred (some []))).alloc (.loop (rec0 .ready none))
  have hL1 : W1.heap[w.heap.size + 1]? = some (.loop (rec0 .ready none)) := has_new' _ _ _ (by simp)
  have hD1 : W1.heap[w.heap.size]? = some (.deferred (some [])) := has_alloc (has_new w _) _
  refine ⟨w.heap.size + 1, [{ target := .collected w.heap.size, args := #[] }], W1, { target := .fn (.func gf) lb, args := #[.func (.yield (w.heap.size + 1)) #[] #[]] }, W1, gf,
    #[.func (.yield (w.heap.size + 1)) #[] #[]] ++ lb, W1, run_enterLoop_outer _ _ _ _ _, ?_, fun _ _ => trivial, ?_, fun _ => h1, ?_⟩
  · simp only [resolve, hg]
    simp [go_sem]
  · simp [invoke, go_sem, eg]
  refine (hiter
    (fun pre W => I pre W ∧ W.heap[w.heap.size + 1]? = some (.loop (rec0 .ready none)) ∧ W.heap[w.heap.size]? = some (.deferred (some [])))
    (fun pre W => Ix pre W ∧ W.heap[w.heap.size + 1]? = some (.loop (rec0 .done (some .ret))) ∧ W.heap[w.heap.size]? = some (.deferred (some [])))
    (fun _ _ h => h.1) (fun pre W W' h hi hd hl => ⟨hi, hl.trans h.2.1, hd.trans h.2.2⟩) ?_ (fun _ _ h => ⟨⟨_, h.2.2⟩, ⟨_, h.2.1⟩⟩) W1 ⟨h0 _ _, hL1, hD1⟩).mono ?_
  · -- one round
    rintro pre x W ⟨hi, hl, hd⟩ hq hlen
    refine ⟨fn, _, assign, body, run_yield (P := P) (args := encs x) hl (hps x), roundIn_of_wpIn hfn (wpIn_mono (hround pre x W _ _ hl hd hi hq hlen) ?_)⟩
    intro e a1 Wa hp
    cases e <;> simp only [Exit.then] at hp ⊢
    obtain ⟨hla, hda, hka, hb⟩ := hp
    refine ⟨_, run_beginRound hla rfl, ?_⟩
    have hlt : w.heap.size + 1 < Wa.heap.size := (Array.getElem?_eq_some_iff.1 hla).1
    refine wpIn_mono (hb _) ?_
    intro e a3 W3 hp
    have hother : ∀ (V : World) (o : Obj) b, b < w.heap.size + 1 → (V.putObj (w.heap.size + 1) o).heap[b]? = V.heap[b]? := fun V o b hb => World.putObj_heap_other (by omega)
    cases e with
    | normal =>
      obtain ⟨h3, h4, h5, h6⟩ := hp
      have hl3 := (Array.getElem?_eq_some_iff.1 h3).1
      refine ⟨_, _, run_endRound none h3, .inl ⟨rfl, ⟨hI _ _ _ _ (by omega) (Nat.le_refl _) h6, World.putObj_heap_same hl3, ?_⟩, fun b hb => ?_⟩⟩
      · rw [hother _ _ _ (by omega), h4, hother _ _ _ (by omega)]; exact hda
      · have := hK b hb
        rw [hother _ _ _ (by omega), h5 b hb, hother _ _ _ (by omega)]; exact hka b hb
    | ret =>
      obtain ⟨h3, h4, h6⟩ := hp
      have hl3 := (Array.getElem?_eq_some_iff.1 h3).1
      refine ⟨_, _, run_endRound (some .ret) h3, .inr ⟨rfl, hIx _ _ _ _ (by omega) (Nat.le_refl _) h6, World.putObj_heap_same hl3, ?_⟩⟩
      rw [hother _ _ _ (by omega), h4, hother _ _ _ (by omega)]; exact hda
    | exit id => exact (hp : False).elim
    | goto t => exact (hp : False).elim
    | panic ch => exact (hp : False).elim
    | outgrown => exact (hp : False).elim
  · -- behind the iterator
    rintro e W2 ⟨⟨v, rfl⟩, (⟨xs, hS9, hi, hl, hd⟩ | ⟨pre, hSp, hi, hl, hd⟩)⟩
    · exact ⟨none, _, run_endLoop (P := P) hl (by simp [rec0]), hdone xs _ (hS _ _ _ _ (by omega) (Nat.le_refl _) hS9) (hI _ _ _ _ (by omega) (Nat.le_refl _) hi) ((World.putObj_heap_other (by omega)).trans hd)⟩
    · exact ⟨some .ret, _, run_endLoop (P := P) hl (by simp [rec0]), hstop pre _ hSp (hIx _ _ _ _ (by omega) (Nat.le_refl _) hi) ((World.putObj_heap_other (by omega)).trans hd)⟩
end Go.Proofs.YtcedojmhgmgcgaaGreatDoor
namespace Go.Proofs.YtcedojmhgmgcgaaGreatDoor
open Go.RowKit Go
set_option linter.unusedVariables false
set_option maxRecDepth 100000
attribute [local go_sem] Oper.semAt_some
def padQ (bs : List UInt8) (a : Nat) : Nat := (numQ bs a 4 + 7) / 8 * 8
/-- Is the row at a as it should be, but for what fills it up? -/
def rowOk (bs : List UInt8) (a : Nat) : Bool := inQ bs a 4 && (decide (9 ≤ numQ bs a 4) && decide (padQ bs a ≤ bs.length - a)) && (cut bs (a + 4) 4 == [0, 2, 2, 0])
def fillB (bs : List UInt8) (a : Nat) : Bool := (cut bs (a + numQ bs a 4) (padQ bs a - numQ bs a 4)).all fun q => q == 0
theorem rowOk_parts {bs : List UInt8} {a : Nat} (h : rowOk bs a = true) : a + 4 ≤ bs.length ∧ 9 ≤ numQ bs a 4 ∧ padQ bs a ≤ bs.length - a ∧ cut bs (a + 4) 4 = [0, 2, 2, 0] := by
  unfold rowOk inQ at h
  simp at h
  exact ⟨h.1.1, h.1.2.1, h.1.2.2, h.2⟩
theorem padQ_le (bs : List UInt8) (a : Nat) : numQ bs a 4 ≤ padQ bs a ∧ padQ bs a ≤ numQ bs a 4 + 7 := by unfold padQ; omega
/-- The signatures in the rows from a on. -/
def rowsQ (bs : List UInt8) (a : Nat) : Option (List (List UInt8)) :=
  if h : a < bs.length then
    if hr : rowOk bs a = true then if fillB bs a then (rowsQ bs (a + padQ bs a)).map (cut bs (a + 8) (numQ bs a 4 - 8) :: ·) else none else none
  else some []
termination_by bs.length - a
decreasing_by
  have h1 := rowOk_parts hr
  have h2 := padQ_le bs a
  omega
theorem rowsQ_end {bs : List UInt8} {a : Nat} (h : bs.length ≤ a) : rowsQ bs a = some [] := by
  unfold rowsQ
  rw [dif_neg (by omega)]
theorem rowsQ_no {bs : List UInt8} {a : Nat} (h : a < bs.length) (h2 : (rowOk bs a && fillB bs a) = false) : rowsQ bs a = none := by
  unfold rowsQ
  rw [dif_pos h]
  cases h3 : rowOk bs a with
  | false => rw [dif_neg (by simp)]
  | true =>
    rw [h3, Bool.true_and] at h2
    rw [dif_pos rfl, h2]
    rfl
theorem rowsQ_yes {bs : List UInt8} {a : Nat} (h : a < bs.length) (h2 : rowOk bs a = true) (h3 : fillB bs a = true) : rowsQ bs a = (rowsQ bs (a + padQ bs a)).map (cut bs (a + 8) (numQ bs a 4 - 8) :: ·) := by
  conv => lhs; unfold rowsQ
  rw [dif_pos h, dif_pos h2, if_pos h3]
theorem rb_cutP {w : World} {b off n c k : Nat} {bs : List UInt8} (h : RB w (some ⟨b, off, none⟩) n bs) (hnc : n ≤ c) (hk : k ≤ n) :
    RB w (if c = k then some ⟨b, off, none⟩ else some ⟨b, off + k, none⟩) (n - k) (bs.drop k) := by
  refine ⟨by rw [List.length_drop, h.1], ?_⟩
  by_cases e : c = k
  · rw [List.drop_of_length_le (by rw [h.1]; omega)]
    exact Bs.nil
  · rw [if_neg e]
    have h2 := h.2.drop_ k
    simp only [Option.map_some, Addr.add_lit] at h2
    exact h2
theorem rb_takeP {w : World} {A : Option Addr} {n k : Nat} {bs : List UInt8} (h : RB w A n bs) (hk : k ≤ n) : RB w A k (bs.take k) :=
  ⟨by rw [List.length_take, h.1]; omega, h.2.take_ k⟩
def sigEnc (x : Own1) : Array Value := #[x.val]
def boxI (b : Nat) (w : World) : Nat := match w.cell? ⟨b, 0, none⟩ with
  | some (.int _ k) => k.toNat
  | _ => 0
theorem boxI_of {w : World} {b : Nat} {k : IntKind} {a : Nat} {t : TypeId} (h : w.heap[b]? = some (.cells #[.int k (a : Int)] t)) : boxI b w = a := by
  unfold boxI
  rw [cells_1 h]
  simp
theorem rows_any (g : Nat) (at_ : Int) (w : World) :
    Calls Tryz.prog 56 #[.pointer (some ⟨g, 0, none⟩), .int .i64 at_] w fun e w' => e = .returned (.func (.func 76) #[] #[.pointer (some ⟨w.heap.size + 1, 0, none⟩), .pointer (some ⟨w.heap.size, 0, none⟩)]) ∧
      w' = (w.alloc (.cells #[.pointer (some ⟨g, 0, none⟩)] 65)).alloc (.cells #[.int .i64 at_] 3) := by
  go_enter Tryz.func56, Tryz.ntmps56
  go_wp2
  go_ret
  exact ⟨rfl, rfl⟩
/-- Where the iterator stands: between two rounds, or within one. -/
structure RI (w0 : World) (g : Nat) (A : Option Addr) (n c b1 b2 a0 : Nat) (bs : List UInt8) (Y : List Own1 → World → Prop) (pre : List Own1) (a : Nat) (R : Bool) (W : World) : Prop where
  y : Y pre W
  r : RdS w0 g A n c R W
  h1 : W.heap[b1]? = some (.cells #[.int .i64 (a : Int)] 3)
  h2 : W.heap[b2]? = some (.cells #[.pointer (some ⟨g, 0, none⟩)] 65)
  z : R = false → rowsQ bs a0 = none
  e : pre = [] → a = a0
set_option maxHeartbeats 2000000 in
theorem rows1_in (g n c D b1 b2 a0 : Nat) (A : Option Addr) (bs : List UInt8) (w0 : World) (hI : Img w0 A n c bs) (hw1 : w0.heap.size ≤ b1) (hw2 : w0.heap.size ≤ b2) (hne : b1 ≠ b2 ∧ b1 ≠ g ∧ b2 ≠ g) (hD1 : b1 < D) (hD2 : b2 < D) (hDg : g < D) (ha0 : a0 ≤ n)
    (I : List Own1 → World → Prop) (hIg : ∀ pre W W', I pre W → W.grownBy W' (some g) → I pre W') (hIs : ∀ pre W u, I pre W → I pre (W.setCell ⟨b1, 0, none⟩ u)) (hIn : ∀ pre W W', I pre W → Below W.heap.size W W' → I pre W')
    (hIb : ∀ pre W, I pre W → Below w0.heap.size w0 W)
    (hIo : ∀ pre W, I pre W → ∀ y ∈ pre, ∀ k, blk y.1 = some k → k < W.heap.size) :
    IterQ Tryz.prog 4 D 76 #[.pointer (some ⟨b1, 0, none⟩), .pointer (some ⟨b2, 0, none⟩)] sigEnc (fun b => b = b1 ∨ b = b2 ∨ b = g)
      (fun pre x W => OwnB W (D + 2) x.1 x.2.1 x.2.2.1 x.2.2.2 ∧ x.2.1 ≤ 16777216 ∧ ∀ y ∈ pre, blk y.1 = none ∨ blk y.1 ≠ blk x.1)
      (fun pre W => I pre W ∧ (pre = [] → W.heap[b1]? = some (.cells #[.int .i64 (a0 : Int)] 3) ∧ W.heap[b2]? = some (.cells #[.pointer (some ⟨g, 0, none⟩)] 65) ∧ ∃ R, RdS w0 g A n c R W ∧ (R = false → rowsQ bs a0 = none)))
      (fun xs W => ∃ R, RdS w0 g A n c R W ∧ (R = true → rowsQ bs a0 = some (xs.map fun x => x.2.2.2)) ∧ (R = false → rowsQ bs a0 = none)) (fun _ => True) (n + 1) := by
  intro Y Z hYI hYs hY hYb W1 hY0
  obtain ⟨k1, k2, R0, k3, k4⟩ := (hYI _ _ hY0).2 rfl
  have hnl := hI.r.1
  have hnb := hI.big
  have hnc := hI.nc
  have hcc := hI.cc
  have RI0 : Hid (RI w0 g A n c b1 b2 a0 bs Y [] a0 R0 W1) := ⟨hY0, k3, k1, k2, k4, fun _ => rfl⟩
  have GO : Hid (∀ pre a R R' W W', RI w0 g A n c b1 b2 a0 bs Y pre a R W → RdS w0 g A n c R' W' → W'.heap[b1]? = W.heap[b1]? → W'.heap[b2]? = W.heap[b2]? → W'.heap[D]? = W.heap[D]? → W'.heap[D + 1]? = W.heap[D + 1]? → I pre W' → (R' = false → rowsQ bs a0 = none) → RI w0 g A n c b1 b2 a0 bs Y pre a R' W') := by
    intro pre a R R' W W' h r e1 e2 e3 e4 hi hz
    have q1 := e1.trans h.h1
    have q2 := e2.trans h.h2
    refine ⟨hYs _ _ _ h.y ⟨hi, fun e => ?_⟩ e3 e4, r, q1, q2, hz, h.e⟩
    have := h.e e
    exact ⟨by rw [← this]; exact q1, q2, R', r, hz⟩
  have STEP : Hid (∀ pre a R R' W W', RI w0 g A n c b1 b2 a0 bs Y pre a R W → RdS w0 g A n c R' W' → W.grownBy W' (some g) → (R' = false → rowsQ bs a0 = none) → RI w0 g A n c b1 b2 a0 bs Y pre a R' W') := by
    intro pre a R R' W W' h r hg hz
    obtain ⟨⟨o, hd⟩, ⟨r9, hl⟩⟩ := hYb _ _ h.y
    exact GO.out _ _ _ _ _ _ h r (hg.block _ (block_lt h.h1) (fun e => by injection e with e; omega)) (hg.block _ (block_lt h.h2) (fun e => by injection e with e; omega)) (hg.block _ (block_lt hd) (fun e => by injection e with e; omega)) (hg.block _ (block_lt hl) (fun e => by injection e with e; omega)) (hIg _ _ _ (hYI _ _ h.y).1 hg) hz
  have NEW : Hid (∀ pre a R W W', RI w0 g A n c b1 b2 a0 bs Y pre a R W → Below W.heap.size W W' → RI w0 g A n c b1 b2 a0 bs Y pre a R W') := by
    intro pre a R W W' h hb
    obtain ⟨⟨o, hd⟩, ⟨r9, hl⟩⟩ := hYb _ _ h.y
    exact GO.out _ _ _ _ _ _ h (h.r.keep hb) (hb.block _ (block_lt h.h1)) (hb.block _ (block_lt h.h2)) (hb.block _ (block_lt hd)) (hb.block _ (block_lt hl)) (hIn _ _ _ (hYI _ _ h.y).1 hb) h.z
  have c1 := cells_1 k1
  have c2 := cells_1 k2
  obtain ⟨c3, c4⟩ := cells_2 k3.h
  have HY := Lib.hid hY
  have HYI := Lib.hid hYI
  have HYs := Lib.hid hYs
  have HYb := Lib.hid hYb
  have HIs := Lib.hid hIs
  have HIo := Lib.hid hIo
  have HIb := Lib.hid hIb
  clear hYI hYs hY hYb hIg hIs hIn hIo hIb k1 k2 k3 k4 hY0
  refine callsIn_of_wp Tryz.func76 rfl trivial ?_ rfl
  simp only [Tryz.ntmps76, List.size_toArray, List.length_cons, List.length_nil, Nat.reduceAdd, Nat.reduceSub, Array.replicate_succ, Array.replicate_zero, List.push_toArray, List.append_toArray, List.nil_append, List.cons_append]
  gi_wp2_with (fail)
  gi_loopw [4] (fun u wr => ∃ (pre : List Own1) (a : Nat) (R : Bool), Hid (RI w0 g A n c b1 b2 a0 bs Y pre a R wr) ∧ a ≤ n ∧ pre.length ≤ a ∧ Hid (R = true → rowsQ bs a0 = (rowsQ bs a).map ((pre.map fun x => x.2.2.2) ++ ·))) (fun _ wr => n - boxI b1 wr)
  case atStart => exact ⟨[], a0, R0, RI0, ha0, Nat.zero_le _, fun _ => by cases rowsQ bs a0 <;> simp⟩
  case round =>
    obtain ⟨pre, a, R, HR, han, hpl, HL⟩ := hrel
    have d1 := cells_1 HR.out.h1
    have d2 := cells_1 HR.out.h2
    obtain ⟨d3, d4⟩ := cells_2 HR.out.r.h
    have HMEAS := Lib.hid (boxI_of HR.out.h1)
    clear c1 c2 c3 c4 RI0
    by_cases hlt : a < n
    · have i1 : decide ((a : Int) < (n : Int)) = true := by simp; omega
      gi_wp2_with (fail)
      refine wpIn_wide.2 ?_
      go_quiet (fail)
      have HRA := Lib.hid (NEW.out _ _ _ _ _ HR.out (kp_drewN (Below.refl _ _) nq))
      have HBA := Lib.hid (boxI_of HRA.out.h1)
      generalize wr.drewN nq = wA at *
      clear HR
      have d1 := cells_1 HRA.out.h1
      have d2 := cells_1 HRA.out.h2
      obtain ⟨d3, d4⟩ := cells_2 HRA.out.r.h
      obtain ⟨L, hL⟩ : ∃ x, numQ bs a 4 = x := ⟨_, rfl⟩
      have C := Lib.hid (number_any hI (a : Int) a 4 rfl (by omega) (by decide) 4 rfl HRA.out.r)
      rw [hL] at C
      have lL : L < 4294967296 := by rw [← hL]; exact numQ_lt4 _ _
      gi_wp2_with (fail)
      refine ⟨trivial, (callsIn_wide.2 C.out).mono ?_⟩
      rintro e wB ⟨rfl, h1, h2⟩
      have hz1 : (R && inQ bs a 4) = false → rowsQ bs a0 = none := by
        intro h
        cases hR : R with
        | false => exact HRA.out.z hR
        | true =>
          rw [hR, Bool.true_and] at h
          rw [HL.out hR, rowsQ_no (by omega) (by unfold rowOk; rw [h]; rfl)]
          rfl
      have HRB := Lib.hid (STEP.out _ _ _ _ _ _ HRA.out h1 h2 hz1)
      clear h1 h2 hz1 HRA C
      have d1 := cells_1 HRB.out.h1
      have d2 := cells_1 HRB.out.h2
      obtain ⟨d3, d4⟩ := cells_2 HRB.out.r.h
      gi_wp2_with (fail)
      obtain ⟨pd, hpd⟩ : ∃ x, padQ bs a = x := ⟨_, rfl⟩
      have e5 : ((L : Int) + 8 - 1) / 8 * 8 = (pd : Int) := by rw [← hpd]; unfold padQ; rw [hL]; omega
      have lpd : L ≤ pd ∧ pd ≤ L + 7 := by have := padQ_le bs a; rw [hL, hpd] at this; exact this
      rw [e5]
      have hz3 : ∀ b4 : Bool, (R && inQ bs a 4 && (decide (9 ≤ L) && decide (pd ≤ n - a)) && b4) = false → (b4 = false → rowOk bs a = false) → rowsQ bs a0 = none := by
        intro b4 h h4
        cases hR : R && inQ bs a 4 with
        | false => exact HRB.out.z hR
        | true =>
          rw [hR, Bool.true_and] at h
          rw [Bool.and_eq_true] at hR
          have hnone : rowsQ bs a = none → rowsQ bs a0 = none := fun e => by rw [HL.out hR.1, e]; rfl
          refine hnone (rowsQ_no (by omega) ?_)
          cases hb : b4 with
          | false => rw [h4 hb]; rfl
          | true =>
            rw [hb, Bool.and_true] at h
            unfold rowOk
            rw [hL, hpd, hnl, hR.2, h]
            rfl
      have HZ3 := Lib.hid hz3
      have HRC : Hid (RI w0 g A n c b1 b2 a0 bs Y pre a (R && inQ bs a 4) wB.drew) := NEW.out _ _ _ _ _ HRB.out (kp_drew (Below.refl _ _))
      have e6 : IntKind.i64.wrap ((n : Int) - (a : Int)) = (n : Int) - (a : Int) := IntWalk.i64_in _ (by omega)
      clear hz3
      have FIN : Hid (∀ W' : World, RI w0 g A n c b1 b2 a0 bs Y pre a false W' → ((∃ xs : List Own1, (∃ R, RdS w0 g A n c R W' ∧ (R = true → rowsQ bs a0 = some (xs.map fun x => x.2.2.2)) ∧ (R = false → rowsQ bs a0 = none)) ∧ Y xs W') ∨ (∃ p : List Own1, True ∧ Z p W'))) := fun W' h => .inl ⟨pre, ⟨false, h.r, (fun e => by cases e), fun _ => h.z rfl⟩, h.y⟩
      by_cases h9 : 9 ≤ L
      · have t1 : decide ((9 : Int) ≤ (L : Int)) = true := by simp; omega
        have H9 := Lib.hid h9
        clear h9
        refine wpIn_wide.2 ?_
        refine wp_region_still_tail 14 (by kernel_rfl) (by kernel_rfl) ?_
        simp only [List.take_succ_cons, List.take_zero, List.drop_succ_cons, List.drop_zero]
        iterate 14 ((with_reducible refine wpStill_step (fun K hK => ?_)); go_simp; (with_reducible refine hK _ ?_); clear hK K)
        with_reducible refine wpStill_nil ?_
        change wpList _ _ _ _ _ wB.drew
        go_wp2_with (fail)
        refine (need_any _ HRC.out.r).mono ?_
        rintro e wC ⟨rfl, h1, h2⟩
        rw [show (R && inQ bs a 4 && decide ((pd : Int) ≤ (n : Int) - (a : Int))) = (R && inQ bs a 4 && (decide (9 ≤ L) && decide (pd ≤ n - a))) by
          rw [decide_eq_true H9.out, Bool.true_and]; congr 1; congr 1; exact propext (by omega)] at h1
        have HRD := Lib.hid (STEP.out _ _ _ _ _ _ HRC.out h1 h2 (fun h => HZ3.out true (by rw [h]; rfl) (fun h => by cases h)))
        clear h1 h2 HRC HRB d1 d2 d3 d4
        have d1 := cells_1 HRD.out.h1
        have d2 := cells_1 HRD.out.h2
        obtain ⟨d3, d4⟩ := cells_2 HRD.out.r.h
        go_wp2_with (fail)
        gi_wp2_with (fail)
        refine ⟨trivial, (callsIn_wide.2 (has_any hI ((a : Int) + 4) (a + 4) ⟨#[0, 2, 2, 0]⟩ [0, 2, 2, 0] (by rw [Lib.toList_data]) rfl (by decide) (by decide) (by push_cast; rfl) (by omega) HRD.out.r)).mono ?_⟩
        rintro e wE ⟨rfl, h1, h2⟩
        obtain ⟨r4, hr4⟩ : ∃ r, (R && inQ bs a 4 && (decide (9 ≤ L) && decide (pd ≤ n - a)) && (cut bs (a + 4) 4 == [0, 2, 2, 0])) = r := ⟨_, rfl⟩
        have HRE := STEP.out _ _ _ _ _ _ HRD.out h1 h2 (fun h => HZ3.out _ h (fun h5 => by simp only [List.length_cons, List.length_nil, Nat.zero_add, Nat.reduceAdd] at h5; unfold rowOk; rw [h5, Bool.and_false]))
        simp only [List.length_cons, List.length_nil, Nat.zero_add, Nat.reduceAdd] at HRE
        rw [hr4] at HRE
        have HRE := Lib.hid HRE
        clear h1 h2 HRD d1 d2 d3 d4
        have d1 := cells_1 HRE.out.h1
        have d2 := cells_1 HRE.out.h2
        obtain ⟨d3, d4⟩ := cells_2 HRE.out.r.h
        cases r4 with
        | false =>
          gi_wp2_with (fail)
          refine bodyPost_ret (results_none rfl _ _ _) rfl ?_
          exact ⟨⟨_, rfl⟩, FIN.out _ HRE.out⟩
        | true =>
          simp only [Bool.and_eq_true, decide_eq_true_eq] at hr4
          obtain ⟨⟨⟨hRt, hin4⟩, hL9, hpdn⟩, hmk⟩ := hr4
          have hok : rowOk bs a = true := by unfold rowOk; rw [hL, hpd, hnl, hin4, hmk, decide_eq_true hL9, decide_eq_true hpdn]; rfl
          obtain ⟨ba, oa, q0, hA, hba, _, _⟩ := hI.r.at_ (k := 0) (by omega)
          obtain ⟨lo, hlo⟩ : ∃ x, a + L = x := ⟨_, rfl⟩
          obtain ⟨hi, hhi⟩ : ∃ x, a + pd = x := ⟨_, rfl⟩
          have e7 : (a : Int) + (L : Int) = (lo : Int) := by omega
          have e8 : (a : Int) + (pd : Int) = (hi : Int) := by omega
          obtain ⟨SA, hSA⟩ : ∃ SA : Option Addr, (if c = lo then some (⟨ba, oa, none⟩ : Addr) else some ⟨ba, oa + lo, none⟩) = SA := ⟨_, rfl⟩
          have hRF := rb_takeP (rb_cutP (show RB w0 (some ⟨ba, oa, none⟩) n bs from hA ▸ hI.r) hnc (show lo ≤ n by omega)) (show hi - lo ≤ n - lo by omega)
          rw [hSA] at hRF
          obtain ⟨fl, hfl⟩ : ∃ x, (bs.drop lo).take (hi - lo) = x := ⟨_, rfl⟩
          rw [hfl] at hRF
          have hfill : fillB bs a = fl.all fun q => q == 0 := by
            unfold fillB
            rw [hL, hpd, hlo, ← hfl, show pd - L = hi - lo by omega]
            rfl
          obtain ⟨m, hm⟩ : ∃ x, hi - lo = x := ⟨_, rfl⟩
          rw [hm] at hRF
          have i3 : (0 : Int) ≤ (lo : Int) := by omega
          have i4 : (lo : Int) ≤ (hi : Int) := by omega
          have i5 : (hi : Int) ≤ (c : Int) := by omega
          have i6 : (lo : Int) ≤ (c : Int) := by omega
          have HRF := Lib.hid hRF
          have HOK := Lib.hid (And.intro hok (And.intro hfill hpdn))
          have HML : m ≤ 8 := by omega
          have HHI := Lib.hid hhi
          clear hRF hok hfill hfl hba hmk hin4 hlo hhi
          gi_wp2_with (fail)
          refine wpIn_wide.2 ?_
          go_quiet (fail)
          have HRF9 := Lib.hid (NEW.out _ _ _ _ _ HRE.out (kp_drewN (Below.refl _ _) nq))
          generalize wE.drewN nq = wF at *
          clear HRE d1 d2 d3 d4 hSA e7 e8 i3 i4 i5 i6 HZ3 FIN e5 e6
          gi_wp2_with (fail)
          gi_loopw [7, 61] (fun _ u wr => ∃ (k : Nat) (R5 : Bool), u = .int .i64 (k : Int) ∧ k ≤ m ∧ Hid (R5 = (fl.take k).all fun q => q == 0) ∧ Hid (RI w0 g A n c b1 b2 a0 bs Y pre a R5 wr)) (fun _ u _ => m - (intOf u).toNat)
          case atStart => exact ⟨0, true, rfl, Nat.zero_le _, rfl, HRF9⟩
          case round =>
            obtain ⟨k, R5, rfl, hkm, HF, HRI⟩ := hrel
            have d1 := cells_1 HRI.out.h1
            have d2 := cells_1 HRI.out.h2
            obtain ⟨d3, d4⟩ := cells_2 HRI.out.r.h
            by_cases hklt : k < m
            · have j1 : decide ((k : Int) < (m : Int)) = true := by simp; omega
              have j3 : IntKind.i64.wrap ((k : Int) + 1) = (k : Int) + 1 := IntWalk.i64_in _ (by omega)
              obtain ⟨bb, ob, q, hSb, hbb, hq, kq⟩ := (HRF.out.below HRI.out.r.b).at_ hklt
              subst hSb
              gi_wp2_with (fail)
              refine ⟨trivial, (callsIn_wide.2 (need_any _ HRI.out.r)).mono ?_⟩
              rintro e wG ⟨rfl, h1, h2⟩
              have hz6 : ∀ b6 : Bool, (b6 = false → ¬ q = 0) → (R5 && b6) = false → rowsQ bs a0 = none := by
                intro b6 h6 h
                cases hb : b6 with
                | true => rw [hb, Bool.and_true] at h; exact HRI.out.z h
                | false =>
                  have hq0 := h6 hb
                  have hnone : rowsQ bs a = none → rowsQ bs a0 = none := fun e => by rw [HL.out hRt, e]; rfl
                  refine hnone (rowsQ_no (by omega) ?_)
                  rw [HOK.out.1, Bool.true_and, HOK.out.2.1, Bool.eq_false_iff]
                  intro hall
                  exact hq0 (by simpa using List.all_eq_true.1 hall q (List.mem_of_getElem? hq))
              have hnx : (R5 && decide (q = 0)) = (fl.take (k + 1)).all fun q => q == 0 := by
                rw [List.take_add_one, hq, List.all_append, HF.out]
                simp
                rfl
              have e9 : ((q.toNat : Int) == 0) = decide (q = 0) := by
                by_cases h : q = 0
                · subst h; rfl
                · have : q.toNat ≠ 0 := fun e => h (UInt8.toNat_inj.1 e)
                  simp [h]; omega
              have e10 : decide (q.toNat = 0) = decide (q = 0) := by rw [← e9]; by_cases h : q.toNat = 0 <;> simp [h] <;> omega
              have h1' : RdS w0 g A n c (R5 && decide (q = 0)) wG := by first | exact e9 ▸ h1 | exact e10 ▸ h1
              have HRG := Lib.hid (STEP.out _ _ _ _ _ _ HRI.out h1' h2 (hz6 _ (fun h => of_decide_eq_false h)))
              have HNX := Lib.hid hnx
              have HM6 := Lib.hid HMEAS.out
              clear h1 h1' h2 e9 e10 hz6 hnx HRI HF hq kq hbb d1 d2 d3 d4
              gi_wp2_with (fail)
              go_roundw
              case rel => exact ⟨k + 1, (R5 && decide (q = 0)), by go_num, by omega, HNX, HRG⟩
              case measure => simp [intOf]; omega
            · have j1 : decide ((k : Int) < (m : Int)) = false := by simp; omega
              obtain rfl : k = m := by omega
              gi_wp2_with (fail)
              have hflm : fl.length = k := HRF.out.1
              have hR5 : R5 = fillB bs a := by rw [HF.out, HOK.out.2.1, ← hflm, List.take_length]
              have HR5 := Lib.hid hR5
              have CC : Hid (∀ W, Below wr.heap.size wr W → Calls Tryz.prog 73 #[.slice (some ⟨ba, oa, none⟩) n c, .int .i64 ((a : Int) + 8), .int .i64 ((L : Int) - 8)] W (FreshCut W (cut bs (a + 8) (L - 8)))) := fun W hW => by
                have m1 : ((a + 8 : Nat) : Int) = (a : Int) + 8 := by push_cast; rfl
                have m2 : ((L - 8 : Nat) : Int) = (L : Int) - 8 := by omega
                have := cut_ok A n c bs (a + 8) (L - 8) W (hI.r.below (kp_call HRI.out.r.b hW)) hnc hcc (by omega) (by omega)
                rwa [m1, m2, hA] at this
              have d3' : wr.cell? ⟨g, 0, none⟩ = some (.slice (some ⟨ba, oa, none⟩) n c) := by rw [← hA]; exact d3
              have KEEP : Hid (∀ W, Below wr.heap.size wr W → (W.cell? ⟨b1, 0, none⟩ = some (.int .i64 (a : Int)) ∧ W.cell? ⟨b2, 0, none⟩ = some (.pointer (some ⟨g, 0, none⟩)) ∧ W.cell? ⟨g, 0, none⟩ = some (.slice (some ⟨ba, oa, none⟩) n c)) ∧ Below wr.heap.size wr W) :=
                fun W h => ⟨⟨kp_cell h d1, kp_cell h d2, kp_cell h d3'⟩, h⟩
              clear hflm hR5 HF d3
              have d3 := d3'
              clear d3'
              have w1 : IntKind.i64.wrap ((a : Int) + 8) = (a : Int) + 8 := IntWalk.i64_in _ (by omega)
              have w2 : IntKind.i64.wrap ((L : Int) - 8) = (L : Int) - 8 := IntWalk.i64_in _ (by omega)
              refine wpIn_wide.2 ?_
              go_region_held3 (fun W => (W.cell? ⟨b1, 0, none⟩ = some (.int .i64 (a : Int)) ∧ W.cell? ⟨b2, 0, none⟩ = some (.pointer (some ⟨g, 0, none⟩)) ∧ W.cell? ⟨g, 0, none⟩ = some (.slice (some ⟨ba, oa, none⟩) n c)) ∧ Below wr.heap.size wr W)
                ((apply KEEP.out; repeat (with_reducible (first | assumption | exact Below.refl _ _ | refine kp_drew ?_ | refine kp_call ?_ (by assumption)))))
                ((go_at_call 73; (with_reducible refine (CC.out _ (by (go_split_ands; assumption))).mono ?_); (rintro e X1 ⟨X, m2, c2, rfl, ho2, hb2⟩; have H2 : Hid (Below wr.heap.size wr X1) := (by (first | exact hb2 | exact (kp_drew (Below.refl _ _)).trans hb2)))))
              all_goals
                have HRX := NEW.out _ _ _ _ _ HRI.out H2.out
                have hD2 : D + 2 ≤ wr.heap.size := by obtain ⟨_, ⟨r9, hl⟩⟩ := HYb.out _ _ HRI.out.y; have := block_lt hl; omega
                have hm2 := ho2.len
                rw [cut_len _ _ _ (by omega)] at hm2
                have hQ : OwnB X1 (D + 2) X m2 c2 (cut bs (a + 8) (L - 8)) := ho2.lower (by simpa using hD2)
                have hfr : ∀ y ∈ pre, blk y.1 = none ∨ blk y.1 ≠ blk X := by
                  intro y hy
                  cases hby : blk y.1 with
                  | none => exact .inl rfl
                  | some k9 =>
                    right
                    intro e
                    have h1 := HIo.out _ _ (HYI.out _ _ HRI.out.y).1 y hy k9 hby
                    have h2 := (ho2.blk_lt e.symm).1
                    simp at h2
                    omega
                obtain ⟨fn, tmps, assign, body, hy, hRR⟩ := HY.out pre (X, m2, c2, cut bs (a + 8) (L - 8)) X1 HRX.y ⟨hQ, by show m2 ≤ 16777216; omega, hfr⟩ (by omega)
                dsimp only [sigEnc, Own1.val] at hy
                have HRX := Lib.hid HRX
                clear ho2 hb2 hQ hfr CC KEEP w1 w2 d1 d2 d3 d4 H2 HRF j1
                gi_wp2
                refine hRR.mono ?_
                rintro e W3 (⟨rfl, hJ3, hk3⟩ | ⟨rfl, hZ3⟩)
                · have hb3 := HIb.out _ _ (HYI.out _ _ hJ3).1
                  have q1 := (hk3 b1 (.inl rfl)).trans HRX.out.h1
                  have q2 := (hk3 b2 (.inr (.inl rfl))).trans HRX.out.h2
                  have q3 := (hk3 g (.inr (.inr rfl))).trans HRX.out.r.h
                  have d1 := cells_1 q1
                  have f1 := free_1 q1
                  have e8 : (a : Int) + (pd : Int) = (hi : Int) := by have := HHI.out; omega
                  have HN : Hid (RI w0 g A n c b1 b2 a0 bs Y (pre ++ [(X, m2, c2, cut bs (a + 8) (L - 8))]) hi R5 (W3.setCell ⟨b1, 0, none⟩ (.int .i64 (hi : Int)))) := by
                    refine ⟨HYs.out _ _ _ hJ3 ⟨HIs.out _ _ _ (HYI.out _ _ hJ3).1, fun e => by simp at e⟩ (heap_set_far _ _ _ _ _ (by omega)) (heap_set_far _ _ _ _ _ (by omega)), ⟨has_set q3 (fun e => hne.2.1 e.symm), kp_set hb3 hw1, HRX.out.r.g⟩, set_1 q1, has_set q2 (fun e => hne.1 e.symm), fun e => HRX.out.z e, fun e => by simp at e⟩
                  have HLN : Hid (R5 = true → rowsQ bs a0 = (rowsQ bs hi).map (((pre ++ [((X, m2, c2, cut bs (a + 8) (L - 8)) : Own1)]).map fun x => x.2.2.2) ++ ·)) := by
                    intro h
                    rw [HL.out hRt, rowsQ_yes (by omega) HOK.out.1 (by rw [← HR5.out]; exact h), hpd, hL, Option.map_map, HHI.out]
                    congr 1
                    funext l
                    simp
                  have HQ1 := Lib.hid (set_1 (v0 := .int .i64 (hi : Int)) q1)
                  have hhn : hi ≤ n ∧ a < hi ∧ pre.length + 1 ≤ hi := by have := HHI.out; omega
                  clear q1 q2 q3 hb3 hJ3 hk3 hRR HRX
                  gi_wp2
                  go_roundw
                  case rel => exact ⟨_, hi, R5, HN, hhn.1, by simpa using hhn.2.2, HLN⟩
                  case measure => rw [boxI_of HQ1.out, HMEAS.out]; omega
                · gi_wp2
                  refine bodyPost_ret (results_none rfl _ _ _) rfl ?_
                  exact ⟨⟨_, rfl⟩, .inr ⟨_, trivial, hZ3⟩⟩
      · have t1 : decide ((9 : Int) ≤ (L : Int)) = false := by simp; omega
        have H9 := Lib.hid h9
        clear h9
        refine wpIn_wide.2 ?_
        refine wp_region_still_tail 14 (by kernel_rfl) (by kernel_rfl) ?_
        simp only [List.take_succ_cons, List.take_zero, List.drop_succ_cons, List.drop_zero]
        iterate 14 ((with_reducible refine wpStill_step (fun K hK => ?_)); go_simp; (with_reducible refine hK _ ?_); clear hK K)
        with_reducible refine wpStill_nil ?_
        change wpList _ _ _ _ _ wB.drew
        go_wp2_with (fail)
        refine (need_any _ HRC.out.r).mono ?_
        rintro e wC ⟨rfl, h1, h2⟩
        rw [show (R && inQ bs a 4 && false) = false by simp] at h1
        have HRD := Lib.hid (STEP.out _ _ _ _ _ _ HRC.out h1 h2 (fun _ => HZ3.out true (by rw [decide_eq_false H9.out]; simp) (fun h => by cases h)))
        clear h1 h2 HRC HRB d1 d2 d3 d4
        have d1 := cells_1 HRD.out.h1
        have d2 := cells_1 HRD.out.h2
        obtain ⟨d3, d4⟩ := cells_2 HRD.out.r.h
        go_wp2_with (fail)
        gi_wp2_with (fail)
        refine ⟨trivial, (callsIn_wide.2 (has_any hI ((a : Int) + 4) (a + 4) ⟨#[0, 2, 2, 0]⟩ [0, 2, 2, 0] (by rw [Lib.toList_data]) rfl (by decide) (by decide) (by push_cast; rfl) (by omega) HRD.out.r)).mono ?_⟩
        rintro e wE ⟨rfl, h1, h2⟩
        have HRE := Lib.hid (STEP.out _ _ _ _ _ _ HRD.out h1 h2 (fun _ => HRD.out.z rfl))
        rw [Bool.false_and] at HRE
        clear h1 h2 HRD d1 d2 d3 d4
        have d1 := cells_1 HRE.out.h1
        have d2 := cells_1 HRE.out.h2
        obtain ⟨d3, d4⟩ := cells_2 HRE.out.r.h
        gi_wp2_with (fail)
        refine bodyPost_ret (results_none rfl _ _ _) rfl ?_
        exact ⟨⟨_, rfl⟩, FIN.out _ HRE.out⟩
    · have i1 : decide ((a : Int) < (n : Int)) = false := by simp; omega
      gi_wp2_with (fail)
      refine wpIn_wide.2 ?_
      go_quiet (fail)
      gi_wp2_with (fail)
      go_end0
      have HQ : rowsQ bs a = some [] := rowsQ_end (by omega)
      have HR2 := NEW.out _ _ _ _ _ HR.out (kp_drewN (Below.refl _ _) nq)
      refine ⟨⟨_, rfl⟩, .inl ⟨pre, ⟨R, HR2.r, fun e => ?_, fun e => ?_⟩, HR2.y⟩⟩
      · rw [HL.out e, HQ]; simp
      · exact HR2.z e
end Go.Proofs.YtcedojmhgmgcgaaGreatDoor
namespace Go.Proofs.YtcedojmhgmgcgaaGreatDoor
open Go.RowKit Go
set_option linter.unusedVariables false
set_option maxRecDepth 100000
attribute [local go_sem] Oper.semAt_some
theorem bss_rowP : RowT 28 22 1 24 (.slice none 0 0) := ⟨Tryz.underlying28, by kernel_rfl, rfl, by decide⟩
/-- Signatures that are told: each in memory of its own. -/
structure SigsOwn (base : Nat) (xs : List Own1) (W : World) : Prop where
  own : ∀ x ∈ xs, OwnB W base x.1 x.2.1 x.2.2.1 x.2.2.2 ∧ x.2.1 ≤ 16777216
  far : xs.Pairwise fun x y => blk x.1 = none ∨ blk x.1 ≠ blk y.1
theorem SigsOwn.keep {base : Nat} {xs : List Own1} {W W' : World} (h : SigsOwn base xs W) {row : Option Nat} (hg : W.grownBy W' row) (hr : ∀ b, row = some b → b < base) : SigsOwn base xs W' :=
  ⟨fun x hx => ⟨(h.own x hx).1.kept hg (by
    cases hk : blk x.1 with
    | none => exact .inl rfl
    | some k => exact .inr (fun e => by have := ((h.own x hx).1.blk_lt hk).1; have := hr k e.symm; omega)), (h.own x hx).2⟩, h.far⟩
theorem SigsOwn.below {base : Nat} {xs : List Own1} {W W' : World} (h : SigsOwn base xs W) (hb : Below W.heap.size W W') : SigsOwn base xs W' :=
  ⟨fun x hx => ⟨(h.own x hx).1.below hb (Nat.le_refl _), (h.own x hx).2⟩, h.far⟩
theorem SigsOwn.lower {base base' : Nat} {xs : List Own1} {W : World} (h : SigsOwn base xs W) (hb : base' ≤ base) : SigsOwn base' xs W :=
  ⟨fun x hx => ⟨(h.own x hx).1.lower hb, (h.own x hx).2⟩, h.far⟩
/-- A row of byte slices turns; those bytes stay. -/
theorem SigsOwn.row {base b2 : Nat} {xs : List Own1} {W W' : World} (h : SigsOwn base xs W) {V : Option Addr} {m cV : Nat} {vs : List Value} (ho : OwnR W b2 22 1 V m cV vs) (hg : W.grownBy W' (blk V)) : SigsOwn base xs W' :=
  ⟨fun x hx => ⟨(h.own x hx).1.kept hg (OwnR.ne (h.own x hx).1.row ho (by decide)), (h.own x hx).2⟩, h.far⟩
/-- The loop that collects the signatures. -/
structure LG (w : World) (g : Nat) (pre : List Own1) (W : World) : Prop where
  ex : ∃ (V : Option Addr) (m cV : Nat), W.heap[w.heap.size]? = some (.cells #[.slice V m cV] 28) ∧ m = pre.length ∧ OwnR W (w.heap.size + 5) 22 1 V m cV (pre.map Own1.val)
  so : SigsOwn (w.heap.size + 5) pre W
  gr : w.grownBy W (some g)
theorem LG.grown {w : World} {g : Nat} {pre : List Own1} {W W' : World} {b : Nat} (h : LG w g pre W) (hgw : g < w.heap.size) (hg : W.grownBy W' (some b)) (hb : b = g ∨ w.heap.size + 1 ≤ b) (h6 : b < w.heap.size + 5) : LG w g pre W' := by
  obtain ⟨⟨V, m, cV, h2, hm, ho⟩, hso, hgr⟩ := h
  refine ⟨⟨V, m, cV, (hg.block _ (block_lt h2) (fun e => by injection e with e; omega)).trans h2, hm, ho.kept hg (.inr (fun e => by have := (ho.blk_lt e).1; omega))⟩, hso.keep hg (fun k hk => by injection hk with hk; omega), ?_⟩
  rcases hb with rfl | hb
  · exact grown_tr hgr hg
  · exact gr_far hgr hg (by omega)
theorem LG.new {w : World} {g : Nat} {pre : List Own1} {W W' : World} (h : LG w g pre W) (hb : Below W.heap.size W W') : LG w g pre W' := by
  obtain ⟨⟨V, m, cV, h2, hm, ho⟩, hso, hgr⟩ := h
  exact ⟨⟨V, m, cV, has_below h2 hb, hm, ho.below hb (Nat.le_refl _)⟩, hso.below hb, gr_new hgr (hb.mono hgr.size)⟩
theorem LG.alloc {w : World} {g : Nat} {pre : List Own1} {W : World} (h : LG w g pre W) (o : Obj) : LG w g pre (W.alloc o) := h.new ((Below.refl _ _).alloc (Nat.le_refl _) o)
/-- May a certificate table lie so? -/
def sgB (n table length end_ : Nat) : Bool := decide (0 < length) && decide (table % 8 = 0) && decide (end_ ≤ table) && decide (table + length = n)
def SigPost (w0 w : World) (g : Nat) (A : Option Addr) (n c : Nat) (R : Bool) (bs : List UInt8) (table length end_ : Nat) (e : Ending) (w' : World) : Prop :=
  ∃ (V : Option Addr) (m cV : Nat) (xs : List Own1) (R' : Bool), e = .returned (.slice V m cV) ∧ R' = (R && sgB n table length end_ && (rowsQ bs table).isSome) ∧ (R' = true → rowsQ bs table = some (xs.map fun x => x.2.2.2)) ∧ RdS w0 g A n c R' w' ∧ w.grownBy w' (some g) ∧
    m = xs.length ∧ OwnR w' w.heap.size 22 1 V m cV (xs.map Own1.val) ∧ SigsOwn w.heap.size xs w'
theorem sigPost_no {w0 w w' : World} {g : Nat} {A : Option Addr} {n c : Nat} {R : Bool} {bs : List UInt8} {table length end_ : Nat} (h : (R && sgB n table length end_) = false) (r : RdS w0 g A n c false w') (hg : w.grownBy w' (some g)) : SigPost w0 w g A n c R bs table length end_ (.returned (.slice none 0 0)) w' :=
  ⟨none, 0, 0, [], false, rfl, by rw [h]; rfl, (fun e => by cases e), r, hg, rfl, OwnR.nil _ _ _ _, ⟨(fun x hx => by cases hx), List.Pairwise.nil⟩⟩
set_option maxHeartbeats 4000000 in
theorem sigs_no {w0 : World} {g : Nat} {A : Option Addr} {n c : Nat} {bs : List UInt8} {R : Bool} {w : World} (hI : Img w0 A n c bs) (h : RdS w0 g A n c R w) (table length end_ : Nat) (ht : table < 4294967296) (hl : length < 4294967296) (he : end_ ≤ 17179869184) (hno : (R && sgB n table length end_) = false) :
    Calls Tryz.prog 32 #[.pointer (some ⟨g, 0, none⟩), .int .i64 (table : Nat), .int .i64 (length : Nat), .int .i64 (end_ : Nat)] w (SigPost w0 w g A n c R bs table length end_) := by
  have H := Lib.hid h
  have hn := hI.big
  have hz : ∀ b, b = sgB n table length end_ → (R && b) = false := fun b hb => by rw [hb]; exact hno
  have FIN : Hid (∀ W', RdS w0 g A n c false W' → w.grownBy W' (some g) → SigPost w0 w g A n c R bs table length end_ (.returned (.slice none 0 0)) W') := fun W' r hg => sigPost_no hno r hg
  have c0 := (cells_2 h.h).1
  obtain ⟨tm, htm⟩ : ∃ x, table % 8 = x := ⟨_, rfl⟩
  have e1 : (table : Int).tmod 8 = (tm : Int) := by rw [← htm]; exact Int.tmod_eq_emod_of_nonneg (by omega)
  have e2 : (table : Int) % 8 = (tm : Int) := by omega
  clear h
  unfold sgB at hno hz
  rw [htm] at hno hz
  clear htm
  by_cases a1 : 0 < length
  · have t1 : decide ((0 : Int) < (length : Int)) = true := by simp; omega
    by_cases a2 : tm = 0
    · have t2 : ((tm : Int) == 0) = true := by simp; omega
      by_cases a3 : end_ ≤ table
      · have t3 : decide ((end_ : Int) ≤ (table : Int)) = true := by simp; omega
        by_cases a4 : table + length = n
        · have t4 : ((table : Int) + (length : Int) == (n : Int)) = true := by simp; omega
          have hR : R = false := by simpa [a1, a2, a3, a4] using hno
          subst hR
          clear hno hz
          refine (callsIn_wide (n := 4)).1 ?_
          refine callsIn_of_wp_marks Tryz.func32 rfl trivial ?_ rfl
          simp only [Tryz.ntmps32, List.size_toArray, List.length_cons, List.length_nil, Nat.reduceAdd, Nat.reduceSub, Array.replicate_succ, Array.replicate_zero, List.push_toArray, List.append_toArray, List.nil_append, List.cons_append]
          refine wpIn_wide.2 ?_
          go_wp2_with (fail)
          (with_reducible refine (need_any _ H.out).mono ?_)
          rintro e w1 ⟨rfl, h1, h2⟩
          rw [Bool.false_and] at h1
          have HH := Lib.hid (FIN.out w1 h1 h2)
          obtain ⟨c0, c1⟩ := cells_2 h1.h
          clear h1 h2
          go_wp2_with (fail)
          refine ⟨_, results_tmp rfl _ _ _, ?_⟩
          exact HH.out
        · have t4 : ((table : Int) + (length : Int) == (n : Int)) = false := by simp; omega
          clear hno hz
          refine (callsIn_wide (n := 4)).1 ?_
          refine callsIn_of_wp_marks Tryz.func32 rfl trivial ?_ rfl
          simp only [Tryz.ntmps32, List.size_toArray, List.length_cons, List.length_nil, Nat.reduceAdd, Nat.reduceSub, Array.replicate_succ, Array.replicate_zero, List.push_toArray, List.append_toArray, List.nil_append, List.cons_append]
          refine wpIn_wide.2 ?_
          go_wp2_with (fail)
          (with_reducible refine (need_any _ H.out).mono ?_)
          rintro e w1 ⟨rfl, h1, h2⟩
          first | rw [Bool.and_false] at h1 | rw [t4, Bool.and_false] at h1
          have HH := Lib.hid (FIN.out w1 h1 h2)
          obtain ⟨c0, c1⟩ := cells_2 h1.h
          clear h1 h2
          go_wp2_with (fail)
          refine ⟨_, results_tmp rfl _ _ _, ?_⟩
          exact HH.out
      · have t3 : decide ((end_ : Int) ≤ (table : Int)) = false := by simp; omega
        clear hno hz
        refine (callsIn_wide (n := 4)).1 ?_
        refine callsIn_of_wp_marks Tryz.func32 rfl trivial ?_ rfl
        simp only [Tryz.ntmps32, List.size_toArray, List.length_cons, List.length_nil, Nat.reduceAdd, Nat.reduceSub, Array.replicate_succ, Array.replicate_zero, List.push_toArray, List.append_toArray, List.nil_append, List.cons_append]
        refine wpIn_wide.2 ?_
        go_wp2_with (fail)
        (with_reducible refine (need_any _ H.out).mono ?_)
        rintro e w1 ⟨rfl, h1, h2⟩
        first | rw [Bool.and_false] at h1 | rw [t4, Bool.and_false] at h1
        have HH := Lib.hid (FIN.out w1 h1 h2)
        obtain ⟨c0, c1⟩ := cells_2 h1.h
        clear h1 h2
        go_wp2_with (fail)
        refine ⟨_, results_tmp rfl _ _ _, ?_⟩
        exact HH.out
    · have t2 : ((tm : Int) == 0) = false := by simp; omega
      clear hno hz
      refine (callsIn_wide (n := 4)).1 ?_
      refine callsIn_of_wp_marks Tryz.func32 rfl trivial ?_ rfl
      simp only [Tryz.ntmps32, List.size_toArray, List.length_cons, List.length_nil, Nat.reduceAdd, Nat.reduceSub, Array.replicate_succ, Array.replicate_zero, List.push_toArray, List.append_toArray, List.nil_append, List.cons_append]
      refine wpIn_wide.2 ?_
      go_wp2_with (fail)
      (with_reducible refine (need_any _ H.out).mono ?_)
      rintro e w1 ⟨rfl, h1, h2⟩
      first | rw [Bool.and_false] at h1 | rw [t4, Bool.and_false] at h1
      have HH := Lib.hid (FIN.out w1 h1 h2)
      obtain ⟨c0, c1⟩ := cells_2 h1.h
      clear h1 h2
      go_wp2_with (fail)
      refine ⟨_, results_tmp rfl _ _ _, ?_⟩
      exact HH.out
  · have t1 : decide ((0 : Int) < (length : Int)) = false := by simp; omega
    clear hno hz
    refine (callsIn_wide (n := 4)).1 ?_
    refine callsIn_of_wp_marks Tryz.func32 rfl trivial ?_ rfl
    simp only [Tryz.ntmps32, List.size_toArray, List.length_cons, List.length_nil, Nat.reduceAdd, Nat.reduceSub, Array.replicate_succ, Array.replicate_zero, List.push_toArray, List.append_toArray, List.nil_append, List.cons_append]
    refine wpIn_wide.2 ?_
    go_wp2_with (fail)
    (with_reducible refine (need_any _ H.out).mono ?_)
    rintro e w1 ⟨rfl, h1, h2⟩
    rw [Bool.and_false] at h1
    have HH := Lib.hid (FIN.out w1 h1 h2)
    obtain ⟨c0, c1⟩ := cells_2 h1.h
    clear h1 h2
    go_wp2_with (fail)
    refine ⟨_, results_tmp rfl _ _ _, ?_⟩
    exact HH.out
set_option maxHeartbeats 4000000 in
theorem sigs_yes {w0 : World} {g : Nat} {A : Option Addr} {n c : Nat} {bs : List UInt8} {w : World} (hI : Img w0 A n c bs) (h : RdS w0 g A n c true w) (table length end_ : Nat) (ht : table < 4294967296) (hl : length < 4294967296) (he : end_ ≤ 17179869184) (hyes : sgB n table length end_ = true) :
    Calls Tryz.prog 32 #[.pointer (some ⟨g, 0, none⟩), .int .i64 (table : Nat), .int .i64 (length : Nat), .int .i64 (end_ : Nat)] w (SigPost w0 w g A n c true bs table length end_) := by
  have HYES := Lib.hid hyes
  have H := Lib.hid h
  have hn := hI.big
  have hgw := block_lt h.h
  have c0 := (cells_2 h.h).1
  obtain ⟨tm, htm⟩ : ∃ x, table % 8 = x := ⟨_, rfl⟩
  have e1 : (table : Int).tmod 8 = (tm : Int) := by rw [← htm]; exact Int.tmod_eq_emod_of_nonneg (by omega)
  have e2 : (table : Int) % 8 = (tm : Int) := by omega
  clear h
  unfold sgB at hyes
  rw [htm] at hyes
  simp only [Bool.and_eq_true, decide_eq_true_eq] at hyes
  obtain ⟨⟨⟨a1, a2⟩, a3⟩, a4⟩ := hyes
  have t1 : decide ((0 : Int) < (length : Int)) = true := by simp; omega
  have t2 : ((tm : Int) == 0) = true := by simp; omega
  have t3 : decide ((end_ : Int) ≤ (table : Int)) = true := by simp; omega
  have t4 : ((table : Int) + (length : Int) == (n : Int)) = true := by simp; omega
  have hta : table ≤ n := by omega
  clear htm
  refine (callsIn_wide (n := 4)).1 ?_
  refine callsIn_of_wp_marks Tryz.func32 rfl trivial ?_ rfl
  simp only [Tryz.ntmps32, List.size_toArray, List.length_cons, List.length_nil, Nat.reduceAdd, Nat.reduceSub, Array.replicate_succ, Array.replicate_zero, List.push_toArray, List.append_toArray, List.nil_append, List.cons_append]
  gi_wp2_with (fail)
  refine ⟨trivial, (callsIn_wide.2 (need_any _ H.out)).mono ?_⟩
  rintro e w1 ⟨rfl, h1, h2⟩
  have h1' : RdS w0 g A n c true w1 := by simpa [t4] using h1
  obtain ⟨c0, c1⟩ := cells_2 h1'.h
  have hg1 : g < w1.heap.size := block_lt h1'.h
  have HH := Lib.hid (And.intro h1' h2)
  have hw0g := h1'.g
  have HNE := h1'.b.size
  clear h1 h2 h1' a1 a2 a3 a4 e1 e2
  gi_wp2_with (fail)
  refine ⟨trivial, (callsIn_wide.2 (rows_any g (table : Int) _)).mono ?_⟩
  rintro e w2 ⟨rfl, rfl⟩
  gi_wp2_with (fail)
  simp only [Nat.add_assoc, Nat.reduceAdd]
  refine wpIn_nm fun W0 hW0 => ?_
  have k0 : W0.heap[w1.heap.size]? = some (.cells #[.slice none 0 0] 28) := by rw [← hW0]; exact has_alloc (has_alloc (has_new w1 _) _) _
  have k2 : W0.heap[w1.heap.size + 1]? = some (.cells #[.pointer (some ⟨g, 0, none⟩)] 65) := by rw [← hW0]; exact has_alloc (has_new' _ _ _ (by simp)) _
  have k1 : W0.heap[w1.heap.size + 2]? = some (.cells #[.int .i64 (table : Int)] 3) := by rw [← hW0]; exact has_new' _ _ _ (by simp)
  have hb0 : Below w1.heap.size w1 W0 := by rw [← hW0]; exact kp_alloc (kp_alloc (kp_alloc (Below.refl _ _) _) _) _
  have hs0 : W0.heap.size = w1.heap.size + 3 := by rw [← hW0]; simp
  have HS0 := Lib.hid hs0
  have r0 : RdS w0 g A n c true W0 := HH.out.1.keep hb0
  have I0 : LG w1 g [] W0 := ⟨⟨none, 0, 0, k0, rfl, OwnR.nil _ _ _ _⟩, ⟨(fun x hx => by cases hx), List.Pairwise.nil⟩, grown_of_below hb0 (Nat.le_refl _) _⟩
  clear hW0
  refine range_runQ (gf := 76) (lb := #[.pointer (some ⟨w1.heap.size + 2, 0, none⟩), .pointer (some ⟨w1.heap.size + 1, 0, none⟩)]) rfl (enters_of Tryz.func76 (by kernel_rfl) rfl) (by omega) sigEnc (fun x => rfl) (fun b => b = w1.heap.size + 2 ∨ b = w1.heap.size + 1 ∨ b = g) (fun b hb => by rw [HS0.out]; omega)
    (fun pre x W => OwnB W (w1.heap.size + 5) x.1 x.2.1 x.2.2.1 x.2.2.2 ∧ x.2.1 ≤ 16777216 ∧ ∀ y ∈ pre, blk y.1 = none ∨ blk y.1 ≠ blk x.1)
    (fun pre W => LG w1 g pre W ∧ (pre = [] → W.heap[w1.heap.size + 2]? = some (.cells #[.int .i64 (table : Int)] 3) ∧ W.heap[w1.heap.size + 1]? = some (.cells #[.pointer (some ⟨g, 0, none⟩)] 65) ∧ ∃ R, RdS w0 g A n c R W ∧ (R = false → rowsQ bs table = none)))
    (fun _ _ => False)
    (fun xs W => ∃ R, RdS w0 g A n c R W ∧ (R = true → rowsQ bs table = some (xs.map fun x => x.2.2.2)) ∧ (R = false → rowsQ bs table = none)) (fun _ => True) (n + 1)
    ?hS ?hI ?hIx ?h0 ?round ?iter ?done ?stop
  case hS =>
    rintro xs W b o h1 h2 ⟨R, hr, hh⟩
    rw [HS0.out] at h1 h2
    exact ⟨R, hr.far (putObj_grown W b o) (by omega) (by omega), hh⟩
  case hI =>
    rintro pre W b o h1 h2 ⟨hi, he⟩
    rw [HS0.out] at h1 h2
    refine ⟨hi.grown hg1 (putObj_grown W b o) (.inr (by omega)) (by omega), fun e => ?_⟩
    obtain ⟨x1, x2, R, x3, x4⟩ := he e
    exact ⟨(World.putObj_heap_other (by omega)).trans x1, (World.putObj_heap_other (by omega)).trans x2, R, x3.far (putObj_grown W b o) (by omega) (by omega), x4⟩
  case hIx => exact fun _ _ _ _ _ _ h => h.elim
  case h0 => exact fun o1 o2 => ⟨(I0.alloc _).alloc _, fun _ => ⟨has_alloc (has_alloc k1 _) _, has_alloc (has_alloc k2 _) _, true, (r0.alloc _).alloc _, fun e => by cases e⟩⟩
  case iter =>
    rw [HS0.out]
    exact rows1_in g n c (w1.heap.size + 3) (w1.heap.size + 2) (w1.heap.size + 1) table A bs w0 hI (by omega) (by omega) ⟨by omega, by omega, by omega⟩ (by omega) (by omega) (by omega) hta (LG w1 g)
      (fun _ _ _ h hg => h.grown hg1 hg (.inl rfl) (by omega)) (fun _ W u h => h.grown hg1 (grown_one W _ 0 u) (.inr (by omega)) (by omega)) (fun _ _ _ h hb => h.new hb) (fun _ _ h => HH.out.1.b.grown h.gr HNE (fun k hk => by injection hk with hk; omega)) (fun _ _ h y hy k hk => ((h.so.own y hy).1.blk_lt hk).2)
  case done =>
    rw [HS0.out]
    rintro xs W ⟨R, hr, hy, hn9⟩ ⟨⟨⟨V, m, cV, hout, hm, hown⟩, hso, hgr⟩, _⟩ hD
    have hc2 := cells_1 hout
    have HO := Lib.hid (And.intro hown (And.intro hso (And.intro hgr (And.intro hm (And.intro hr (And.intro hy hn9))))))
    have HD := Lib.hid hD
    clear hown hD hso hgr hm hr hy hn9
    gi_wp2
    refine ⟨by simp, .inl ⟨_, _, rfl, run_takeDeferred HD.out, ?_⟩⟩
    have hg := putObj_grown W (w1.heap.size + 3) (.deferred none)
    refine ⟨_, results_tmp rfl _ _ _, ?_⟩
    obtain ⟨x1, x2, x3, x4, x5, x6, x7⟩ := HO.out
    have hww := HH.out.2.size
    refine ⟨V, m, cV, xs, R, rfl, ?_, x6, x5.far hg (by omega) (by omega), gr_far (grown_tr HH.out.2 x3) hg (by omega), x4, (x1.kept hg (.inr (fun e => by have := (x1.blk_lt e).1; omega))).lower (by omega), (x2.keep hg (fun k hk => by injection hk with hk; omega)).lower (by omega)⟩
    rw [HYES.out]
    cases hR : R with
    | true => rw [x6 hR]; rfl
    | false => rw [x7 hR]; rfl
  case stop => exact fun _ _ _ h => h.elim
  case round =>
    rw [HS0.out]
    rintro pre x W r o hL hD ⟨hi, _⟩ hq hlen
    obtain ⟨⟨V, m, cV, hout, hm, hown⟩, hso, hgr⟩ := hi
    obtain ⟨X, xn, xc, xbs⟩ := x
    dsimp only at hq
    obtain ⟨hq1, hq2, hq3⟩ := hq
    simp only [sigEnc, Own1.val]
    gi_wp2
    have hLlt := block_lt hL
    refine ⟨hL, hD, fun b hb => trivial, fun r' => ?_⟩
    have hgP := putObj_grown W (w1.heap.size + 3 + 1) (.loop r')
    have b0 : (W.putObj (w1.heap.size + 3 + 1) (.loop r')).heap[w1.heap.size]? = some (.cells #[.slice V m cV] 28) := (World.putObj_heap_other (by omega)).trans hout
    have bL : (W.putObj (w1.heap.size + 3 + 1) (.loop r')).heap[w1.heap.size + 3 + 1]? = some (.loop r') := World.putObj_heap_same (by omega)
    have bO : OwnR (W.putObj (w1.heap.size + 3 + 1) (.loop r')) (w1.heap.size + 5) 22 1 V m cV (pre.map Own1.val) := hown.kept hgP (.inr (fun e => by have := (hown.blk_lt e).1; omega))
    have bS : SigsOwn (w1.heap.size + 5) (pre ++ [((X, xn, xc, xbs) : Own1)]) W := by
      refine ⟨fun y hy => ?_, ?_⟩
      · rcases List.mem_append.1 hy with hy | hy
        · exact hso.own y hy
        · rw [List.mem_singleton.1 hy]; exact ⟨hq1, hq2⟩
      · rw [List.pairwise_append]
        refine ⟨hso.far, List.pairwise_singleton _ _, fun y hy z hz => ?_⟩
        rw [List.mem_singleton.1 hz]
        exact hq3 y hy
    have bG : w1.grownBy (W.putObj (w1.heap.size + 3 + 1) (.loop r')) (some g) := gr_far hgr hgP (by omega)
    have bS := Lib.hid (bS.keep hgP (fun k hk => by injection hk with hk; omega))
    have hoth : ∀ j, j ≠ w1.heap.size + 3 + 1 → (W.putObj (w1.heap.size + 3 + 1) (.loop r')).heap[j]? = W.heap[j]? := fun j hj => World.putObj_heap_other hj
    have hzb : (W.putObj (w1.heap.size + 3 + 1) (.loop r')).heap.size = W.heap.size := by simp [World.putObj]
    generalize (W.putObj (w1.heap.size + 3 + 1) (.loop r')) = Wb at *
    have hc0 := cells_1 b0
    have hf0 := free_1 b0
    have HM := Lib.hid hm
    have hm2 : m ≤ 1000000000 := by omega
    have hWz : w1.heap.size + 5 ≤ Wb.heap.size := by have := block_lt bL; omega
    have HT := Lib.hid (And.intro hoth (And.intro hzb (And.intro bG (And.intro bL hLlt))))
    clear hm hoth hgP hown hso hgr hq1 hq2 hq3 hout hzb hL hlen bG bL
    gi_wp2_with (gi_at_builtin; refine wpListIn_appL bss_rowP _ _ rfl rfl (w1.heap.size + 5) V m cV _ rfl (bO.alloc _) _ 1 1 #[.slice X xn xc] (0, 0) rfl (has_new _ _) rfl (by intro u hu; simp at hu; subst hu; rfl) (by unfold maxLen; omega) (by omega) (by simp; omega) ?_; intro A4 c4 w4 hown4 hg4; have hne4 : ∀ j, j < w1.heap.size + 5 → some j ≠ blk V := (fun j hj e => by have := (bO.blk_lt e.symm).1; omega); have d0 : w4.heap[w1.heap.size]? = some (.cells #[.slice V m cV] 28) := ((hg4.block _ (by simp; omega) (hne4 _ (by omega))).trans (has_alloc b0 _)); have d1 := cells_1 d0; have d2 := free_1 d0)
    obtain ⟨hoth, hzb, bG, bL, hLlt⟩ := HT.out
    have hk : ∀ j, j < w1.heap.size + 5 → j ≠ w1.heap.size → (w4.setCell ⟨w1.heap.size, 0, none⟩ (.slice A4 (m + 1) c4)).heap[j]? = Wb.heap[j]? := fun j hj hne =>
      (heap_set_far _ _ _ _ _ hne).trans ((hg4.block j (by simp; omega) (hne4 _ hj)).trans (heap_alloc_old _ _ (by omega)))
    have hsz4 := hg4.size
    simp at hsz4
    refine ⟨(hk _ (by omega) (by omega)).trans bL, hk _ (by omega) (by omega), fun b hb => hk b (by omega) (by omega), ⟨⟨⟨A4, m + 1, c4, set_1 d0, by simp [HM.out], ?_⟩, ?_, ?_⟩, fun e => by simp at e⟩⟩
    · have := hown4.kept (grown_one w4 (w1.heap.size) 0 (.slice A4 (m + 1) c4)) (.inr (fun e => by have := (hown4.blk_lt e).1; omega))
      simpa [Own1.val] using this
    · exact ((bS.out.below ((Below.refl _ _).alloc (Nat.le_refl _) _)).row (bO.alloc _) hg4).keep (grown_one _ _ _ _) (fun k hk => by injection hk with hk; omega)
    · refine gr_far ?_ (grown_one w4 (w1.heap.size) 0 (.slice A4 (m + 1) c4)) (Nat.le_refl _)
      have ga := gr_new bG ((Below.refl w1.heap.size Wb).alloc bG.size (.cells #[.slice X xn xc] 22))
      exact ⟨hg4.os.trans ga.os, hg4.tape.trans ga.tape, hg4.output.trans ga.output, Nat.le_trans ga.size hg4.size, fun i hi hne => (hg4.block i (Nat.lt_of_lt_of_le hi ga.size) (hne4 i (by omega))).trans (ga.block i hi hne)⟩
theorem sigs_any {w0 : World} {g : Nat} {A : Option Addr} {n c : Nat} {bs : List UInt8} {R : Bool} {w : World} (hI : Img w0 A n c bs) (h : RdS w0 g A n c R w) (table length end_ : Nat) (ht : table < 4294967296) (hl : length < 4294967296) (he : end_ ≤ 17179869184) :
    Calls Tryz.prog 32 #[.pointer (some ⟨g, 0, none⟩), .int .i64 (table : Nat), .int .i64 (length : Nat), .int .i64 (end_ : Nat)] w (SigPost w0 w g A n c R bs table length end_) := by
  cases hq : (R && sgB n table length end_) with
  | false => exact sigs_no hI h table length end_ ht hl he hq
  | true =>
    rw [Bool.and_eq_true] at hq
    obtain ⟨rfl, hq⟩ := hq
    exact sigs_yes hI h table length end_ ht hl he hq
end Go.Proofs.YtcedojmhgmgcgaaGreatDoor
