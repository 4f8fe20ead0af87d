/-
  siglist: the map of known items (made by genSi2.py).
-/
import Derived.Test.YtfampefflkkckaaDoorSiP
import Derived.Maps.OwnOps
import Derived.Deep.RegionHeld3
import Derived.Deep.DrawnRows
import Derived.Test.YtfampefflkkckaaDoorSi2
import Derived.Test.YtfampefflkkckaaDoorSiAd
namespace Go.Proofs.YtfampefflkkckaaDoor
open Go.RowKit Go
set_option linter.unusedVariables false
set_option linter.unusedSimpArgs false
set_option maxRecDepth 100000

/-! ### Plain: one item more -/
theorem seen_snoc (k : UInt8) (is : List Itm) (y : Itm) (seen : List KI) : seenQ k (is ++ [y]) seen = if (k, y) ∈ seenQ k is seen then seenQ k is seen else (k, y) :: seenQ k is seen := by
  induction is generalizing seen with
  | nil => by_cases hm : (k, y) ∈ seen <;> simp [hm, seenQ]
  | cons x is ih =>
    rw [List.cons_append, seenQ, seenQ]
    split
    · exact ih _
    · exact ih _
theorem fresh_snoc (k : UInt8) (is : List Itm) (y : Itm) (seen : List KI) : freshQ k (is ++ [y]) seen = if (k, y) ∈ seenQ k is seen then freshQ k is seen else freshQ k is seen ++ [y] := by
  induction is generalizing seen with
  | nil => by_cases hm : (k, y) ∈ seen <;> simp [hm, seenQ, freshQ]
  | cons x is ih =>
    rw [List.cons_append, freshQ, freshQ, seenQ]
    split
    · exact ih _
    · rw [ih]
      split
      · rfl
      · rfl
/-! ### The keys -/
def keyV (z : KI) : Value := .agg (bv z.1 :: (z.2.1.map bv ++ [.string (strOf z.2.2)])).toArray
theorem str_known (a b : List UInt8) : (strOf a).toList = (strOf b).toList ↔ a = b := by rw [strOf_toList, strOf_toList]
theorem eq3 {P : Program} {w : World} {d : Nat} {xs ys : Array Value} {f0 f1 f2 : Field} {x0 y0 x1 y1 x2 y2 : Value} {c e f : Bool} (n0 : f0.name ≠ "_") (n1 : f1.name ≠ "_") (n2 : f2.name ≠ "_") (a0 : (part f0.type xs f0.offset).run P w = .ok x0 w) (b0 : (part f0.type ys f0.offset).run P w = .ok y0 w)
    (a1 : (part f1.type xs f1.offset).run P w = .ok x1 w) (b1 : (part f1.type ys f1.offset).run P w = .ok y1 w) (a2 : (part f2.type xs f2.offset).run P w = .ok x2 w) (b2 : (part f2.type ys f2.offset).run P w = .ok y2 w) (h0 : (Op.equalIn d f0.type x0 y0).run P w = .ok c w) (h1 : (Op.equalIn d f1.type x1 y1).run P w = .ok e w) (h2 : (Op.equalIn d f2.type x2 y2).run P w = .ok f w) :
    (Op.eqFields d xs ys [f0, f1, f2]).run P w = .ok (c && (e && f)) w := by
  unfold Op.eqFields
  rw [if_pos n0]
  simp only [Sem.run_bind, a0, b0, h0, Result.andThen_ok]
  cases c with
  | false => simp only [Bool.not_false, if_true, Sem.run_pure, Bool.false_and]
  | true =>
    simp only [Bool.not_true, Bool.false_eq_true, if_false, Bool.true_and]
    unfold Op.eqFields
    rw [if_pos n1]
    simp only [Sem.run_bind, a1, b1, h1, Result.andThen_ok]
    cases e with
    | false => simp only [Bool.not_false, if_true, Sem.run_pure, Bool.false_and]
    | true =>
      simp only [Bool.not_true, Bool.false_eq_true, if_false, Bool.true_and]
      unfold Op.eqFields
      rw [if_pos n2]
      simp only [Sem.run_bind, a2, b2, h2, Result.andThen_ok]
      cases f with
      | false => simp only [Bool.not_false, if_true, Sem.run_pure]
      | true =>
        simp only [Bool.not_true, Bool.false_eq_true, if_false]
        unfold Op.eqFields
        simp only [Sem.run_pure]
/-- Are two keys one? -/
theorem key_same (x y : KI) (hx : x.2.1.length = 16) (hy : y.2.1.length = 16) (w : World) : (Op.equal 75 (keyV x) (keyV y)).run Tryd.prog w = .ok (decide (x = y)) w := by
  obtain ⟨k, o, d⟩ := x
  obtain ⟨j, o', d'⟩ := y
  have hs := guid_eq o o' hx hy w 9997
  have hst := run_equalIn_string (P := Tryd.prog) w 9998 9 (strOf d) (strOf d') Tryd.underlying9
  have hk : (Op.equalIn 9999 5 (bv k) (bv j)).run Tryd.prog w = .ok (decide (k = j)) w := by
    simp [go_sem, Tryd.underlying5]
    rw [Bool.eq_iff_iff, beq_iff_eq, decide_eq_true_iff, u8_same]
  have E : decide ((k, o, d) = (j, o', d')) = (decide (k = j) && (decide (o = o') && ((strOf d).toList == (strOf d').toList))) := by
    rw [Bool.eq_iff_iff]
    simp only [decide_eq_true_eq, Bool.and_eq_true, Prod.mk.injEq, beq_iff_eq, str_known]
  rw [E]
  clear E
  generalize decide (o = o') = b2 at hs ⊢
  generalize decide (k = j) = b1 at hk ⊢
  obtain ⟨p0, p1, p2, p3, p4, p5, p6, p7, p8, p9, p10, p11, p12, p13, p14, p15, rfl⟩ := list16 hx
  obtain ⟨q0, q1, q2, q3, q4, q5, q6, q7, q8, q9, q10, q11, q12, q13, q14, q15, rfl⟩ := list16 hy
  show (Op.equal 75 (.agg #[bv k, bv p0, bv p1, bv p2, bv p3, bv p4, bv p5, bv p6, bv p7, bv p8, bv p9, bv p10, bv p11, bv p12, bv p13, bv p14, bv p15, .string (strOf d)]) (.agg #[bv j, bv q0, bv q1, bv q2, bv q3, bv q4, bv q5, bv q6, bv q7, bv q8, bv q9, bv q10, bv q11, bv q12, bv q13, bv q14, bv q15, .string (strOf d')])).run Tryd.prog w = _
  generalize strOf d = s at *
  generalize strOf d' = t at *
  have a0 : (part 5 #[bv k, bv p0, bv p1, bv p2, bv p3, bv p4, bv p5, bv p6, bv p7, bv p8, bv p9, bv p10, bv p11, bv p12, bv p13, bv p14, bv p15, .string s] 0).run Tryd.prog w = .ok (bv k) w := by kernel_rfl
  have b0 : (part 5 #[bv j, bv q0, bv q1, bv q2, bv q3, bv q4, bv q5, bv q6, bv q7, bv q8, bv q9, bv q10, bv q11, bv q12, bv q13, bv q14, bv q15, .string t] 0).run Tryd.prog w = .ok (bv j) w := by kernel_rfl
  have a1 : (part 47 #[bv k, bv p0, bv p1, bv p2, bv p3, bv p4, bv p5, bv p6, bv p7, bv p8, bv p9, bv p10, bv p11, bv p12, bv p13, bv p14, bv p15, .string s] 1).run Tryd.prog w = .ok (.agg ([p0, p1, p2, p3, p4, p5, p6, p7, p8, p9, p10, p11, p12, p13, p14, p15].map bv).toArray) w := by kernel_rfl
  have b1 : (part 47 #[bv j, bv q0, bv q1, bv q2, bv q3, bv q4, bv q5, bv q6, bv q7, bv q8, bv q9, bv q10, bv q11, bv q12, bv q13, bv q14, bv q15, .string t] 1).run Tryd.prog w = .ok (.agg ([q0, q1, q2, q3, q4, q5, q6, q7, q8, q9, q10, q11, q12, q13, q14, q15].map bv).toArray) w := by kernel_rfl
  have a2 : (part 9 #[bv k, bv p0, bv p1, bv p2, bv p3, bv p4, bv p5, bv p6, bv p7, bv p8, bv p9, bv p10, bv p11, bv p12, bv p13, bv p14, bv p15, .string s] 17).run Tryd.prog w = .ok (.string s) w := by kernel_rfl
  have b2 : (part 9 #[bv j, bv q0, bv q1, bv q2, bv q3, bv q4, bv q5, bv q6, bv q7, bv q8, bv q9, bv q10, bv q11, bv q12, bv q13, bv q14, bv q15, .string t] 17).run Tryd.prog w = .ok (.string t) w := by kernel_rfl
  unfold Op.equal Op.maxDepth
  rw [run_equalIn_agg w 9999 75 _ _ (by kernel_rfl) (by kernel_rfl)]
  simp only [Program.fieldsOf, Tryd.underlying75]
  exact eq3 (by decide) (by decide) (by decide) a0 b0 a1 b1 a2 b2 hk hs hst
theorem key_ok (z : KI) (h : z.2.1.length = 16) : ∀ w b, (Instr.checkKey b 10000 75 (keyV z)).run Tryd.prog w = .ok () w := by
  obtain ⟨k, o, d⟩ := z
  obtain ⟨p0, p1, p2, p3, p4, p5, p6, p7, p8, p9, p10, p11, p12, p13, p14, p15, rfl⟩ := list16 h
  intro w b
  show (Instr.checkKey b 10000 75 (.agg #[bv k, bv p0, bv p1, bv p2, bv p3, bv p4, bv p5, bv p6, bv p7, bv p8, bv p9, bv p10, bv p11, bv p12, bv p13, bv p14, bv p15, .string (strOf d)])).run Tryd.prog w = _
  generalize strOf d = s
  cases b <;> kernel_rfl
/-! ### The map -/
def MapK (w : World) (B : Nat) (seen : List KI) : Prop := ∃ es clk, w.heap[B]? = some (.map es clk) ∧ (∀ m ∈ es.toList, ∃ z ∈ seen, m.key = keyV z ∧ m.val = .bool true) ∧ (∀ z ∈ seen, ∃ m ∈ es.toList, m.key = keyV z) ∧ ∀ z ∈ seen, z.2.1.length = 16
theorem MapK.mono {w : World} {B : Nat} {s s' : List KI} (h : MapK w B s) (hs : ∀ z, z ∈ s ↔ z ∈ s') : MapK w B s' := by
  obtain ⟨es, clk, h1, h2, h3, h4⟩ := h
  exact ⟨es, clk, h1, fun m hm => by
    obtain ⟨z, hz, hk⟩ := h2 m hm
    exact ⟨z, (hs z).1 hz, hk⟩, fun z hz => h3 z ((hs z).2 hz), fun z hz => h4 z ((hs z).2 hz)⟩
theorem MapK.same {w w' : World} {B : Nat} {s : List KI} (h : MapK w B s) (hw : w'.heap[B]? = w.heap[B]?) : MapK w' B s := by
  obtain ⟨es, clk, h1, h2⟩ := h
  exact ⟨es, clk, hw.trans h1, h2⟩
theorem MapK.lt {w : World} {B : Nat} {s : List KI} (h : MapK w B s) : B < w.heap.size := by
  obtain ⟨es, clk, h1, h2⟩ := h
  exact block_lt h1
theorem MapK.below {w w' : World} {B : Nat} {s : List KI} (h : MapK w B s) (hb : Below w.heap.size w w') : MapK w' B s := h.same (hb.block B h.lt)
theorem MapK.new (w : World) : MapK (w.alloc (.map #[] 0)) w.heap.size [] := ⟨#[], 0, has_new w _, (fun m hm => by simp at hm), (fun z hz => by cases hz), fun z hz => by cases hz⟩
theorem und58 : Tryd.prog.underlying 58 = some (.map 75 4) := Tryd.underlying58
/-- Looking for a key. -/
theorem kfind (x : KI) (hx : x.2.1.length = 16) (w : World) : ∀ (es : List MapEntry) (i : Nat), (∀ m ∈ es, ∃ z : KI, m.key = keyV z ∧ m.val = .bool true ∧ z.2.1.length = 16) →
    ∃ r : Option (Nat × Value), (Instr.findAsking 75 (keyV x) es i).run Tryd.prog w = .ok r w ∧ (match r with | some (_, u) => u = .bool true ∧ ∃ m ∈ es, m.key = keyV x | none => ∀ m ∈ es, ∀ z : KI, z.2.1.length = 16 → m.key = keyV z → z ≠ x)
  | [], i, _ => ⟨none, by simp [Instr.findAsking], fun m hm => by cases hm⟩
  | m :: es, i, h => by
    obtain ⟨z, hk, hv, hz⟩ := h m List.mem_cons_self
    have h1 := key_same x z hx hz w
    rw [← hk] at h1
    by_cases e : x = z
    · rw [decide_eq_true e] at h1
      refine ⟨some (i, m.val), ?_, hv, m, List.mem_cons_self, by rw [hk, e]⟩
      simp only [Instr.findAsking, Sem.run_bind, h1, Result.andThen_ok, if_true]
      rfl
    · rw [decide_eq_false e] at h1
      obtain ⟨r, hr, hm⟩ := kfind x hx w es (i + 1) (fun q hq => h q (List.mem_cons_of_mem _ hq))
      refine ⟨r, ?_, ?_⟩
      · simp only [Instr.findAsking, Sem.run_bind, h1, Result.andThen_ok, Bool.false_eq_true, if_false]
        exact hr
      · cases r with
        | some p => exact ⟨hm.1, by obtain ⟨q, hq, hqk⟩ := hm.2; exact ⟨q, List.mem_cons_of_mem _ hq, hqk⟩⟩
        | none =>
          intro q hq z' hz' hqk e'
          rcases List.mem_cons.1 hq with hq | hq
          · subst hq
            have h2 := key_same x z' hx hz' w
            rw [← hqk, h1] at h2
            injection h2 with h2
            rw [decide_eq_true e'.symm] at h2
            cases h2
          · exact hm q hq z' hz' hqk e'
theorem kfindKey (x : KI) (hx : x.2.1.length = 16) (w : World) (es : List MapEntry) (h : ∀ m ∈ es, ∃ z : KI, m.key = keyV z ∧ m.val = .bool true ∧ z.2.1.length = 16) :
    ∃ r : Option (Nat × Value), (Instr.findKey 75 (keyV x) es).run Tryd.prog w = .ok r w ∧ (match r with | some (_, u) => u = .bool true ∧ ∃ m ∈ es, m.key = keyV x | none => ∀ m ∈ es, ∀ z : KI, z.2.1.length = 16 → m.key = keyV z → z ≠ x) := by
  obtain ⟨r, hr, hm⟩ := kfind x hx w es 0 h
  refine ⟨r, ?_, hm⟩
  unfold keyV at hr ⊢
  unfold Instr.findKey
  simp only [Sem.run_bind, run_underlying Tryd.underlying75, Result.andThen_ok]
  cases es with
  | nil =>
    simp only [Instr.findNow, Sem.run_pure]
    simp only [Instr.findAsking, Sem.run_pure] at hr
    exact hr
  | cons m es =>
    simp only [Instr.findNow, Instr.sameNow]
    exact hr
/-- What the map says of a key. -/
theorem klook {w : World} {B : Nat} {seen : List KI} (hM : MapK w B seen) (x : KI) (hx : x.2.1.length = 16) : (Instr.lookup 58 (.map (some B)) (keyV x) false).run Tryd.prog w = .ok (.bool (decide (x ∈ seen))) w := by
  obtain ⟨es, clk, hb, h1, h2, h3⟩ := hM
  obtain ⟨r, hr, hq⟩ := kfindKey x hx w es.toList (fun m hm => by
    obtain ⟨z, hz, hk, hv⟩ := h1 m hm
    exact ⟨z, hk, hv, h3 z hz⟩)
  have hg : (getObj B).run Tryd.prog w = .ok (.map es clk) w := by simp [getObj, Sem.run, hb]
  have hz : (zeroValue 4).run Tryd.prog w = .ok (.bool false) w := by kernel_rfl
  unfold Instr.lookup
  simp only [Sem.run_bind, run_underlying und58, Result.andThen_ok, hg, Sem.run_pure, key_ok x hx, hr]
  cases r with
  | some p =>
    obtain ⟨i, u⟩ := p
    obtain ⟨rfl, m, hm, hk⟩ := hq
    obtain ⟨z, hz2, hk2, _⟩ := h1 m hm
    have he : x = z := by
      have h9 := key_same x z hx (h3 z hz2) w
      have h8 := key_same x x hx hx w
      rw [hk] at hk2
      rw [← hk2, h8] at h9
      injection h9 with h9
      rw [decide_eq_true rfl] at h9
      exact of_decide_eq_true h9.symm
    rw [decide_eq_true (by rw [he]; exact hz2)]
    rfl
  | none =>
    rw [decide_eq_false (fun hmem => by
      obtain ⟨m, hm, hk⟩ := h2 x hmem
      exact hq m hm x hx hk rfl)]
    simp only [Sem.run_bind, hz, Result.andThen_ok, Sem.run_pure]
    rfl
/-! ### All blocks but the map stay -/
structure MB (B : Nat) (w w' : World) : Prop where
  os : w'.os = w.os
  tape : w'.tape = w.tape
  output : w'.output = w.output
  size : w.heap.size ≤ w'.heap.size
  block : ∀ k, k < w.heap.size → k ≠ B → w'.heap[k]? = w.heap[k]?
  map : (∃ es clk, w.heap[B]? = some (.map es clk)) → ∃ es clk, w'.heap[B]? = some (.map es clk)
theorem MB.refl (B : Nat) (w : World) : MB B w w := ⟨rfl, rfl, rfl, Nat.le_refl _, fun _ _ _ => rfl, id⟩
theorem MB.trans {B : Nat} {a b d : World} (h : MB B a b) (k : MB B b d) : MB B a d := ⟨k.os.trans h.os, k.tape.trans h.tape, k.output.trans h.output, Nat.le_trans h.size k.size, fun i hi hn => (k.block i (Nat.lt_of_lt_of_le hi h.size) hn).trans (h.block i hi hn), fun hm => k.map (h.map hm)⟩
theorem MB.below {B : Nat} {w w' : World} (h : Below w.heap.size w w') : MB B w w' := ⟨h.os, h.tape, h.output, h.size, fun k hk _ => h.block k hk, fun ⟨es, clk, hm⟩ => ⟨es, clk, has_below hm h⟩⟩
theorem MB.to {B : Nat} {wb w w' : World} (h : MB B w w') (hb : Below wb.heap.size wb w) (hB : wb.heap.size ≤ B) : Below wb.heap.size wb w' := ⟨h.os.trans hb.os, h.tape.trans hb.tape, h.output.trans hb.output, Nat.le_trans hb.size h.size, fun k hk => (h.block k (Nat.lt_of_lt_of_le hk hb.size) (by omega)).trans (hb.block k hk)⟩
theorem MB.ownR {B : Nat} {w w' : World} (h : MB B w w') {base n c k : Nat} {e : TypeId} {A : Option Addr} {vs : List Value} (ho : OwnR w base e k A n c vs) (hM : ∃ es clk, w.heap[B]? = some (.map es clk)) : OwnR w' base e k A n c vs := by
  refine ⟨ho.1, ?_⟩
  rcases ho.2 with h2 | ⟨g, cap, cur, h3, h4, h5, h6⟩
  · exact .inl h2
  · refine .inr ⟨g, cap, cur, h3, h4, ?_, h6⟩
    rw [h.block g (block_lt h5) (fun e => by
      obtain ⟨es, clk, hm⟩ := hM
      rw [e, hm] at h5
      injection h5 with h5
      cases h5)]
    exact h5
theorem MB.has {B : Nat} {w w' : World} (h : MB B w w') {g : Nat} {cs : Array Value} {t : TypeId} {mk : Nat × Nat} (hg : w.heap[g]? = some (.cells cs t mk)) (hne : g ≠ B) : w'.heap[g]? = some (.cells cs t mk) := by
  rw [h.block g (block_lt hg) hne, hg]
/-- The map with an entry more. -/
def putK (w : World) (B : Nat) (es : Array MapEntry) (clk : Nat) (x v : Value) : World := { w with heap := w.heap.setIfInBounds B (.map (es.push { key := x, val := v, born := clk }) (clk + 1)) }
theorem kupd {w : World} {B : Nat} {seen : List KI} (hM : MapK w B seen) (x : KI) (hx : x.2.1.length = 16) (hn : x ∉ seen) : ∃ w', (Instr.mapUpdate 58 (.map (some B)) (keyV x) (.bool true)).run Tryd.prog w = .ok () w' ∧ MapK w' B (x :: seen) ∧ MB B w w' := by
  have hlt := hM.lt
  obtain ⟨es, clk, hb, h1, h2, h3⟩ := hM
  obtain ⟨r, hr, hq⟩ := kfindKey x hx w es.toList (fun m hm => by
    obtain ⟨z, hz, hk, hv⟩ := h1 m hm
    exact ⟨z, hk, hv, h3 z hz⟩)
  have hnn : r = none := by
    cases r with
    | none => rfl
    | some p =>
      exfalso
      obtain ⟨_, m, hm, hk⟩ := hq
      obtain ⟨z, hz2, hk2, _⟩ := h1 m hm
      have h9 := key_same x z hx (h3 z hz2) w
      have h8 := key_same x x hx hx w
      rw [hk] at hk2
      rw [← hk2, h8] at h9
      injection h9 with h9
      rw [decide_eq_true rfl] at h9
      exact hn ((of_decide_eq_true h9.symm : x = z) ▸ hz2)
  subst hnn
  have hg : (getObj B).run Tryd.prog w = .ok (.map es clk) w := by simp [getObj, Sem.run, hb]
  have hst : ∀ o, (setObj B o).run Tryd.prog w = .ok () { w with heap := w.heap.setIfInBounds B o } := fun o => by simp [setObj, Sem.run, hb]
  have hnew : (putK w B es clk (keyV x) (.bool true)).heap[B]? = some (.map (es.push { key := keyV x, val := .bool true, born := clk }) (clk + 1)) := by
    show (w.heap.setIfInBounds B _)[B]? = _
    rw [Array.getElem?_setIfInBounds_self_of_lt hlt]
  refine ⟨putK w B es clk (keyV x) (.bool true), ?_, ⟨_, _, hnew, ?_, ?_, ?_⟩, ⟨rfl, rfl, rfl, by simp [putK], fun k hk hne => by
    show (w.heap.setIfInBounds B _)[k]? = _
    rw [Array.getElem?_setIfInBounds_ne (Ne.symm hne)], fun _ => ⟨_, _, hnew⟩⟩⟩
  · unfold Instr.mapUpdate
    simp only [Sem.run_bind, run_underlying und58, Result.andThen_ok, hg, key_ok x hx, hr, hst]
    rfl
  · intro m hm
    rw [Array.toList_push] at hm
    rcases List.mem_append.1 hm with hm | hm
    · obtain ⟨z, hz, hk⟩ := h1 m hm
      exact ⟨z, List.mem_cons_of_mem _ hz, hk⟩
    · rw [List.mem_singleton.1 hm]
      exact ⟨x, List.mem_cons_self, rfl, rfl⟩
  · intro z hz
    rw [Array.toList_push]
    rcases List.mem_cons.1 hz with rfl | hz
    · exact ⟨_, List.mem_append_right _ (List.mem_singleton.2 rfl), rfl⟩
    · obtain ⟨m, hm, hk⟩ := h2 z hz
      exact ⟨m, List.mem_append_left _ hm, hk⟩
  · intro z hz
    rcases List.mem_cons.1 hz with rfl | hz
    · exact hx
    · exact h3 z hz
theorem wpList_klook {ops : Array Oper} {rest : List Oper} {o : Oper} {a : Act} {w : World} {Q : Exit → Act → World → Prop} (hgd : o.guard = none) (T : TypeId) (m k : Operand) (ho : o.op = .lookup T m k false) (B : Nat) (hm : a.eval m = .map (some B)) (x : Value) (hx : a.eval k = x) (v : Value) (hrun : (Instr.lookup T (.map (some B)) x false).run Tryd.prog w = .ok v w)
    (h : wpList Tryd.prog ops Q rest (a.put o.dst v) w) : wpList Tryd.prog ops Q (o :: rest) a w := by
  refine wpList_plain hgd fun K hK => ?_
  unfold Oper.wp execOp
  simp only [ho, Sem.run_bind, Sem.run_pure, Result.andThen_ok, hm, hx, hrun]
  exact hK _ _ h
theorem wpList_kupd {ops : Array Oper} {rest : List Oper} {o : Oper} {a : Act} {w w' : World} {Q : Exit → Act → World → Prop} (hgd : o.guard = none) (T : TypeId) (m k v : Operand) (ho : o.op = .mapUpdate T m k v) (hd : o.dst = none) (B : Nat) (hm : a.eval m = .map (some B)) (x : Value) (hx : a.eval k = x) (u : Value) (hv : a.eval v = u) (hrun : (Instr.mapUpdate T (.map (some B)) x u).run Tryd.prog w = .ok () w')
    (h : wpList Tryd.prog ops Q rest a w') : wpList Tryd.prog ops Q (o :: rest) a w := by
  refine wpList_plain hgd fun K hK => ?_
  unfold Oper.wp execOp
  simp only [ho, Sem.run_bind, Sem.run_pure, Result.andThen_ok, hm, hx, hv, hrun]
  exact hK _ _ (by rw [hd]; exact h)
end Go.Proofs.YtfampefflkkckaaDoor
namespace Go.Proofs.YtfampefflkkckaaDoor
open Go.RowKit Go
set_option linter.unusedVariables false
set_option linter.unusedSimpArgs false
set_option maxRecDepth 100000

attribute [local go_sem ↓] Go.wp_at_zero Go.wp_at_succ
/-- The items that were not seen; now they are. -/
def FreshPost (wb w : World) (B : Nat) (k : UInt8) (is : List Itm) (seen : List KI) (e : Ending) (w' : World) : Prop :=
  ∃ (A' : Option Addr) (n' c' : Nat) (zs' : List IM), e = .returned (.slice A' n' c') ∧ zs'.map IM.itm = freshQ k is seen ∧ (∀ z ∈ zs', ImR wb z) ∧ OwnR w' w.heap.size 49 17 A' n' c' (zs'.flatMap IM.cells) ∧ MapK w' B (seenQ k is seen) ∧ MB B w w'
theorem key_build (k : UInt8) (o d : List UInt8) (h : o.length = 16) : ∃ xs, keyV (k, (o, d)) = .agg xs ∧ xs.size = 18 := ⟨_, rfl, by simp [h]⟩
theorem fresh_le (k : UInt8) (is : List Itm) (seen : List KI) : (freshQ k is seen).length ≤ is.length := by
  induction is generalizing seen with
  | nil => exact Nat.le_refl _
  | cons x is ih =>
    rw [freshQ]
    split
    · exact Nat.le_trans (ih _) (Nat.le_succ _)
    · exact Nat.succ_le_succ (ih _)
theorem grown_map {w w' : World} {base n c k B : Nat} {e : TypeId} {A : Option Addr} {vs : List Value} (ho : OwnR w base e k A n c vs) (hg : w.grownBy w' (blk A)) (hM : ∃ es clk, w.heap[B]? = some (.map es clk)) : w'.heap[B]? = w.heap[B]? := by
  obtain ⟨es, clk, hm⟩ := hM
  refine hg.block B (block_lt hm) fun e => ?_
  obtain ⟨cur, h1⟩ := ho.kind B e.symm
  rw [hm] at h1
  injection h1 with h1
  cases h1
theorem MB.grown {B : Nat} {W1 w w' : World} (h : MB B W1 w) {n c k : Nat} {e : TypeId} {A : Option Addr} {vs : List Value} (ho : OwnR w W1.heap.size e k A n c vs) (hg : w.grownBy w' (blk A)) (hM : ∃ es clk, w.heap[B]? = some (.map es clk)) : MB B W1 w' :=
  ⟨hg.os.trans h.os, hg.tape.trans h.tape, hg.output.trans h.output, Nat.le_trans h.size hg.size, fun i hi hn => (hg.block i (Nat.lt_of_lt_of_le hi h.size) (fun e => by
    have := (ho.blk_lt e.symm).1
    omega)).trans (h.block i hi hn), fun _ => by
    obtain ⟨es, clk, hm⟩ := hM
    exact ⟨es, clk, (grown_map ho hg ⟨es, clk, hm⟩).trans hm⟩⟩
theorem ItemsZ.below' {wb w : World} {A : Option Addr} {n : Nat} {zs : List IM} (h : ItemsZ wb A n zs) (hb : Below wb.heap.size wb w) : ItemsZ w A n zs := h.below hb
set_option maxHeartbeats 8000000 in
theorem fresh_any (wb : World) (B : Nat) (seen : List KI) (k : UInt8) (A : Option Addr) (n c : Nat) (zs : List IM) (w : World) (hb : Below wb.heap.size wb w) (hB : wb.heap.size ≤ B) (hM : MapK w B seen) (hI : ItemsZ wb A n zs) (hc : n ≤ c) (hcm : c ≤ 9223372036854775807) (hn : n ≤ 2000000) :
    Calls Tryd.prog 32 #[.map (some B), .agg #[.int .u8 (k.toNat : Int), .slice A n c]] w (FreshPost wb w B k (zs.map IM.itm) seen) := by
  have hl := hI.len
  have hlt := hM.lt
  have HI := Lib.hid (And.intro hI (And.intro hl (And.intro hb hB)))
  have HM := Lib.hid hM
  clear hI hM hb hl hB
  go_enter Tryd.func32, Tryd.ntmps32
  go_upto_region 2 with fail
  refine wp_nm fun W1 hW1 => ?_
  have P1 : W1.heap[w.heap.size]? = some (.cells #[.int .u8 (k.toNat : Int), .slice A n c] 41) ∧ Below w.heap.size w W1 := by rw [← hW1]; exact ⟨has_new w _, kp_alloc (Below.refl _ _) _⟩
  clear hW1
  obtain ⟨e0, e1⟩ := cells_2 P1.1
  have HP1 := Lib.hid (And.intro P1.1 (And.intro P1.2 (And.intro (P1.2.size) (And.intro (block_lt P1.1) hlt))))
  clear P1 hlt
  go_wp2
  clear e0 e1
  go_loopw [5, 12] (fun v u wl => ∃ (i : Nat) (A' : Option Addr) (n' c' : Nat), v = .slice A' n' c' ∧ u = .int .i64 (i : Int) ∧ i ≤ n ∧ Hid (∃ zs' : List IM, zs'.map IM.itm = freshQ k ((zs.take i).map IM.itm) seen ∧ (∀ z ∈ zs', ImR wb z) ∧ OwnR wl W1.heap.size 49 17 A' n' c' (zs'.flatMap IM.cells) ∧ MapK wl B (seenQ k ((zs.take i).map IM.itm) seen) ∧ MB B W1 wl)) (fun _ u _ => (n - (intOf u).toNat))
  case atStart => exact ⟨0, none, 0, 0, rfl, rfl, Nat.zero_le _, [], by rw [List.take_zero]; rfl, (fun z hz => by cases hz), OwnR.nil _ _ _ _, by rw [List.take_zero]; exact HM.out.below (HP1.out.2.1), MB.refl _ _⟩
  case round =>
    obtain ⟨i, A', n', c', rfl, rfl, hi, zs', hz, hzr, ho, hm, hmb⟩ := hrel
    have hbw : Below wb.heap.size wb wr := hmb.to (HI.out.2.2.1.trans (HP1.out.2.1.mono HI.out.2.2.1.size)) HI.out.2.2.2
    have kb : wr.heap[w.heap.size]? = some (.cells #[.int .u8 (k.toNat : Int), .slice A n c] 41) := hmb.has HP1.out.1 (by have := HP1.out.2.2.2.2; omega)
    have hnl : n' ≤ i := by
      have h1 := ho.len
      rw [flat_len IM.cells 17 zs' (fun z hzz => z.cells_len (hzr z hzz).o)] at h1
      have h2 := congrArg List.length hz
      have h3 := fresh_le k ((zs.take i).map IM.itm) seen
      rw [List.length_map] at h2
      rw [List.length_map, List.length_take] at h3
      omega
    rcases Nat.lt_or_ge i n with hlt | hge
    · have l1 : decide ((i : Int) < (n : Int)) = true := decide_eq_true (by omega)
      have l2 : decide (i < n) = true := decide_eq_true hlt
      obtain ⟨z, b, off, hg, hA, hbl, hr, hz1⟩ := (HI.out.1.below' hbw).at_ hlt
      subst hA
      obtain ⟨o, d, A9, n9, c9⟩ := z
      have hz16 : o.length = 16 := hz1.o
      have hrd : RB wr A9 n9 d := hz1.r
      have K := Lib.hid (And.intro hr (And.intro hz16 (And.intro hg (And.intro hz (And.intro hzr (And.intro ho (And.intro hm (And.intro hmb (And.intro hbw (And.intro hnl kb))))))))))
      have hrd' := Lib.hid hrd
      clear hr hz1 hg hi hbl hz hzr ho hm hmb hbw hnl kb hz16 hrd
      go_upto_region 5 with (first
        | (with_reducible refine wpList_load_mid rfl _ _ rfl b (off + i * 17) rfl (IM.cells ⟨o, d, A9, n9, c9⟩) _ K.out.1 Tryd.underlying49 rfl (item_info3 ⟨o, d, A9, n9, c9⟩ K.out.2.1) ?_)
        | (refine wpList_store_row rfl _ _ _ rfl wr.heap.size (itmC o A9 n9 c9) rfl rfl _ _ (has_new wr _) (item_info2 K.out.2.1 _ _ _) (by rw [itmC_size K.out.2.1]; rfl) (itmC_one _ _ _ _) ?_))
      refine wp_nm fun W2 hW2 => ?_
      go_simp
      have hb2 : Below wr.heap.size wr W2 := by rw [← hW2]; exact below_setRow (kp_alloc (Below.refl _ _) _) (Nat.le_refl _) _
      have k2 : W2.heap[wr.heap.size]? = some (.cells (itmC o A9 n9 c9) 49) := by rw [← hW2]; exact setRow_heap _ _ _ _ _ _ (has_new wr _)
      clear hW2
      have SD : Hid ((convert 22 9 (.slice A9 n9 c9)).run Tryd.prog W2 = .ok (.string (strOf d)) W2) := by
        have h8 := hrd'.out.below hb2
        have h9 := run_strOf W2 W2.heap.size A9 d c9 h8.2
        rw [h8.1] at h9
        exact h9
      have HK2 := Lib.hid (And.intro k2 (And.intro hb2 hb2.size))
      have f0 := (cells_2 (has_below K.out.2.2.2.2.2.2.2.2.2.2 hb2)).1
      have f16 := item_cell k2 K.out.2.1
      have HKD := Lib.hid (And.intro k2 f16)
      clear k2 hb2
      obtain ⟨p0, p1, p2, p3, p4, p5, p6, p7, p8, p9, p10, p11, p12, p13, p14, p15, ho16⟩ := list16 K.out.2.1
      have SDo := SD.out
      have IG : Hid ((Tryd.prog.info? 47).map (·.size) = some ([bv p0, bv p1, bv p2, bv p3, bv p4, bv p5, bv p6, bv p7, bv p8, bv p9, bv p10, bv p11, bv p12, bv p13, bv p14, bv p15] : List Value).length) := by unfold Hid; kernel_rfl
      have RG : Hid (W2.rangeAt wr.heap.size 0 [bv p0, bv p1, bv p2, bv p3, bv p4, bv p5, bv p6, bv p7, bv p8, bv p9, bv p10, bv p11, bv p12, bv p13, bv p14, bv p15]) := fun j v hv => by
        have hj : j < 16 := (List.getElem?_eq_some_iff.1 hv).1
        rw [Nat.zero_add, cell_of_row _ _ _ _ _ _ HK2.out.1]
        unfold itmC
        rw [ho16, List.getElem?_toArray, List.getElem?_append_left (by simpa using hj)]
        exact hv
      go_upto_region 6 with (with_reducible refine wpList_load_mid rfl _ _ rfl wr.heap.size 0 rfl [bv p0, bv p1, bv p2, bv p3, bv p4, bv p5, bv p6, bv p7, bv p8, bv p9, bv p10, bv p11, bv p12, bv p13, bv p14, bv p15] _ RG.out Tryd.underlying47 rfl IG.out ?_)
      refine wp_nm fun W3 hW3 => ?_
      obtain ⟨xs, hxs⟩ : ∃ xs : Array Value, xs = #[.int .u8 (k.toNat : Int), .int .u8 (p0.toNat : Int), .int .u8 (p1.toNat : Int), .int .u8 (p2.toNat : Int), .int .u8 (p3.toNat : Int), .int .u8 (p4.toNat : Int), .int .u8 (p5.toNat : Int), .int .u8 (p6.toNat : Int), .int .u8 (p7.toNat : Int), .int .u8 (p8.toNat : Int), .int .u8 (p9.toNat : Int), .int .u8 (p10.toNat : Int), .int .u8 (p11.toNat : Int), .int .u8 (p12.toNat : Int), .int .u8 (p13.toNat : Int), .int .u8 (p14.toNat : Int), .int .u8 (p15.toNat : Int), .string (strOf d)] := ⟨_, rfl⟩
      have k3 : W3.heap[W2.heap.size]? = some (.cells xs 75) := by rw [← hW3, hxs]; exact has_new W2 _
      have hb3 : Below W2.heap.size W2 W3 := by rw [← hW3]; exact kp_alloc (Below.refl _ _) _
      obtain ⟨y, hy⟩ : ∃ y : KI, y = (k, (o, d)) := ⟨_, rfl⟩
      have y16 : y.2.1.length = 16 := by rw [hy]; exact K.out.2.1
      have HXS : Hid (keyV y = .agg xs ∧ (Tryd.prog.info? 75).map (·.size) = some xs.size) := by
        rw [hxs, hy, ho16]
        exact ⟨rfl, by kernel_rfl⟩
      have HO : Hid (o = [p0, p1, p2, p3, p4, p5, p6, p7, p8, p9, p10, p11, p12, p13, p14, p15]) := ho16
      have HY := Lib.hid hy
      have hm3 : MapK W3 B (seenQ k ((zs.take i).map IM.itm) seen) := (K.out.2.2.2.2.2.2.1.below HK2.out.2.1).below hb3
      have mb3 : MB B W1 W3 := K.out.2.2.2.2.2.2.2.1.trans ((MB.below HK2.out.2.1).trans (MB.below hb3))
      have LK := klook hm3 y y16
      rw [HXS.out.1] at LK
      have it3 : W3.heap[wr.heap.size]? = some (.cells (itmC o A9 n9 c9) 49) := has_below HK2.out.1 hb3
      have ho3 := (K.out.2.2.2.2.2.1.below HK2.out.2.1 (Nat.le_refl _)).below hb3 (Nat.le_refl _)
      have K3 := Lib.hid (And.intro k3 (And.intro hm3 (And.intro mb3 (And.intro it3 (And.intro ho3 y16)))))
      have hzt : Hid ((zs.take (i + 1)).map IM.itm = (zs.take i).map IM.itm ++ [(o, d)]) := by
        unfold Hid
        rw [List.take_add_one, K.out.2.2.1, List.map_append]; rfl
      have l3 : IntKind.i64.wrap ((i : Int) + 1) = ((i + 1 : Nat) : Int) := IntWalk.i64_in _ (by omega)
      obtain ⟨v, hv⟩ : ∃ v, decide (y ∈ seenQ k ((zs.take i).map IM.itm) seen) = v := ⟨_, rfl⟩
      rw [hv] at LK
      have HLK := Lib.hid LK
      have HV := Lib.hid hv
      clear hW3 hxs k3 hb3 hy y16 hm3 mb3 LK it3 ho3 hv ho16 SD SDo RG IG f0 f16 HKD
      cases v with
      | true =>
        have hin : (k, (o, d)) ∈ seenQ k ((zs.take i).map IM.itm) seen := by
          have := of_decide_eq_true HV.out
          rwa [HY.out] at this
        have HIN := Lib.hid hin
        clear hin
        go_wp2_with (first
          | (at_lookup; refine wpList_klook rfl _ _ _ rfl B rfl (.agg xs) rfl (.bool true) HLK.out ?_)
          | (refine wpList_load_row rfl _ _ rfl W2.heap.size rfl _ _ _ _ K3.out.1 Tryd.underlying75 rfl HXS.out.2 ?_))
        go_roundw
        case rel =>
          refine ⟨i + 1, A', n', c', rfl, rfl, hlt, zs', ?_, K.out.2.2.2.2.1, K3.out.2.2.2.2.1, ?_, K3.out.2.2.1⟩
          · rw [hzt.out, fresh_snoc, if_pos HIN.out]; exact K.out.2.2.2.1
          · rw [hzt.out, seen_snoc, if_pos HIN.out]; exact K3.out.2.1
        case measure => simp [intOf]; omega
      | false =>
        have hin : (k, (o, d)) ∉ seenQ k ((zs.take i).map IM.itm) seen := by
          have := of_decide_eq_false HV.out
          rwa [HY.out] at this
        obtain ⟨w4, hu, hm4, mb4⟩ := kupd K3.out.2.1 y K3.out.2.2.2.2.2 (of_decide_eq_false HV.out)
        rw [HXS.out.1] at hu
        have HU := Lib.hid hu
        have HIN := Lib.hid hin
        have it4 : w4.heap[wr.heap.size]? = some (.cells #[.int .u8 (p0.toNat : Int), .int .u8 (p1.toNat : Int), .int .u8 (p2.toNat : Int), .int .u8 (p3.toNat : Int), .int .u8 (p4.toNat : Int), .int .u8 (p5.toNat : Int), .int .u8 (p6.toNat : Int), .int .u8 (p7.toNat : Int), .int .u8 (p8.toNat : Int), .int .u8 (p9.toNat : Int), .int .u8 (p10.toNat : Int), .int .u8 (p11.toNat : Int), .int .u8 (p12.toNat : Int), .int .u8 (p13.toNat : Int), .int .u8 (p14.toNat : Int), .int .u8 (p15.toNat : Int), .slice A9 n9 c9] 49) := by
          have h1 := mb4.has K3.out.2.2.2.1 (by have := HP1.out.2.2.2.2; have := K.out.2.2.2.2.2.2.2.1.size; have := HP1.out.2.2.1; omega)
          rw [HO.out] at h1
          exact h1
        have ho4 := mb4.ownR K3.out.2.2.2.2.1 (by obtain ⟨es, clk, h1, _⟩ := K3.out.2.1; exact ⟨es, clk, h1⟩)
        have hmb4 := K3.out.2.2.1.trans mb4
        have ho5 := ho4.alloc (.cells #[.int .u8 (p0.toNat : Int), .int .u8 (p1.toNat : Int), .int .u8 (p2.toNat : Int), .int .u8 (p3.toNat : Int), .int .u8 (p4.toNat : Int), .int .u8 (p5.toNat : Int), .int .u8 (p6.toNat : Int), .int .u8 (p7.toNat : Int), .int .u8 (p8.toNat : Int), .int .u8 (p9.toNat : Int), .int .u8 (p10.toNat : Int), .int .u8 (p11.toNat : Int), .int .u8 (p12.toNat : Int), .int .u8 (p13.toNat : Int), .int .u8 (p14.toNat : Int), .int .u8 (p15.toNat : Int), .slice A9 n9 c9] 49)
        have K4 := Lib.hid (And.intro it4 (And.intro ho4 (And.intro hm4 (And.intro hmb4 ho5))))
        have HS4 := Lib.hid hmb4.size
        have hn' := K.out.2.2.2.2.2.2.2.2.2.1
        have hmax : n' + 1 ≤ maxLen := by unfold maxLen; omega
        have hby : (n' + 1) * 40 ≤ 140737488355328 := by omega
        have H1 : Hid (∀ u ∈ (#[.int .u8 (p0.toNat : Int), .int .u8 (p1.toNat : Int), .int .u8 (p2.toNat : Int), .int .u8 (p3.toNat : Int), .int .u8 (p4.toNat : Int), .int .u8 (p5.toNat : Int), .int .u8 (p6.toNat : Int), .int .u8 (p7.toNat : Int), .int .u8 (p8.toNat : Int), .int .u8 (p9.toNat : Int), .int .u8 (p10.toNat : Int), .int .u8 (p11.toNat : Int), .int .u8 (p12.toNat : Int), .int .u8 (p13.toNat : Int), .int .u8 (p14.toNat : Int), .int .u8 (p15.toNat : Int), .slice A9 n9 c9] : Array Value).toList, u.oneCell' = true) := List.all_eq_true.1 rfl
        clear hin hu it4 ho4 hm4 hmb4 ho5 mb4 hn'
        go_wp2_with (first
          | (at_lookup; refine wpList_klook rfl _ _ _ rfl B rfl (.agg xs) rfl (.bool false) HLK.out ?_)
          | (at_mapUpdate; refine wpList_kupd rfl _ _ _ _ rfl rfl B rfl (.agg xs) rfl (.bool true) rfl HU.out ?_)
          | (refine wpList_load_row rfl _ _ rfl W2.heap.size rfl _ _ _ _ K3.out.1 Tryd.underlying75 rfl HXS.out.2 ?_)
          | (refine wpList_load_row rfl _ _ rfl wr.heap.size rfl _ _ _ _ K4.out.1 Tryd.underlying49 rfl item_info ?_)
          | (at_builtin; refine wpList_appL item_row _ _ rfl rfl rfl W1.heap.size A' n' c' _ rfl K4.out.2.2.2.2 w4.heap.size 1 1 #[.int .u8 (p0.toNat : Int), .int .u8 (p1.toNat : Int), .int .u8 (p2.toNat : Int), .int .u8 (p3.toNat : Int), .int .u8 (p4.toNat : Int), .int .u8 (p5.toNat : Int), .int .u8 (p6.toNat : Int), .int .u8 (p7.toNat : Int), .int .u8 (p8.toNat : Int), .int .u8 (p9.toNat : Int), .int .u8 (p10.toNat : Int), .int .u8 (p11.toNat : Int), .int .u8 (p12.toNat : Int), .int .u8 (p13.toNat : Int), .int .u8 (p14.toNat : Int), .int .u8 (p15.toNat : Int), .slice A9 n9 c9] _ rfl (has_new w4 _) rfl H1.out hmax hby (by have := HS4.out; simp; omega) ?_))
        intro V' c5 w5 ho5 hg5
        have hmb5 : MB B W1 w5 := MB.grown (K4.out.2.2.2.1.trans (MB.below (kp_alloc (Below.refl _ _) _))) K4.out.2.2.2.2 hg5 (by obtain ⟨es, clk, h1, _⟩ := K4.out.2.2.1; exact ⟨es, clk, has_alloc h1 _⟩)
        have hm5 : MapK w5 B (y :: seenQ k ((zs.take i).map IM.itm) seen) := K4.out.2.2.1.same ((by
          rw [grown_map K4.out.2.2.2.2 hg5 (by obtain ⟨es, clk, h1, _⟩ := K4.out.2.2.1; exact ⟨es, clk, has_alloc h1 _⟩)]
          exact (kp_alloc (Below.refl w4.heap.size w4) _).block B K4.out.2.2.1.lt))
        have K5 := Lib.hid (And.intro ho5 (And.intro hmb5 hm5))
        clear ho5 hg5 hmb5 hm5 hmax hby
        go_wp2
        go_roundw
        case rel =>
          refine ⟨i + 1, V', n' + 1, c5, rfl, rfl, hlt, zs' ++ [⟨[p0, p1, p2, p3, p4, p5, p6, p7, p8, p9, p10, p11, p12, p13, p14, p15], d, A9, n9, c9⟩], ?_, ?_, ?_, ?_, K5.out.2.1⟩
          · rw [hzt.out, fresh_snoc, if_neg HIN.out, List.map_append, K.out.2.2.2.1, HO.out]; rfl
          · intro z hz
            rcases List.mem_append.1 hz with hz | hz
            · exact K.out.2.2.2.2.1 z hz
            · rw [List.mem_singleton.1 hz]
              have := HI.out.1.each _ (List.mem_of_getElem? K.out.2.2.1)
              rw [HO.out] at this
              exact this
          · rw [List.flatMap_append]; exact K5.out.1
          · rw [hzt.out, seen_snoc, if_neg HIN.out]; rw [← HY.out]; exact K5.out.2.2
        case measure => simp [intOf]; omega
    · have l1 : decide ((i : Int) < (n : Int)) = false := decide_eq_false (by omega)
      have l2 : decide (i < n) = false := decide_eq_false (by omega)
      have ht : (zs.take i).map IM.itm = zs.map IM.itm := by rw [List.take_of_length_le (by have := HI.out.2.1; omega)]
      rw [ht] at hz hm
      have K := Lib.hid (And.intro hz (And.intro hzr (And.intro ho (And.intro hm hmb))))
      clear hz hzr ho hm hmb hbw hnl kb ht hge hi
      go_wp2
      go_ret
      exact ⟨A', n', c', zs', rfl, K.out.1, K.out.2.1, K.out.2.2.1.lower HP1.out.2.2.1, K.out.2.2.2.1, (MB.below HP1.out.2.1).trans K.out.2.2.2.2⟩
end Go.Proofs.YtfampefflkkckaaDoor
namespace Go.Proofs.YtfampefflkkckaaDoor
open Go.RowKit Go
set_option linter.unusedVariables false
set_option linter.unusedSimpArgs false
set_option maxRecDepth 100000

def seenM (m : List Lst) (seen : List KI) : List KI := m.foldl (fun s x => seenQ x.1 x.2 s) seen
theorem seenM_snoc (m : List Lst) (x : Lst) (seen : List KI) : seenM (m ++ [x]) seen = seenQ x.1 x.2 (seenM m seen) := by unfold seenM; rw [List.foldl_append]; rfl
theorem seenM_mem (m : List Lst) (seen : List KI) (z : KI) : z ∈ seenM m seen ↔ z ∈ seen ∨ z ∈ flatK m := by
  induction m generalizing seen with
  | nil => simp [seenM, flatK]
  | cons x m ih =>
    show z ∈ seenM m (seenQ x.1 x.2 seen) ↔ _
    have key2 : z ∈ (x.2.map fun y => (x.1, y)) ↔ (z.1 = x.1 ∧ z.2 ∈ x.2) := by
      rw [List.mem_map]
      constructor
      · rintro ⟨y, hy, rfl⟩; exact ⟨rfl, hy⟩
      · rintro ⟨h1, h2⟩; exact ⟨z.2, h2, (Prod.ext h1 rfl : z = (x.1, z.2)).symm⟩
    rw [ih, seen_mem, flatK_cons, List.mem_append, key2, or_assoc]
theorem merge_snoc (m : List Lst) (x : Lst) (seen : List KI) : mergeQ (m ++ [x]) seen = mergeQ m seen ++ (if freshQ x.1 x.2 (seenM m seen) = [] then [] else [(x.1, freshQ x.1 x.2 (seenM m seen))]) := by
  induction m generalizing seen with
  | nil =>
    show mergeQ [x] seen = [] ++ (if freshQ x.1 x.2 seen = [] then [] else [(x.1, freshQ x.1 x.2 seen)])
    by_cases h : freshQ x.1 x.2 seen = [] <;> simp [mergeQ, h]
  | cons y m ih =>
    rw [List.cons_append, mergeQ, mergeQ]
    show (if _ then _ else _) = _ ++ (if freshQ x.1 x.2 (seenM m (seenQ y.1 y.2 seen)) = [] then [] else [(x.1, freshQ x.1 x.2 (seenM m (seenQ y.1 y.2 seen)))])
    rw [ih]
    split
    · rfl
    · rfl
theorem body_fresh (k : UInt8) (is : List Itm) (seen : List KI) : (bodyL (freshQ k is seen)).length ≤ (bodyL is).length := by
  induction is generalizing seen with
  | nil => exact Nat.le_refl _
  | cons x is ih =>
    have e : ∀ (y : Itm) (l : List Itm), (bodyL (y :: l)).length = (y.1 ++ y.2).length + (bodyL l).length := fun y l => by unfold bodyL; rw [List.flatMap_cons, List.length_append]
    rw [freshQ]
    split
    · rw [e]; exact Nat.le_trans (ih _) (Nat.le_add_left _ _)
    · rw [e, e]; exact Nat.add_le_add_left (ih _) _
theorem lstB_len (k : UInt8) (is : List Itm) : (lstB (k, is)).length = (guidL k).length + 12 + (bodyL is).length := by
  rw [lst_head]
  unfold headB
  simp only [List.length_append, leB_len, List.length_cons, List.length_nil]
theorem merge_len (m : List Lst) (seen : List KI) : (allB (mergeQ m seen)).length ≤ (allB m).length := by
  induction m generalizing seen with
  | nil => exact Nat.le_refl _
  | cons x m ih =>
    obtain ⟨k, is⟩ := x
    rw [mergeQ]
    split
    · rw [allB_cons, List.length_append]; exact Nat.le_trans (ih _) (Nat.le_add_left _ _)
    · rw [allB_cons, allB_cons, List.length_append, List.length_append, lstB_len, lstB_len]
      have h1 := body_fresh k is seen
      have h2 := ih (seenQ k is seen)
      simp only at h1 h2 ⊢
      omega
/-- What Merge answers. -/
def mLst (xa xb : List UInt8) : List Lst := merged (rLst xa) (rLst xb)
def mErr (xa xb : List UInt8) : Int := if rErr xa ≠ 0 then rErr xa else if rErr xb ≠ 0 then rErr xb else if 65536 < (allB (mLst xa xb)).length then 10 else 0
def mBytes (xa xb : List UInt8) : List UInt8 := if mErr xa xb = 0 then allB (mLst xa xb) else []
theorem rd_ok {xa : List UInt8} (h : rErr xa = 0) : Right (rLst xa) ∧ allB (rLst xa) = xa ∧ xa.length ≤ 65536 := by
  unfold rErr at h
  unfold rLst
  split at h
  · cases h
  · rename_i hb
    rw [if_neg hb]
    cases hq : readQ xa with
    | none => rw [hq] at h; cases h
    | some l =>
      have h1 := write_read hq
      exact ⟨h1.1, h1.2, by omega⟩
theorem rLst_small (xa : List UInt8) : ∀ x ∈ rLst xa, x.2.length ≤ 100000 := (rLst_lim xa).1.m
theorem merge_all {xa xb : List UInt8} (h : rErr xa = 0) : allB (mLst xa xb) = xa ++ allB (mergeQ (rLst xb) (flatK (rLst xa))) := by
  unfold mLst merged
  rw [allB_append, (rd_ok h).2.1]
theorem right_len {l m : List Lst} (hl : Right l) (hm : Right m) : (merged l m).all rightL = true := List.all_eq_true.2 fun x hx => (merged_right hl hm x hx).1
theorem mErr_1 {xa xb : List UInt8} (h : rErr xa ≠ 0) : mErr xa xb = rErr xa ∧ mBytes xa xb = [] := by
  have h1 : mErr xa xb = rErr xa := by unfold mErr; rw [if_pos h]
  exact ⟨h1, by unfold mBytes; rw [h1, if_neg h]⟩
theorem mErr_2 {xa xb : List UInt8} (h : rErr xa = 0) (h2 : rErr xb ≠ 0) : mErr xa xb = rErr xb ∧ mBytes xa xb = [] := by
  have h1 : mErr xa xb = rErr xb := by unfold mErr; rw [if_neg (by rw [h]; exact fun e => e rfl), if_pos h2]
  exact ⟨h1, by unfold mBytes; rw [h1, if_neg h2]⟩
theorem mErr_3 {xa xb : List UInt8} (h : rErr xa = 0) (h2 : rErr xb = 0) (h3 : 65536 < (allB (mLst xa xb)).length) : mErr xa xb = 10 ∧ mBytes xa xb = [] := by
  have h1 : mErr xa xb = 10 := by unfold mErr; rw [if_neg (by rw [h]; exact fun e => e rfl), if_neg (by rw [h2]; exact fun e => e rfl), if_pos h3]
  exact ⟨h1, by unfold mBytes; rw [h1, if_neg (by decide)]⟩
theorem mErr_4 {xa xb : List UInt8} (h : rErr xa = 0) (h2 : rErr xb = 0) (h3 : ¬ 65536 < (allB (mLst xa xb)).length) : mErr xa xb = 0 ∧ mBytes xa xb = allB (mLst xa xb) := by
  have h1 : mErr xa xb = 0 := by unfold mErr; rw [if_neg (by rw [h]; exact fun e => e rfl), if_neg (by rw [h2]; exact fun e => e rfl), if_neg h3]
  exact ⟨h1, by unfold mBytes; rw [h1, if_pos rfl]⟩
theorem take_lst {ls : List LM} {i : Nat} {z : LM} (h : ls[i]? = some z) : (ls.take (i + 1)).map LM.lst = (ls.take i).map LM.lst ++ [z.lst] := by
  rw [List.take_add_one, h, List.map_append]; rfl
theorem ListsZ.far' {wb w : World} {A : Option Addr} {n : Nat} {ls : List LM} (h : ListsZ wb A n ls) (hb : Below wb.heap.size wb w) : ListsZ w A n ls := h.below hb
/-- Behind a write of bytes the map stands. -/
theorem MapK.nb {w w' : World} {B : Nat} {s : List KI} (h : MapK w B s) (hn : NB w w') : MapK w' B s := by
  refine h.same (hn.block B h.lt fun cur e => ?_)
  obtain ⟨es, clk, h1, _⟩ := h
  rw [h1] at e
  injection e with e
  cases e
end Go.Proofs.YtfampefflkkckaaDoor
namespace Go.Proofs.YtfampefflkkckaaDoor
open Go.RowKit Go
set_option linter.unusedVariables false
set_option linter.unusedSimpArgs false
set_option maxRecDepth 100000

attribute [local go_sem ↓] Go.wp_at_zero Go.wp_at_succ
/-- What a merge answers. -/
def MergePost (w : World) (xa xb : List UInt8) (e : Ending) (w' : World) : Prop :=
  ∃ (A2 : Option Addr) (n2 c2 : Nat), e = .returned (.tuple #[.slice A2 n2 c2, .int .i64 (mErr xa xb)]) ∧ OwnB w' w.heap.size A2 n2 c2 (mBytes xa xb) ∧ Below w.heap.size w w'
section
variable (A : Option Addr) (n c : Nat) (xa : List UInt8) (D : Option Addr) (m d : Nat) (xb : List UInt8) (w : World)
theorem lmerge_1 (hR : RB w A n xa) (hT : Sizes w) (hc : n ≤ c) (hcm : c ≤ 9223372036854775807) (h1 : rErr xa ≠ 0) :
    Calls Tryd.prog 21 #[.slice A n c, .slice D m d] w (MergePost w xa xb) := by
  have R1 := sread_all A n c xa w hR hT hc hcm
  obtain ⟨n1, hn1⟩ : ∃ n1, (rLst xa).length = n1 := ⟨_, rfl⟩
  obtain ⟨ev, hev⟩ : ∃ ev, rErr xa = ev := ⟨_, rfl⟩
  rw [hn1, hev] at R1
  have H1 : Hid (mErr xa xb = ev ∧ mBytes xa xb = []) := by rw [← hev]; exact mErr_1 h1
  rw [hev] at h1
  have e1 : (ev != 0) = true := bne_iff_ne.2 h1
  have e2 : (ev == 0) = false := beq_eq_false_iff_ne.2 h1
  have HR1 := Lib.hid R1
  clear R1 hn1 hev hR hT hc hcm h1
  go_enter Tryd.func21, Tryd.ntmps21
  go_wp2_with fail
  refine HR1.out.mono ?_
  clear HR1
  rintro e W1 ⟨A1, c1, rfl, -, hb1⟩
  have HB := Lib.hid hb1
  clear hb1
  go_wp2
  go_ret2
  exact ⟨none, 0, 0, by rw [H1.out.1]; rfl, by rw [H1.out.2]; exact OwnB.nil _ _, HB.out⟩
theorem lmerge_2 (hR : RB w A n xa) (hD : RB w D m xb) (hT : Sizes w) (hc : n ≤ c) (hcm : c ≤ 9223372036854775807) (hd : m ≤ d) (hdm : d ≤ 9223372036854775807) (h1 : rErr xa = 0) (h2 : rErr xb ≠ 0) :
    Calls Tryd.prog 21 #[.slice A n c, .slice D m d] w (MergePost w xa xb) := by
  have R1 := sread_all A n c xa w hR hT hc hcm
  have R2 : ∀ W, Below w.heap.size w W → _ := fun W h => sread_all D m d xb W (hD.below h) (hT.below' h) hd hdm
  obtain ⟨n1, hn1⟩ : ∃ n1, (rLst xa).length = n1 := ⟨_, rfl⟩
  obtain ⟨n2, hn2⟩ : ∃ n2, (rLst xb).length = n2 := ⟨_, rfl⟩
  obtain ⟨ev, hev⟩ : ∃ ev, rErr xb = ev := ⟨_, rfl⟩
  rw [hn1, h1] at R1
  rw [hn2, hev] at R2
  have H1 : Hid (mErr xa xb = ev ∧ mBytes xa xb = []) := by rw [← hev]; exact mErr_2 h1 h2
  rw [hev] at h2
  have e1 : (ev != 0) = true := bne_iff_ne.2 h2
  have e2 : (ev == 0) = false := beq_eq_false_iff_ne.2 h2
  have HR1 := Lib.hid R1
  have HR2 := Lib.hid R2
  clear R1 R2 hn1 hn2 hev hR hD hT hc hcm hd hdm h1 h2
  go_enter Tryd.func21, Tryd.ntmps21
  go_wp2_with fail
  refine HR1.out.mono ?_
  clear HR1
  rintro e W1 ⟨A1, c1, rfl, -, hb1⟩
  have HB := Lib.hid hb1
  clear hb1
  go_wp2_with fail
  refine (HR2.out W1 HB.out).mono ?_
  clear HR2
  rintro e W2 ⟨A2, c2, rfl, -, hb2⟩
  have HB2 := Lib.hid (kp_call HB.out hb2)
  clear hb2
  go_wp2
  go_ret2
  exact ⟨none, 0, 0, by rw [H1.out.1]; rfl, by rw [H1.out.2]; exact OwnB.nil _ _, HB2.out⟩
set_option maxHeartbeats 16000000 in
theorem lmerge_3 (hR : RB w A n xa) (hD : RB w D m xb) (hT : Sizes w) (hc : n ≤ c) (hcm : c ≤ 9223372036854775807) (hd : m ≤ d) (hdm : d ≤ 9223372036854775807) (h1 : rErr xa = 0) (h2 : rErr xb = 0) :
    Calls Tryd.prog 21 #[.slice A n c, .slice D m d] w (MergePost w xa xb) := by
  have R1 := sread_all A n c xa w hR hT hc hcm
  have R2 : ∀ W, Below w.heap.size w W → _ := fun W h => sread_all D m d xb W (hD.below h) (hT.below' h) hd hdm
  obtain ⟨xl, hl1⟩ : ∃ xl, rLst xa = xl := ⟨_, rfl⟩
  obtain ⟨yl, hl2⟩ : ∃ yl, rLst xb = yl := ⟨_, rfl⟩
  have hs1 := rLst_small xa
  have hs2 := rLst_small xb
  have hA := merge_all (xb := xb) h1
  have hk1 := (rLst_lim xa).2
  have hk2 := (rLst_lim xb).2
  have ho1 := rd_ok h1
  have ho2 := rd_ok h2
  rw [hl1] at R1 hs1 hk1 ho1
  rw [hl2] at R2 hs2 hk2 ho2
  rw [hl1, hl2] at hA
  obtain ⟨n1, hn1⟩ : ∃ n1, xl.length = n1 := ⟨_, rfl⟩
  obtain ⟨n2, hn2⟩ : ∃ n2, yl.length = n2 := ⟨_, rfl⟩
  rw [hn1, h1] at R1
  rw [hn2, h2] at R2
  have hn := hR.1
  have HN : Hid (n1 ≤ 100000 ∧ n2 ≤ 100000 ∧ n ≤ 65536 ∧ (allB yl).length ≤ 65536) := ⟨by omega, by omega, by have := ho1.2.2; omega, by rw [ho2.2.1]; exact ho2.2.2⟩
  have HS := Lib.hid (And.intro hs1 (And.intro hs2 (And.intro ho2.1 hA)))
  have HR1 := Lib.hid R1
  have HR2 := Lib.hid R2
  have HR := Lib.hid (And.intro hR (And.intro h1 (And.intro h2 hT)))
  clear R1 R2 hl1 hl2 hn1 hn2 hR hD hT hc hcm hd hdm h1 h2 hs1 hs2 hk1 hk2 ho1 ho2 hA hn
  go_enter Tryd.func21, Tryd.ntmps21
  go_wp2_with fail
  refine HR1.out.mono ?_
  clear HR1
  rintro e W1 ⟨A1, c1, rfl, hL1, hb1⟩
  have HB1 := Lib.hid hb1
  have HL1 := Lib.hid hL1
  clear hb1 hL1
  go_wp2_with fail
  refine (HR2.out W1 HB1.out).mono ?_
  clear HR2
  rintro e W2 ⟨A2, c2, rfl, hL2, hb2⟩
  obtain ⟨ls1, hls1, hor1, hlm1⟩ := HL1.out.below hb2 (Nat.le_refl _)
  obtain ⟨ls2, hls2, hor2, hlm2⟩ := hL2
  have Z1 := Lib.hid (own_lists hor1 hlm1)
  have Z2 := Lib.hid (own_lists hor2 hlm2)
  have HB2 := Lib.hid (And.intro (kp_call HB1.out hb2) (kp_call HB1.out hb2).size)
  have HLS := Lib.hid (And.intro hls1 hls2)
  clear hb2 hls1 hls2 hor1 hor2 hlm1 hlm2 HL1 HB1
  have MK : ∀ W : World, (Instr.makeMap 58 none).run Tryd.prog W = .ok (.map (some W.heap.size)) (W.alloc (.map #[] 0)) := fun W => rfl
  go_upto_region 8 with fail
  refine wp_nm fun W3 hW3 => ?_
  have H3 : Hid (MapK W3 W2.heap.size [] ∧ Below W2.heap.size W2 W3) := by rw [← hW3]; exact ⟨MapK.new W2, kp_alloc (Below.refl _ _) _⟩
  clear hW3
  go_wp2
  go_loopw [34] (fun v wl => ∃ (i : Nat), v = .int .i64 (i : Int) ∧ i ≤ n1 ∧ Hid (MapK wl W2.heap.size (seenM ((ls1.take i).map LM.lst) []) ∧ Below W2.heap.size W2 wl)) (fun v _ => (n1 - (intOf v).toNat))
  case atStart => exact ⟨0, rfl, Nat.zero_le _, by rw [List.take_zero]; exact H3.out.1, H3.out.2⟩
  case round =>
    obtain ⟨i, rfl, hi, hS⟩ := hrel
    rcases Nat.lt_or_ge i n1 with hlt | hge
    · have l1 : decide ((i : Int) < (n1 : Int)) = true := decide_eq_true (by omega)
      have l2 : decide (i < n1) = true := decide_eq_true hlt
      obtain ⟨z, b, off, hg, hA, hbl, hr, zs, hz1⟩ := Z1.out.at_ hlt
      subst hA
      have hrr := range_below hr hS.2
      have r0 : wr.cell? ⟨b, off + i * 2, none⟩ = some (.int .u8 (z.k.toNat : Int)) := hrr 0 _ rfl
      have r1 : wr.cell? ⟨b, off + i * 2 + 1, none⟩ = some (.slice z.a z.n z.c) := hrr 1 _ rfl
      have hzn : z.n ≤ 100000 := by
        rw [← lm_n hz1]
        exact HS.out.1 z.lst (by rw [← HLS.out.1]; exact List.mem_map_of_mem (List.mem_of_getElem? hg))
      have C := Lib.hid (fun W (h : Below W2.heap.size W2 W) (hm : MapK W W2.heap.size (seenM ((ls1.take i).map LM.lst) [])) => fresh_any W2 W2.heap.size _ z.k z.a z.n z.c zs W h (Nat.le_refl _) hm hz1.i hz1.c hz1.m (by omega))
      rw [hz1.e] at C
      have K := Lib.hid (And.intro hS hg)
      clear hg hr hrr hz1 hbl hzn hS
      go_wp2_with fail
      refine (C.out _ (kp_alloc K.out.1.2 _) (K.out.1.1.below (kp_alloc (Below.refl _ _) _))).mono ?_
      clear C
      rintro e w3 ⟨A3, n3, c3, zs3, rfl, -, -, -, hm3, mb3⟩
      have K3 : Hid (MapK w3 W2.heap.size (seenM ((ls1.take (i + 1)).map LM.lst) []) ∧ Below W2.heap.size W2 w3) := by
        rw [take_lst K.out.2, seenM_snoc]
        exact ⟨hm3, mb3.to (kp_alloc K.out.1.2 _) (Nat.le_refl _)⟩
      clear hm3 mb3 r0 r1
      have l5 : IntKind.i64.wrap ((i : Int) + 1) = ((i + 1 : Nat) : Int) := IntWalk.i64_in _ (by have := HN.out.1; omega)
      go_wp2
      go_roundw
      case rel => exact ⟨i + 1, rfl, hlt, K3⟩
      case measure => simp [intOf]; omega
    · have l1 : decide ((i : Int) < (n1 : Int)) = false := decide_eq_false (by omega)
      have l2 : decide (i < n1) = false := decide_eq_false (by omega)
      have M0 : Hid (MapK wr W2.heap.size (flatK xl) ∧ Below W2.heap.size W2 wr ∧ W2.heap.size ≤ wr.heap.size) := by
        have h9 := hS.1
        rw [List.take_of_length_le (by have := Z1.out.len; omega), HLS.out.1] at h9
        exact ⟨h9.mono fun z => by rw [seenM_mem]; simp, hS.2, hS.2.size⟩
      have RA := Lib.hid (HR.out.1.below (HB2.out.1.trans (M0.out.2.1.mono HB2.out.2)))
      clear hS hi hge
      have O0 : Hid (OwnB (wr.alloc (.cells #[] 5)) wr.heap.size (some ⟨wr.heap.size, 0, none⟩) 0 0 []) := own_nil wr
      have hn6 := HN.out.2.2.1
      go_wp2_with (at_builtin; refine wpList_apn _ _ rfl rfl rfl W2.heap.size (some ⟨wr.heap.size, 0, none⟩) 0 0 [] rfl (O0.out.lower M0.out.2.2) A n c _ rfl (RA.out.alloc _) (by omega) (by have := M0.out.2.2; simp; omega) ?_)
      intro A5 c5 W5 ho5 hg5
      try simp only [List.nil_append, Nat.zero_add] at ho5
      have K5 : Hid (OwnB W5 W2.heap.size A5 n c5 xa ∧ MapK W5 W2.heap.size (flatK xl) ∧ Below W2.heap.size W2 W5) := by
        have hb4 : Below W2.heap.size W2 (wr.alloc (.cells #[] 5)) := kp_alloc M0.out.2.1 _
        refine ⟨ho5, ?_, hb4.grown hg5 (by have := M0.out.2.2; simp; omega) (by intro k hk; cases hk; exact M0.out.2.2)⟩
        have h8 := M0.out.1.below (kp_alloc (Below.refl wr.heap.size wr) (.cells #[] 5))
        refine h8.same ((hg5.block _ h8.lt fun e => ?_))
        injection e with e
        have e : W2.heap.size = wr.heap.size := e
        have := M0.out.1.lt
        omega
      clear ho5 hg5 O0 RA hn6
      try rw [Nat.zero_add]
      go_wp2
      go_loopw [12, 47] (fun v u wl => ∃ (i : Nat) (A' : Option Addr) (n' c' : Nat), v = .slice A' n' c' ∧ u = .int .i64 (i : Int) ∧ i ≤ n2 ∧ Hid (OwnB wl W2.heap.size A' n' c' (xa ++ allB (mergeQ ((ls2.take i).map LM.lst) (flatK xl))) ∧ MapK wl W2.heap.size (seenM ((ls2.take i).map LM.lst) (flatK xl)) ∧ Below W2.heap.size W2 wl)) (fun _ u _ => (n2 - (intOf u).toNat))
      case atStart => exact ⟨0, A5, n, c5, rfl, rfl, Nat.zero_le _, by rw [List.take_zero]; show OwnB _ _ _ _ _ (xa ++ []); rw [List.append_nil]; exact K5.out.1, by rw [List.take_zero]; exact K5.out.2.1, K5.out.2.2⟩
      case round =>
        obtain ⟨i, A', n', c', rfl, rfl, hi, hS⟩ := hrel
        have hlen : n' ≤ 131072 := by
          have h1 := hS.1.len
          have h2 := merge_len ((ls2.take i).map LM.lst) (flatK xl)
          have h3 := allB_take_le ls2 i
          rw [HLS.out.2] at h3
          have h4 := HN.out
          have h5 := HR.out.1.1
          rw [List.length_append] at h1
          omega
        rcases Nat.lt_or_ge i n2 with hlt | hge
        · have l3 : decide ((i : Int) < (n2 : Int)) = true := decide_eq_true (by omega)
          have l4 : decide (i < n2) = true := decide_eq_true hlt
          obtain ⟨z, b, off, hg, hA, hbl, hr, zs, hz1⟩ := Z2.out.at_ hlt
          subst hA
          have hrr := range_below hr hS.2.2
          have r0 : wr.cell? ⟨b, off + i * 2, none⟩ = some (.int .u8 (z.k.toNat : Int)) := hrr 0 _ rfl
          have r1 : wr.cell? ⟨b, off + i * 2 + 1, none⟩ = some (.slice z.a z.n z.c) := hrr 1 _ rfl
          have hzm : z.lst ∈ yl := by rw [← HLS.out.2]; exact List.mem_map_of_mem (List.mem_of_getElem? hg)
          have hzn : z.is.length ≤ 100000 := HS.out.2.1 z.lst hzm
          have hzn2 : z.n ≤ 100000 := by rw [← lm_n hz1]; exact hzn
          have hzr := HS.out.2.2.1 z.lst hzm
          have C := Lib.hid (fun W (h : Below W2.heap.size W2 W) (hm : MapK W W2.heap.size (seenM ((ls2.take i).map LM.lst) (flatK xl))) => fresh_any W2 W2.heap.size _ z.k z.a z.n z.c zs W h (Nat.le_refl _) hm hz1.i hz1.c hz1.m (by omega))
          rw [hz1.e] at C
          have K := Lib.hid (And.intro hS (And.intro hg (And.intro hzr (And.intro hzn hlen))))
          clear hg hr hrr hz1 hbl hzn hzn2 hzr hzm hS hlen
          go_wp2_with fail
          refine calls_nm fun w4 hw4 => ?_
          have K4 : Hid (w4.heap[wr.heap.size]? = some (.cells #[.int .u8 (z.k.toNat : Int), .slice z.a z.n z.c] 41) ∧ Below wr.heap.size wr w4) := by rw [← hw4]; exact ⟨has_new wr _, kp_alloc (Below.refl _ _) _⟩
          clear hw4 r0 r1
          have hm4 := K.out.1.2.1.below K4.out.2
          have hb4 := kp_call K.out.1.2.2 K4.out.2
          refine (C.out w4 hb4 hm4).mono ?_
          clear C
          rintro e w5 ⟨A3, n3, c3, zs3, rfl, hf3, hz3, ho3, hm3, mb3⟩
          have hne : wr.heap.size ≠ W2.heap.size := by have := K.out.1.2.1.lt; omega
          have k5 : w5.heap[wr.heap.size]? = some (.cells #[.int .u8 (z.k.toNat : Int), .slice z.a z.n z.c] 41) := mb3.has K4.out.1 hne
          have ho5 : OwnB w5 W2.heap.size A' n' c' (xa ++ allB (mergeQ ((ls2.take i).map LM.lst) (flatK xl))) := mb3.ownR (K.out.1.1.below K4.out.2 (Nat.le_refl _)) (by obtain ⟨es, clk, h1, _⟩ := hm4; exact ⟨es, clk, h1⟩)
          have hb5 := mb3.to hb4 (Nat.le_refl _)
          have hl3 : n3 = zs3.length := by
            have h1 := ho3.len
            rw [flat_len IM.cells 17 zs3 (fun z hzz => z.cells_len (hz3 z hzz).o)] at h1
            omega
          have hl4 : zs3.length = (freshQ z.k z.is (seenM ((ls2.take i).map LM.lst) (flatK xl))).length := by rw [← hf3, List.length_map]
          have hn3 : n3 ≤ 100000 := by
            have h1 := fresh_le z.k z.is (seenM ((ls2.take i).map LM.lst) (flatK xl))
            have := K.out.2.2.2.1
            omega
          have hA' : blk A' = none ∨ blk A' ≠ some wr.heap.size := by
            cases hx : blk A' with
            | none => exact .inl rfl
            | some g =>
              refine .inr fun e => ?_
              injection e with e
              have := (K.out.1.1.blk_lt hx).2
              omega
          have hA3 : blk A3 = none ∨ blk A3 ≠ some wr.heap.size := by
            cases hx : blk A3 with
            | none => exact .inl rfl
            | some g =>
              refine .inr fun e => ?_
              injection e with e
              have := (ho3.blk_lt hx).1
              have := block_lt K4.out.1
              omega
          obtain ⟨z0, z1⟩ := cells_2 k5
          obtain ⟨y0, y1⟩ := free_2 k5
          have K5 := Lib.hid (And.intro k5 (And.intro ho5 (And.intro hb5 (And.intro hm3 (And.intro ho3 (And.intro hf3 (And.intro hz3 (And.intro hl3 (And.intro hl4 (And.intro hA' (And.intro hA3 (And.intro hne (And.intro hn3 K4.out.2.size)))))))))))))
          clear k5 ho5 hb5 hm3 ho3 hf3 hz3 hl3 hl4 hA' hA3 hne hm4 hb4 mb3 hn3
          go_upto_region 18 with fail
          refine wp_nm fun w6 hw6 => ?_
          have g6 : w5.grownBy w6 (some wr.heap.size) := by rw [← hw6]; exact grown_one _ _ _ _
          have k6 : w6.heap[wr.heap.size]? = some (.cells #[.int .u8 (z.k.toNat : Int), .slice A3 n3 c3] 41) := by rw [← hw6]; exact (heap_set_at _ _ 1 _ _ _ _ K5.out.1).trans rfl
          have hb6 : Below W2.heap.size W2 w6 := by
            have h1 := K.out.1.2.2.size
            rw [← hw6]; exact K5.out.2.2.1.setCell h1 _
          have ho6 : OwnB w6 W2.heap.size A' n' c' (xa ++ allB (mergeQ ((ls2.take i).map LM.lst) (flatK xl))) := K5.out.2.1.kept g6 K5.out.2.2.2.2.2.2.2.2.2.1
          have hm6 := K5.out.2.2.2.1.same (g6.block _ K5.out.2.2.2.1.lt fun e => K5.out.2.2.2.2.2.2.2.2.2.2.2.1 (by injection e with e; exact e.symm))
          have hr6 := K5.out.2.2.2.2.1.kept g6 K5.out.2.2.2.2.2.2.2.2.2.2.1
          have hIP : ItemsP W2 w6 A3 n3 zs3 := ⟨K5.out.2.2.2.2.2.2.2.1.symm, .inr ⟨c3, hr6.lower (by have h1 := K.out.1.2.2.size; have h2 := K5.out.2.2.2.2.2.2.2.2.2.2.2.2.2; omega)⟩, K5.out.2.2.2.2.2.2.1⟩
          obtain ⟨z0, z1⟩ := cells_2 k6
          have K6 := Lib.hid (And.intro hb6 (And.intro ho6 (And.intro hm6 (And.intro hr6 hIP))))
          have HT3 : Hid (seenM ((ls2.take (i + 1)).map LM.lst) (flatK xl) = seenQ z.k z.is (seenM ((ls2.take i).map LM.lst) (flatK xl))) := by
            unfold Hid; rw [take_lst K.out.2.1, seenM_snoc]; rfl
          have HT4 : Hid (mergeQ ((ls2.take (i + 1)).map LM.lst) (flatK xl) = mergeQ ((ls2.take i).map LM.lst) (flatK xl) ++ (if freshQ z.k z.is (seenM ((ls2.take i).map LM.lst) (flatK xl)) = [] then [] else [(z.k, freshQ z.k z.is (seenM ((ls2.take i).map LM.lst) (flatK xl)))])) := by
            unfold Hid; rw [take_lst K.out.2.1, merge_snoc]; rfl
          have l5 : IntKind.i64.wrap ((i : Int) + 1) = ((i + 1 : Nat) : Int) := IntWalk.i64_in _ (by have := HN.out.2.1; omega)
          clear hw6 g6 k6 hb6 ho6 hm6 hr6 hIP y0 y1
          rcases Nat.eq_zero_or_pos n3 with h0 | h0
          · have q1 : decide ((n3 : Int) > (0 : Int)) = false := decide_eq_false (by omega)
            have q2 : decide ((0 : Int) < (n3 : Int)) = false := decide_eq_false (by omega)
            have q3 : decide (0 < n3) = false := decide_eq_false (by omega)
            have HE : Hid (freshQ z.k z.is (seenM ((ls2.take i).map LM.lst) (flatK xl)) = []) := List.eq_nil_of_length_eq_zero (by have := K5.out.2.2.2.2.2.2.2.1; have := K5.out.2.2.2.2.2.2.2.2.1; omega)
            clear h0
            go_wp2
            go_roundw
            case rel => exact ⟨i + 1, A', n', c', rfl, rfl, hlt, by rw [HT4.out, if_pos HE.out, List.append_nil]; exact K6.out.2.1, by rw [HT3.out]; exact K6.out.2.2.1, K6.out.1⟩
            case measure => simp [intOf]; omega
          · have q1 : decide ((n3 : Int) > (0 : Int)) = true := decide_eq_true (by omega)
            have q2 : decide ((0 : Int) < (n3 : Int)) = true := decide_eq_true (by omega)
            have q3 : decide (0 < n3) = true := decide_eq_true (by omega)
            have HE : Hid (freshQ z.k z.is (seenM ((ls2.take i).map LM.lst) (flatK xl)) ≠ []) := fun e => by
              have h1 := K5.out.2.2.2.2.2.2.2.1
              have h2 := K5.out.2.2.2.2.2.2.2.2.1
              rw [e] at h2
              simp at h2
              rw [h2] at h1
              simp at h1
              omega
            have hrt := (fresh_right (x := z.lst) K.out.2.2.1.1 K.out.2.2.1.2 _ HE.out).1
            have hcp := K6.out.2.2.2.1.cap
            have hmx : c3 ≤ 9223372036854775807 := by have := hcp.2; unfold maxLen at this; omega
            have PC := Lib.hid (putList_any W2 A' n' c' _ z.k A3 n3 c3 zs3 w6 K6.out.1 K6.out.2.1 K6.out.2.2.2.2 (by rw [K5.out.2.2.2.2.2.1]; exact hrt) hcp.1 hmx (by have := K5.out.2.2.2.2.2.2.2.2.2.2.2.2.1; omega) (by have := K.out.2.2.2.2; omega) (HR.out.2.2.2.below' HB2.out.1))
            rw [K5.out.2.2.2.2.2.1] at PC
            clear hrt hcp hmx h0
            go_wp2_with fail
            refine PC.out.mono ?_
            clear PC
            rintro e w7 ⟨A7, n7, c7, rfl, ho7, hb7, nb7⟩
            have K7 := Lib.hid (And.intro ho7 (And.intro hb7 (K6.out.2.2.1.nb nb7)))
            clear ho7 hb7 nb7 z0 z1
            go_wp2
            go_roundw
            case rel => exact ⟨i + 1, A7, n7, c7, rfl, rfl, hlt, by
              rw [HT4.out, if_neg HE.out, allB_append, allB_cons, ← List.append_assoc, show allB [] = [] from rfl, List.append_nil]
              exact K7.out.1, by rw [HT3.out]; exact K7.out.2.2, K7.out.2.1⟩
            case measure => simp [intOf]; omega
        · have l3 : decide ((i : Int) < (n2 : Int)) = false := decide_eq_false (by omega)
          have l4 : decide (i < n2) = false := decide_eq_false (by omega)
          have ht : (ls2.take i).map LM.lst = yl := by rw [List.take_of_length_le (by have := Z2.out.len; omega), HLS.out.2]
          have K : Hid (OwnB wr W2.heap.size A' n' c' (allB (mLst xa xb)) ∧ Below W2.heap.size W2 wr) := by
            have h1 := hS.1
            rw [ht] at h1
            rw [HS.out.2.2.2]
            exact ⟨h1, hS.2.2⟩
          have HLN := Lib.hid K.out.1.len
          have HBZ := Lib.hid (HB2.out.1.trans (K.out.2.mono HB2.out.2))
          clear hS hi hge ht hlen
          by_cases hbig : 65536 < n'
          · have g1 : decide ((n' : Int) > (65536 : Int)) = true := decide_eq_true (by omega)
            have g2 : decide ((65536 : Int) < (n' : Int)) = true := decide_eq_true (by omega)
            have g3 : decide (65536 < n') = true := decide_eq_true hbig
            have HZ : Hid (mErr xa xb = 10 ∧ mBytes xa xb = []) := mErr_3 HR.out.2.1 HR.out.2.2.1 (by have := HLN.out; omega)
            clear hbig
            go_wp2
            go_ret2
            exact ⟨none, 0, 0, by rw [HZ.out.1]; rfl, by rw [HZ.out.2]; exact OwnB.nil _ _, HBZ.out⟩
          · have g1 : decide ((n' : Int) > (65536 : Int)) = false := decide_eq_false (by omega)
            have g2 : decide ((65536 : Int) < (n' : Int)) = false := decide_eq_false (by omega)
            have g3 : decide (65536 < n') = false := decide_eq_false hbig
            have HZ : Hid (mErr xa xb = 0 ∧ mBytes xa xb = allB (mLst xa xb)) := mErr_4 HR.out.2.1 HR.out.2.2.1 (by have := HLN.out; omega)
            clear hbig
            go_wp2
            go_ret2
            exact ⟨A', n', c', by rw [HZ.out.1]; rfl, by rw [HZ.out.2]; exact K.out.1.lower HB2.out.2, HBZ.out⟩
theorem lmerge_any (hR : RB w A n xa) (hD : RB w D m xb) (hT : Sizes w) (hc : n ≤ c) (hcm : c ≤ 9223372036854775807) (hd : m ≤ d) (hdm : d ≤ 9223372036854775807) :
    Calls Tryd.prog 21 #[.slice A n c, .slice D m d] w (MergePost w xa xb) := by
  by_cases h1 : rErr xa = 0
  · by_cases h2 : rErr xb = 0
    · exact lmerge_3 A n c xa D m d xb w hR hD hT hc hcm hd hdm h1 h2
    · exact lmerge_2 A n c xa D m d xb w hR hD hT hc hcm hd hdm h1 h2
  · exact lmerge_1 A n c xa D m d xb w hR hT hc hcm h1
end
end Go.Proofs.YtfampefflkkckaaDoor
