/-
  vname: the map literal of Kind, by an invariant (made by genVn.py).
-/
import Derived.Test.YtjcbmgpmlekamaaVnA
namespace Go.Proofs.Ytjcbmgpmlekamaa
open Go.RowKit Go
set_option linter.unusedVariables false
set_option linter.unusedSimpArgs false
set_option maxRecDepth 100000
/-- The keys of the map, and their values. -/
def kindK : Nat → Value
  | 0 => .agg #[.string ⟨#[80, 75]⟩, .int .u8 97, .int .u8 223, .int .u8 228, .int .u8 139, .int .u8 202, .int .u8 147, .int .u8 210, .int .u8 17, .int .u8 170, .int .u8 13, .int .u8 0, .int .u8 224, .int .u8 152, .int .u8 3, .int .u8 43, .int .u8 140]
  | 1 => .agg #[.string ⟨#[75, 69, 75]⟩, .int .u8 97, .int .u8 223, .int .u8 228, .int .u8 139, .int .u8 202, .int .u8 147, .int .u8 210, .int .u8 17, .int .u8 170, .int .u8 13, .int .u8 0, .int .u8 224, .int .u8 152, .int .u8 3, .int .u8 43, .int .u8 140]
  | 2 => .agg #[.string ⟨#[83, 101, 116, 117, 112, 77, 111, 100, 101]⟩, .int .u8 97, .int .u8 223, .int .u8 228, .int .u8 139, .int .u8 202, .int .u8 147, .int .u8 210, .int .u8 17, .int .u8 170, .int .u8 13, .int .u8 0, .int .u8 224, .int .u8 152, .int .u8 3, .int .u8 43, .int .u8 140]
  | 3 => .agg #[.string ⟨#[83, 101, 99, 117, 114, 101, 66, 111, 111, 116]⟩, .int .u8 97, .int .u8 223, .int .u8 228, .int .u8 139, .int .u8 202, .int .u8 147, .int .u8 210, .int .u8 17, .int .u8 170, .int .u8 13, .int .u8 0, .int .u8 224, .int .u8 152, .int .u8 3, .int .u8 43, .int .u8 140]
  | 4 => .agg #[.string ⟨#[65, 117, 100, 105, 116, 77, 111, 100, 101]⟩, .int .u8 97, .int .u8 223, .int .u8 228, .int .u8 139, .int .u8 202, .int .u8 147, .int .u8 210, .int .u8 17, .int .u8 170, .int .u8 13, .int .u8 0, .int .u8 224, .int .u8 152, .int .u8 3, .int .u8 43, .int .u8 140]
  | 5 => .agg #[.string ⟨#[68, 101, 112, 108, 111, 121, 101, 100, 77, 111, 100, 101]⟩, .int .u8 97, .int .u8 223, .int .u8 228, .int .u8 139, .int .u8 202, .int .u8 147, .int .u8 210, .int .u8 17, .int .u8 170, .int .u8 13, .int .u8 0, .int .u8 224, .int .u8 152, .int .u8 3, .int .u8 43, .int .u8 140]
  | 6 => .agg #[.string ⟨#[100, 98]⟩, .int .u8 203, .int .u8 178, .int .u8 25, .int .u8 215, .int .u8 58, .int .u8 61, .int .u8 150, .int .u8 69, .int .u8 163, .int .u8 188, .int .u8 218, .int .u8 208, .int .u8 14, .int .u8 103, .int .u8 101, .int .u8 111]
  | 7 => .agg #[.string ⟨#[100, 98, 120]⟩, .int .u8 203, .int .u8 178, .int .u8 25, .int .u8 215, .int .u8 58, .int .u8 61, .int .u8 150, .int .u8 69, .int .u8 163, .int .u8 188, .int .u8 218, .int .u8 208, .int .u8 14, .int .u8 103, .int .u8 101, .int .u8 111]
  | 8 => .agg #[.string ⟨#[100, 98, 116]⟩, .int .u8 203, .int .u8 178, .int .u8 25, .int .u8 215, .int .u8 58, .int .u8 61, .int .u8 150, .int .u8 69, .int .u8 163, .int .u8 188, .int .u8 218, .int .u8 208, .int .u8 14, .int .u8 103, .int .u8 101, .int .u8 111]
  | _ => undef
def kindV : Nat → Value
  | 0 => .int .u8 1
  | 1 => .int .u8 2
  | 2 => .int .u8 4
  | 3 => .int .u8 4
  | 4 => .int .u8 4
  | 5 => .int .u8 4
  | 6 => .int .u8 3
  | 7 => .int .u8 3
  | 8 => .int .u8 3
  | _ => undef
/-- What the map has when these operations have been done. -/
def MapIs (L : Array Bool) (es : Array MapEntry) : Prop :=
  (∀ e ∈ es.toList, ∃ k, k < 9 ∧ L.getD (3 * k + 3) false = true ∧ e.key = kindK k ∧ e.val = kindV k) ∧ (∀ k, k < 9 → L.getD (3 * k + 3) false = true → ∃ e ∈ es.toList, e.key = kindK k ∧ e.val = kindV k)
def gd (L : Array Bool) (j : Nat) (v : Value) : Value := if L.getD j false = true then v else undef
theorem gd_yes {L : Array Bool} {j : Nat} (v : Value) (h : L.getD j false = true) : gd L j v = v := if_pos h
theorem lset (L : Array Bool) (i j : Nat) (hi : i < L.size) : (L.setIfInBounds i true).getD j false = (decide (i = j) || L.getD j false) := by
  by_cases h : i = j
  · subst h; simp [Array.getD, hi]
  · simp only [h, decide_false, Bool.false_or]
    rw [Array.getD_eq_getD_getElem?, Array.getD_eq_getD_getElem?, Array.getElem?_setIfInBounds_ne h]
theorem gd_set (L : Array Bool) (i j : Nat) (v : Value) (hi : i < L.size) (h : i ≠ j) : gd (L.setIfInBounds i true) j v = gd L j v := by
  unfold gd; rw [lset L i j hi]; simp [h]
theorem gd_same (L : Array Bool) (i : Nat) (v : Value) (hi : i < L.size) : gd (L.setIfInBounds i true) i v = v := by
  unfold gd; rw [lset L i i hi]; simp
def TM (s : ByteArray) (cs : Array Value) (box B : Nat) (L : Array Bool) : Array Value := #[.string s, .agg cs, undef, .pointer (some ⟨box, 0, none⟩), .int .u8 0, gd L 29 (.map (some B)), gd L 0 (.map (some B)), gd L 1 (.agg gG), gd L 2 (kindK 0), gd L 4 (.agg gG), gd L 5 (kindK 1), gd L 7 (.agg gG), gd L 8 (kindK 2), gd L 10 (.agg gG), gd L 11 (kindK 3), gd L 13 (.agg gG), gd L 14 (kindK 4), gd L 16 (.agg gG), gd L 17 (kindK 5), gd L 19 (.agg gS), gd L 20 (kindK 6), gd L 22 (.agg gS), gd L 23 (kindK 7), gd L 25 (.agg gS), gd L 26 (kindK 8), gd L 28 (.map (some B)), undef, undef, undef, undef, undef]
/-- The region's invariant. -/
def KI (s : ByteArray) (cs : Array Value) (box : Nat) (w0 : World) (L : Array Bool) (a : Act) (w : World) : Prop :=
  ∃ B, a = ⟨TM s cs box B L, []⟩ ∧ Below w0.heap.size w0 w ∧ (L.getD 28 false = true → L.getD 0 false = true) ∧ (L.getD 29 false = true → L.getD 0 false = true) ∧
    (L.getD 0 false = true → w0.heap.size ≤ B ∧ ∃ es clk, w.heap[B]? = some (.map es clk) ∧ MapIs L es) ∧ (L.getD 0 false = false → ∀ k, k < 9 → L.getD (3 * k + 3) false = false)
theorem mapIs_set {L : Array Bool} {es : Array MapEntry} {i : Nat} (h : MapIs L es) (hi : i < L.size) (hne : ∀ k, k < 9 → i ≠ 3 * k + 3) : MapIs (L.setIfInBounds i true) es := by
  refine ⟨fun e he => ?_, fun k hk hL => ?_⟩
  · obtain ⟨k, h1, h2, h3⟩ := h.1 e he
    exact ⟨k, h1, by rw [lset L i _ hi, h2]; simp, h3⟩
  · rw [lset L i _ hi] at hL
    simp only [hne k hk, decide_false, Bool.false_or] at hL
    exact h.2 k hk hL
section
variable {s : ByteArray} {cs : Array Value} {box B : Nat} {w0 w w' : World} {L : Array Bool}
/-- Behind an operation that turns neither the map nor what stood. -/
theorem KI.next (h : Below w0.heap.size w0 w ∧ (L.getD 28 false = true → L.getD 0 false = true) ∧ (L.getD 29 false = true → L.getD 0 false = true) ∧ (L.getD 0 false = true → w0.heap.size ≤ B ∧ ∃ es clk, w.heap[B]? = some (.map es clk) ∧ MapIs L es) ∧ (L.getD 0 false = false → ∀ k, k < 9 → L.getD (3 * k + 3) false = false))
    (hb : Below w.heap.size w w') {i : Nat} (hi : i < L.size) (hne : ∀ k, k < 9 → i ≠ 3 * k + 3) (h0 : i ≠ 0) (h28 : i = 28 ∨ i = 29 → L.getD 0 false = true) {a : Act} (ha : a = ⟨TM s cs box B (L.setIfInBounds i true), []⟩) : KI s cs box w0 (L.setIfInBounds i true) a w' := by
  obtain ⟨h1, h2, h3, h4, h5⟩ := h
  refine ⟨B, ha, kp_call h1 hb, ?_, ?_, ?_, ?_⟩
  · rw [lset L i _ hi, lset L i _ hi]
    intro h
    by_cases h9 : i = 28
    · rw [h28 (.inl h9)]; simp
    · simp only [h9, decide_false, Bool.false_or] at h; rw [h2 h]; simp
  · rw [lset L i _ hi, lset L i _ hi]
    intro h
    by_cases h9 : i = 29
    · rw [h28 (.inr h9)]; simp
    · simp only [h9, decide_false, Bool.false_or] at h; rw [h3 h]; simp
  · rw [lset L i _ hi]
    simp only [h0, decide_false, Bool.false_or]
    intro h
    obtain ⟨q1, es, clk, q2, q3⟩ := h4 h
    exact ⟨q1, es, clk, has_below q2 hb, mapIs_set q3 hi hne⟩
  · rw [lset L i _ hi]
    simp only [h0, decide_false, Bool.false_or]
    intro h k hk
    rw [lset L i _ hi, h5 h k hk]
    simp [hne k hk]
end
theorem und45 : Try.prog.underlying 45 = some (.map 44 5) := Try.underlying45
/-- Two of the keys are the same just if they are one. -/
theorem eqK : ∀ k j, k < 9 → j < 9 → ∀ w, (Op.equal 44 (kindK k) (kindK j)).run Try.prog w = .ok (decide (j = k)) w := by
  intro k j hk hj w
  rcases (show k = 0 ∨ k = 1 ∨ k = 2 ∨ k = 3 ∨ k = 4 ∨ k = 5 ∨ k = 6 ∨ k = 7 ∨ k = 8 by omega) with rfl | rfl | rfl | rfl | rfl | rfl | rfl | rfl | rfl <;>
    rcases (show j = 0 ∨ j = 1 ∨ j = 2 ∨ j = 3 ∨ j = 4 ∨ j = 5 ∨ j = 6 ∨ j = 7 ∨ j = 8 by omega) with rfl | rfl | rfl | rfl | rfl | rfl | rfl | rfl | rfl <;> kernel_rfl
theorem ckK : ∀ k, k < 9 → ∀ w b, (Instr.checkKey b 10000 44 (kindK k)).run Try.prog w = .ok () w := by
  intro k hk w b
  rcases (show k = 0 ∨ k = 1 ∨ k = 2 ∨ k = 3 ∨ k = 4 ∨ k = 5 ∨ k = 6 ∨ k = 7 ∨ k = 8 by omega) with rfl | rfl | rfl | rfl | rfl | rfl | rfl | rfl | rfl <;> cases b <;> kernel_rfl
section
variable {x : Value} {e : Nat → Bool} {w : World}
/-- Looking for a key among entries whose keys are some of the nine. -/
theorem find_any (he : ∀ j, j < 9 → ∀ w, (Op.equal 44 x (kindK j)).run Try.prog w = .ok (e j) w) (R : Nat → Prop) : ∀ (es : List MapEntry) (i : Nat), (∀ m ∈ es, ∃ j, j < 9 ∧ R j ∧ m.key = kindK j ∧ m.val = kindV j) →
    ∃ r : Option (Nat × Value), (Instr.findAsking 44 x es i).run Try.prog w = .ok r w ∧ (match r with | some (_, u) => ∃ j, j < 9 ∧ R j ∧ e j = true ∧ u = kindV j | none => ∀ m ∈ es, ∀ j, j < 9 → m.key = kindK j → e j = false)
  | [], i, _ => ⟨none, by simp [Instr.findAsking], fun m hm => by cases hm⟩
  | m :: es, i, h => by
    obtain ⟨j, hj, hR, hk, hv⟩ := h m List.mem_cons_self
    have h1 := he j hj w
    rw [← hk] at h1
    cases hej : e j with
    | true =>
      rw [hej] at h1
      refine ⟨some (i, m.val), ?_, j, hj, hR, hej, hv⟩
      simp only [Instr.findAsking, Sem.run_bind, h1, Result.andThen_ok, if_true]
      rfl
    | false =>
      rw [hej] at h1
      obtain ⟨r, hr, hm⟩ := find_any he R es (i + 1) (fun q hq => h q (List.mem_cons_of_mem _ hq))
      refine ⟨r, ?_, ?_⟩
      · simp only [Instr.findAsking, Sem.run_bind, h1, Result.andThen_ok, Bool.false_eq_true, if_false]
        exact hr
      · cases r with
        | some p => exact hm
        | none =>
          intro q hq j' hj' hqk
          rcases List.mem_cons.1 hq with hq | hq
          · subst hq
            have h2 := he j' hj' w
            rw [← hqk, h1] at h2
            injection h2 with h2
            exact h2.symm
          · exact hm q hq j' hj' hqk
theorem findKey_any (he : ∀ j, j < 9 → ∀ w, (Op.equal 44 x (kindK j)).run Try.prog w = .ok (e j) w) (R : Nat → Prop) (es : List MapEntry) (hx : ∃ xs, x = .agg xs) (h : ∀ m ∈ es, ∃ j, j < 9 ∧ R j ∧ m.key = kindK j ∧ m.val = kindV j) :
    ∃ r : Option (Nat × Value), (Instr.findKey 44 x es).run Try.prog w = .ok r w ∧ (match r with | some (_, u) => ∃ j, j < 9 ∧ R j ∧ e j = true ∧ u = kindV j | none => ∀ m ∈ es, ∀ j, j < 9 → m.key = kindK j → e j = false) := by
  obtain ⟨r, hr, hm⟩ := find_any (w := w) he R es 0 h
  refine ⟨r, ?_, hm⟩
  obtain ⟨xs, rfl⟩ := hx
  unfold Instr.findKey
  simp only [Sem.run_bind, run_underlying Try.underlying44, Result.andThen_ok]
  cases es with
  | nil =>
    simp only [Instr.findNow, Sem.run_pure]
    simp only [Instr.findAsking, Sem.run_pure] at hr
    exact hr
  | cons m es =>
    have hs : ∀ y, Instr.sameNow (.struct (Try.prog.fieldsOf 44)) (.agg xs) y = none := fun y => by simp [Instr.sameNow]
    simp only [Instr.findNow, Instr.sameNow]
    exact hr
end
theorem kindK_agg : ∀ k, k < 9 → ∃ xs, kindK k = .agg xs := by
  intro k hk
  rcases (show k = 0 ∨ k = 1 ∨ k = 2 ∨ k = 3 ∨ k = 4 ∨ k = 5 ∨ k = 6 ∨ k = 7 ∨ k = 8 by omega) with rfl | rfl | rfl | rfl | rfl | rfl | rfl | rfl | rfl <;> exact ⟨_, rfl⟩
/-- The map with an entry more. -/
def putM (w : World) (B : Nat) (es : Array MapEntry) (clk : Nat) (x v : Value) : World := { w with heap := w.heap.setIfInBounds B (.map (es.push { key := x, val := v, born := clk }) (clk + 1)) }
theorem run_upd (k : Nat) (hk : k < 9) {w : World} {B clk : Nat} {es : Array MapEntry} {L : Array Bool} (hb : w.heap[B]? = some (.map es clk)) (hm : MapIs L es) (hL : L.getD (3 * k + 3) false = false) (v : Value) :
    (Instr.mapUpdate 45 (.map (some B)) (kindK k) v).run Try.prog w = .ok () (putM w B es clk (kindK k) v) := by
  obtain ⟨r, hr, hq⟩ := findKey_any (w := w) (fun j hj w => eqK k j hk hj w) (fun j => L.getD (3 * j + 3) false = true) es.toList (kindK_agg k hk) (fun m hmm => by
    obtain ⟨j, h1, h2, h3, h4⟩ := hm.1 m hmm
    exact ⟨j, h1, h2, h3, h4⟩)
  have hn : r = none := by
    cases r with
    | none => rfl
    | some p =>
      obtain ⟨j, h1, h2, h3, _⟩ := hq
      have : j = k := by simpa using h3
      rw [this, hL] at h2
      cases h2
  subst hn
  have hg : (getObj B).run Try.prog w = .ok (.map es clk) w := by simp [getObj, Sem.run, hb]
  have hst : ∀ o, (setObj B o).run Try.prog w = .ok () { w with heap := w.heap.setIfInBounds B o } := fun o => by simp [setObj, Sem.run, hb]
  unfold Instr.mapUpdate
  simp only [Sem.run_bind, run_underlying und45, Result.andThen_ok, hg, ckK k hk w false, hr, hst]
  rfl
theorem putM_below {w0 w : World} {B clk : Nat} {es : Array MapEntry} {x v : Value} (h : Below w0.heap.size w0 w) (hB : w0.heap.size ≤ B) : Below w0.heap.size w0 (putM w B es clk x v) :=
  ⟨h.os, h.tape, h.output, by simpa [putM] using h.size, fun k hk => by
    show (w.heap.setIfInBounds B _)[k]? = _
    rw [Array.getElem?_setIfInBounds_ne (by omega)]
    exact h.block k hk⟩
theorem putM_has {w : World} {B clk : Nat} {es : Array MapEntry} {x v : Value} (hb : w.heap[B]? = some (.map es clk)) : (putM w B es clk x v).heap[B]? = some (.map (es.push { key := x, val := v, born := clk }) (clk + 1)) := by
  have hlt : B < w.heap.size := block_lt hb
  show (w.heap.setIfInBounds B _)[B]? = _
  rw [Array.getElem?_setIfInBounds_self_of_lt hlt]
theorem mapIs_push {L : Array Bool} {es : Array MapEntry} {k clk : Nat} (hk : k < 9) (h : MapIs L es) (hi : 3 * k + 3 < L.size) : MapIs (L.setIfInBounds (3 * k + 3) true) (es.push { key := kindK k, val := kindV k, born := clk }) := by
  refine ⟨fun e he => ?_, fun j hj hL => ?_⟩
  · rw [Array.toList_push] at he
    rcases List.mem_append.1 he with he | he
    · obtain ⟨j, h1, h2, h3⟩ := h.1 e he
      exact ⟨j, h1, by rw [lset L _ _ hi, h2]; simp, h3⟩
    · rw [List.mem_singleton.1 he]
      exact ⟨k, hk, by rw [lset L _ _ hi]; simp, rfl, rfl⟩
  · rw [lset L _ _ hi] at hL
    rw [Array.toList_push]
    by_cases hjk : j = k
    · subst hjk
      exact ⟨_, List.mem_append_right _ (List.mem_singleton.2 rfl), rfl, rfl⟩
    · have : ¬ 3 * k + 3 = 3 * j + 3 := by omega
      simp only [this, decide_false, Bool.false_or] at hL
      obtain ⟨e, he, h1⟩ := h.2 j hj hL
      exact ⟨e, List.mem_append_left _ he, h1⟩
end Go.Proofs.Ytjcbmgpmlekamaa
