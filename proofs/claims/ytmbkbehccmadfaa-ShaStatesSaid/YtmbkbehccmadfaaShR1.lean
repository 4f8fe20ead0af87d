/-
  sha: the bytes of a sum.
-/
import Derived.Test.YtmbkbehccmadfaaShQ
namespace Go.Proofs.Ytmbkbehccmadfaa
open Go.RowKit Go
set_option linter.unusedVariables false
set_option linter.unusedSimpArgs false
set_option maxRecDepth 100000
theorem all8 (l : List Nat) : (l.map v8).toArray.all (·.oneCell') = true := by
  simp only [List.all_toArray, List.all_map, List.all_eq_true]
  intro x _
  rfl
/-- An array of n bytes of which the first ones are told. -/
def part8 (n : Nat) (l : List Nat) : List Value := l.map v8 ++ List.replicate (n - l.length) (.int .u8 0)
theorem part8_len (n : Nat) (l : List Nat) (h : l.length ≤ n) : (part8 n l).length = n := by unfold part8; simp; omega
theorem part8_next (n : Nat) (l : List Nat) (x : Nat) (h : l.length < n) : part8 n (l ++ [x]) = (part8 n l).set l.length (v8 x) := by
  unfold part8
  rw [List.set_append_right _ _ (by simp), List.length_map, Nat.sub_self]
  obtain ⟨k, hk⟩ : ∃ k, n - l.length = k + 1 := ⟨n - l.length - 1, by omega⟩
  rw [hk, List.length_append, show n - (l.length + [x].length) = k by simp; omega, List.replicate_succ]
  simp
theorem part8_full (n : Nat) (l : List Nat) (h : l.length = n) : part8 n l = l.map v8 := by unfold part8; rw [h]; simp
/-- Byte k of eight words. -/
def digB (u : V8) (k : Nat) : Nat := (u.list.getD (k / 4) 0) / 2 ^ (24 - 8 * (k % 4)) % 256
def dig (u : V8) (n : Nat) : List Nat := (List.range n).map (digB u)
theorem dig_len (u : V8) (n : Nat) : (dig u n).length = n := by unfold dig; simp
theorem dig_next (u : V8) (n : Nat) : dig u (n + 1) = dig u n ++ [digB u n] := by
  unfold dig
  rw [List.range_succ, List.map_append]
  rfl
theorem digB_at (u : V8) (i j x : Nat) (hj : j < 4) (h : u.list[i]? = some x) : digB u (4 * i + j) = x / 2 ^ (24 - 8 * j) % 256 := by
  unfold digB
  rw [show (4 * i + j) / 4 = i by omega, show (4 * i + j) % 4 = j by omega, List.getD_eq_getElem?_getD, h]
  rfl
theorem digB_lt (u : V8) (k : Nat) : digB u k < 256 := Nat.mod_lt _ (by decide)
theorem dig_lt (u : V8) (n : Nat) : ∀ x ∈ dig u n, x < 256 := fun x hx => by
  obtain ⟨k, _, rfl⟩ := List.mem_map.1 hx
  exact digB_lt u k
theorem run_shr24 (x j : Nat) (hj : j < 4) (w : World) : (Op.shift BinOp.shr IntKind.u32 (x : Int) IntKind.i64 (24 - 8 * (j : Int))).run Try.prog w = .ok (.int .u32 ((x : Int) / 2 ^ (24 - 8 * j))) w := by
  unfold Op.shift
  rw [if_neg (by omega)]
  have hm : min (24 - 8 * (j : Int)).toNat IntKind.u32.bits = 24 - 8 * j := by
    show min (24 - 8 * (j : Int)).toNat 32 = 24 - 8 * j
    omega
  simp only [hm]
  rw [Int.fdiv_eq_ediv_of_nonneg _ (Int.pow_nonneg (by decide))]
  rfl
theorem dig_num (x j : Nat) : IntKind.u8.wrap ((x : Int) / 2 ^ (24 - 8 * j)) = ((x / 2 ^ (24 - 8 * j) % 256 : Nat) : Int) := by
  rw [IntKind.wrap_u8']
  have hp : (2 : Int) ^ (24 - 8 * j) = ((2 ^ (24 - 8 * j) : Nat) : Int) := by simp
  rw [hp]
  generalize 2 ^ (24 - 8 * j) = P
  omega
/-- A state's block, whole. -/
theorem Holds.row {w : World} {S : Nat} {p : List Nat} {t : Nat} (h : Holds w S p t) : ∃ vs : Array Value, w.heap[S]? = some (.cells vs 39 (0, 0)) ∧ vs.size = 75 ∧ vs.all (·.oneCell') = true ∧ w.cell? ⟨S, 73, none⟩ = some (.int .u64 (t : Int)) ∧ ∀ w' S', w'.heap[S']? = some (.cells vs 39 (0, 0)) → Holds w' S' p t := by
  have one : ∀ (u : V8) (rb : List Nat) (f t : Nat) (b : Bool), (stCells u rb f t b).toArray.all (·.oneCell') = true := fun u rb f t b => by
    simp only [List.all_toArray, stCells, List.all_append, List.all_map, Bool.and_eq_true, List.all_eq_true]
    exact ⟨fun _ _ => rfl, fun _ _ => rfl, fun x hx => by simp only [List.mem_cons, List.not_mem_nil, or_false] at hx; rcases hx with rfl | rfl | rfl <;> rfl⟩
  have len : ∀ (u : V8) (rb : List Nat) (f t : Nat) (b : Bool), rb.length = 64 → (stCells u rb f t b).toArray.size = 75 := fun u rb f t b hr => by
    have h7 : u.list.length = 8 := rfl
    simp [stCells, hr, h7]
  rcases h with ⟨rb, hA, hr, hb, htk⟩ | ⟨rfl, u, rb, hA, hr, hb⟩
  · exact ⟨_, hA, len _ _ _ _ _ hr, one _ _ _ _ _, st_at hA hr 1 _ rfl, fun w' S' h' => Or.inl ⟨rb, h', hr, hb, htk⟩⟩
  · exact ⟨_, hA, len _ _ _ _ _ hr, one _ _ _ _ _, st_at hA hr 1 _ rfl, fun w' S' h' => Or.inr ⟨rfl, u, rb, h', hr, hb⟩⟩
theorem Holds.below {w w' : World} {S : Nat} {p : List Nat} {t : Nat} (h : Holds w S p t) (hb : Below w.heap.size w w') : Holds w' S p t := by
  obtain ⟨vs, h1, _, _, _, h2⟩ := h.row
  exact h2 w' S (has_below h1 hb)
theorem Holds.lt {w : World} {S : Nat} {p : List Nat} {t : Nat} (h : Holds w S p t) : S < w.heap.size := by
  obtain ⟨vs, h1, _⟩ := h.row
  exact block_lt h1
theorem Holds.grown {w w' : World} {S : Nat} {p : List Nat} {t : Nat} (h : Holds w S p t) {row : Option Nat} (hg : w.grownBy w' row) (hne : some S ≠ row) : Holds w' S p t := by
  obtain ⟨vs, h1, _, _, _, h2⟩ := h.row
  exact h2 w' S ((hg.block S (block_lt h1) hne).trans h1)
theorem below_of_grown {v w w' : World} {S : Nat} (h : Below v.heap.size v w) (hg : w.grownBy w' (some S)) (hS : v.heap.size ≤ S) : Below v.heap.size v w' := by
  refine ⟨hg.os.trans h.os, hg.tape.trans h.tape, hg.output.trans h.output, Nat.le_trans h.size hg.size, fun k hk => ?_⟩
  rw [hg.block k (Nat.lt_of_lt_of_le hk h.size) (by intro e; injection e with e; omega)]
  exact h.block k hk
/-- The sum of the bytes p of which there were so many. -/
def sumQ (p : List Nat) (t : Nat) : List Nat := dig (hashN H0v (p ++ padQ t) ((p ++ padQ t).length / 64)) 32
theorem sumQ_len (p : List Nat) (t : Nat) : (sumQ p t).length = 32 := dig_len _ _
theorem padB_nat (t : Nat) : (padB t).map UInt8.toNat = padQ t := by
  have hz : ∀ x ∈ padQ t, x < 256 := by
    intro x hx
    unfold padQ at hx
    have hb : ∀ i, be8 t i < 256 := fun i => Nat.mod_lt _ (by decide)
    rcases List.mem_cons.1 hx with rfl | hx
    · decide
    · rcases List.mem_append.1 hx with hx | hx
      · rw [(List.mem_replicate.1 hx).2]; decide
      · simp only [List.mem_cons, List.not_mem_nil, or_false] at hx
        rcases hx with rfl | rfl | rfl | rfl | rfl | rfl | rfl | rfl <;> exact hb _
  rw [padB_eq, List.map_map]
  conv => rhs; rw [← List.map_id (padQ t)]
  refine List.map_congr_left fun x hx => ?_
  simp only [Function.comp, id]
  rw [UInt8.toNat_ofNat']
  exact Nat.mod_eq_of_lt (hz x hx)
theorem wpList_load_arr {P : Program} {ops : Array Oper} {rest : List Oper} {op : Oper} {a : Act} {w : World} {Q : Exit → Act → World → Prop} (hgd : op.guard = none) (ty : TypeId) (x : Operand) (ho : op.op = .load ty x)
    (b o : Nat) (hx : a.eval x = .pointer (some ⟨b, o, none⟩)) (cs : Array Value) (d : TypeDesc) (hc : w.rangeAt b o cs.toList)
    (hu : P.underlying ty = some d) (hd : d.isRow = true) (hi : (P.info? ty).map (·.size) = some cs.size)
    (h : wpList P ops Q rest (a.put op.dst (.agg cs)) w) : wpList P ops Q (op :: rest) a w :=
  wpList_load_mid hgd ty x ho b o hx cs.toList d hc hu hd (by rw [Array.length_toList]; exact hi) h
theorem rangeAt_alloc {w : World} {b o : Nat} {cs : List Value} (h : w.rangeAt b o cs) (hb : b < w.heap.size) (x : Obj) : (w.alloc x).rangeAt b o cs := fun j v hv => by
  rw [World.cell?_alloc_lt w x ⟨b, o + j, none⟩ hb]
  exact h j v hv
end Go.Proofs.Ytmbkbehccmadfaa
