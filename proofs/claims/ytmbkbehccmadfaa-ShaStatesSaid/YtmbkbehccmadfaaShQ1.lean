/-
  sha: a state that holds bytes, and what a copy makes of it.
-/
import Derived.Test.YtmbkbehccmadfaaShP
import Derived.Deep.RegionWith
namespace Go.Proofs.Ytmbkbehccmadfaa
open Go.RowKit Go
set_option linter.unusedVariables false
set_option linter.unusedSimpArgs false
set_option maxRecDepth 100000
/-- A state that holds the bytes p, begun or not. -/
def Holds (w : World) (S : Nat) (p : List Nat) (total : Nat) : Prop :=
  OpenSt w S p total ∨ (p = [] ∧ ∃ u rb, ArrIs w S 39 (stCells u rb 0 total false) ∧ rb.length = 64 ∧ ∀ x ∈ rb, x < 256)
theorem size_words : (Try.prog.info? 34).map (·.size) = some 8 := by kernel_rfl
theorem size_block : (Try.prog.info? 36).map (·.size) = some 64 := by kernel_rfl
theorem size_k64 : (Try.prog.info? 59).map (·.size) = some 64 := by kernel_rfl
theorem OpenSt.opens {w : World} {S : Nat} {p : List Nat} {t : Nat} (h : OpenSt w S p t) : ∃ rb f u, p.length % 64 = f ∧ hashN H0v p (p.length / 64) = u ∧ f < 64 ∧ ArrIs w S 39 (stCells u rb f t true) ∧ rb.length = 64 ∧ (∀ x ∈ rb, x < 256) ∧ rb.take f = p.drop (64 * (p.length / 64)) := by
  obtain ⟨rb, h1, h2, h3, h4⟩ := h
  exact ⟨rb, _, _, rfl, rfl, Nat.mod_lt _ (by decide), h1, h2, h3, h4⟩
section
variable {w : World} {S : Nat} {p rb cs : List Nat} {f t : Nat} {u : V8}
theorem open_part (hf : p.length % 64 = f) (hu : hashN H0v p (p.length / 64) = u) (hA : ArrIs w S 39 (stCells u rb f t true)) (hr : rb.length = 64) (hb : ∀ x ∈ rb, x < 256) (htk : rb.take f = p.drop (64 * (p.length / 64)))
    (hc : ∀ x ∈ cs, x < 256) (hk : f + cs.length < 64) :
    OpenSt ((w.setCells S (8 + f) (cs.map v8)).setCell ⟨S, 72, none⟩ (.int .i64 ((f : Int) + (cs.length : Int)))) S (p ++ cs) t := by
  subst hf hu
  obtain ⟨e1, e2, e3⟩ := more_part p cs hk
  have h1 := st_setRest hA (p.length % 64) cs (by omega)
  have hl := restIn_len rb cs (p.length % 64) (by omega)
  have h2 := st_setFill h1 (hl.trans hr) (p.length % 64 + cs.length)
  refine ⟨restIn rb (p.length % 64) cs, ?_, by rw [hl, hr], restIn_byte _ _ _ hb hc, ?_⟩
  · rw [e1, e2, e3]
    exact_mod_cast h2
  · rw [e1, e2]
    exact rest_more p cs rb hr htk (by omega)
/-- The rest is full. -/
theorem open_full (hf : p.length % 64 = f) (hu : hashN H0v p (p.length / 64) = u) (hA : ArrIs w S 39 (stCells u rb f t true)) (hr : rb.length = 64) (hb : ∀ x ∈ rb, x < 256) (htk : rb.take f = p.drop (64 * (p.length / 64)))
    (hc : ∀ x ∈ cs, x < 256) (hk : f + cs.length = 64) :
    ∃ rb', ArrIs ((w.setCells S (8 + f) (cs.map v8)).setCell ⟨S, 72, none⟩ (.int .i64 64)) S 39 (stCells u rb' 64 t true) ∧ rb'.length = 64 ∧ (∀ x ∈ rb', x < 256) ∧ u.Ok ∧
      ∀ w', ArrIs w' S 39 (stCells (blockW u K0 rb') rb' 0 t true) → OpenSt w' S (p ++ cs) t := by
  subst hf hu
  obtain ⟨e1, e2, e3⟩ := more_full p cs rb hr htk hk
  have h1 := st_setRest hA (p.length % 64) cs (by omega)
  have hl := restIn_len rb cs (p.length % 64) (by omega)
  have h2 := st_setFill h1 (hl.trans hr) 64
  refine ⟨restIn rb (p.length % 64) cs, h2, by rw [hl, hr], restIn_byte _ _ _ hb hc, hashN_ok _ _ H0v_ok _, fun w' h' => ⟨restIn rb (p.length % 64) cs, ?_, by rw [hl, hr], restIn_byte _ _ _ hb hc, ?_⟩⟩
  · rw [e1, e2, e3]
    exact h'
  · rw [e1, e2, List.take_zero]
    rw [List.drop_eq_nil_of_le]
    simp
    omega
end
theorem src_cut {w : World} {S b off m k : Nat} {r : List UInt8} (h : Src w S (some ⟨b, off, none⟩) r) (hm : r.length = m) (c : Nat) (hmc : m ≤ c) : Src w S (if c = k then some ⟨b, off, none⟩ else some ⟨b, off + k, none⟩) (r.drop k) := fun hn => by
  have hk : k < r.length := by
    rcases Nat.lt_or_ge k r.length with h1 | h1
    · exact h1
    · exact absurd (List.drop_eq_nil_of_le h1) hn
  rw [if_neg (by omega)]
  have := h.drop_ k
  rw [Option.map_some, Addr.add_mid] at this
  exact this hn
def slLen : Value → Nat
  | .slice _ n _ => n
  | _ => 0
theorem take_min {α : Type} (r : List α) (m d k : Nat) (hm : r.length = m) (hk : k = min m d) : r.take d = r.take k := by
  rcases Nat.le_total m d with h | h
  · rw [List.take_of_length_le (by omega), List.take_of_length_le (by omega)]
  · rw [show k = d by omega]
theorem bytes_lt (l : List UInt8) : ∀ x ∈ l.map UInt8.toNat, x < 256 := fun x hx => by
  obtain ⟨y, _, rfl⟩ := List.mem_map.1 hx
  exact y.toNat_lt
theorem step_load_mid {P : Program} {ops : Array Oper} {o : Oper} {a : Act} {w : World} {K : Act → World → Prop} {Q : Exit → Act → World → Prop} {E : Prop}
    (hg : o.guard = none) (ty : TypeId) (x : Operand) (ho : o.op = .load ty x) (b off : Nat) (hx : a.eval x = .pointer (some ⟨b, off, none⟩)) (cs : Array Value) (d : TypeDesc) (hc : w.rangeAt b off cs.toList)
    (hu : P.underlying ty = some d) (hd : d.isRow = true) (hi : (P.info? ty).map (·.size) = some cs.toList.length) (hK : K (a.put o.dst (.agg cs)) w) :
    if Region.wanted o (yielded ops a.tmps) = true then Oper.wp P o a w K Q else E := by
  have hw : Region.wanted o (yielded ops a.tmps) = true := by simp [Region.wanted, hg]
  rw [if_pos hw]
  exact wp_load_mid ty x ho b off hx cs.toList d hc hu hd hi hK
theorem step_store_mid {P : Program} {ops : Array Oper} {o : Oper} {a : Act} {w : World} {K : Act → World → Prop} {Q : Exit → Act → World → Prop} {E : Prop}
    (hg : o.guard = none) (ty : TypeId) (x y : Operand) (ho : o.op = .store ty x y) (b off : Nat) (cells : Array Value) (hx : a.eval x = .pointer (some ⟨b, off, none⟩)) (hy : a.eval y = .agg cells)
    (ht : w.there b off cells.size) (hi : (P.info? ty).map (·.size) = some cells.size) (h1 : cells.all (·.oneCell') = true) (hK : K (a.put o.dst undef) (w.setCells b off cells.toList)) :
    if Region.wanted o (yielded ops a.tmps) = true then Oper.wp P o a w K Q else E := by
  have hw : Region.wanted o (yielded ops a.tmps) = true := by simp [Region.wanted, hg]
  rw [if_pos hw]
  exact wp_store_mid ty x y ho b off cells hx hy ht hi h1 hK
end Go.Proofs.Ytmbkbehccmadfaa
