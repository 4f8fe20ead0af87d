/-
  sha: a state in a block; parts of a block.
-/
import Derived.Test.YtmbkbehccmadfaaShL
import Derived.Deep.MidRow
namespace Go.Proofs.Ytmbkbehccmadfaa
open Go.RowKit Go
set_option linter.unusedVariables false
set_option linter.unusedSimpArgs false
set_option maxRecDepth 100000
/-- The cells of a state. -/
def stCells (u : V8) (rb : List Nat) (fill total : Nat) (begun : Bool) : List Value := u.list.map v32 ++ (rb.map v8 ++ [.int .i64 (fill : Int), .int .u64 (total : Int), .bool begun])
theorem ArrIs.setCells {g : Nat} {t : TypeId} : ∀ (cs mid pre post : List Value) (w : World), ArrIs w g t (pre ++ (mid ++ post)) → mid.length = cs.length → ArrIs (w.setCells g pre.length cs) g t (pre ++ (cs ++ post))
  | [], [], pre, post, w, h, _ => h
  | [], _ :: _, _, _, _, _, hl => by simp at hl
  | _ :: _, [], _, _, _, _, hl => by simp at hl
  | c :: cs, m :: mid, pre, post, w, h, hl => by
    have h1 := h.set pre.length c
    rw [List.set_append_right _ _ (Nat.le_refl _), Nat.sub_self, List.cons_append, List.set_cons_zero] at h1
    have h2 := ArrIs.setCells cs mid (pre ++ [c]) post (w.setCell ⟨g, pre.length, none⟩ c) (by simpa using h1) (by simpa using hl)
    rw [World.setCells]
    simpa using h2
theorem ArrIs.rangeAt {w : World} {g : Nat} {t : TypeId} {pre mid post : List Value} (h : ArrIs w g t (pre ++ (mid ++ post))) : w.rangeAt g pre.length mid := fun j v hv => by
  have hj : j < mid.length := (List.getElem?_eq_some_iff.1 hv).1
  refine h.cell ?_
  rw [List.getElem?_append_right (by omega), List.getElem?_append_left (by omega), ← hv]
  congr 1
  omega
theorem ArrIs.there {w : World} {g : Nat} {t : TypeId} {vs : List Value} (h : ArrIs w g t vs) (o n : Nat) (hn : o + n ≤ vs.length) : w.there g o n := fun j hj =>
  ⟨by rw [h.cell (j := o + j) (u := vs[o + j]'(by omega)) (List.getElem?_eq_getElem _)]; rfl, h.free _⟩
theorem Below.setCells {B g : Nat} (hg : B ≤ g) {w0 : World} : ∀ (cs : List Value) (o : Nat) (w : World), Below B w0 w → Below B w0 (w.setCells g o cs)
  | [], _, _, h => h
  | c :: cs, o, w, h => by
    rw [World.setCells]
    exact Below.setCells hg cs (o + 1) _ (h.setCell hg c)
theorem ArrIs.farCells {g k : Nat} {t : TypeId} {vs : List Value} (hne : g ≠ k) : ∀ (cs : List Value) (o : Nat) (w : World), ArrIs w g t vs → ArrIs (w.setCells k o cs) g t vs
  | [], _, _, h => h
  | c :: cs, o, w, h => by
    rw [World.setCells]
    exact ArrIs.farCells hne cs (o + 1) _ (h.far hne)
theorem ArrIs.setAt {g : Nat} {t : TypeId} {w : World} {pre mid post : List Value} (h : ArrIs w g t (pre ++ (mid ++ post))) (o : Nat) (cs : List Value) (ho : o = pre.length) (hl : mid.length = cs.length) : ArrIs (w.setCells g o cs) g t (pre ++ (cs ++ post)) := by
  subst ho
  exact ArrIs.setCells cs mid pre post w h hl
section
variable {w : World} {S : Nat} {u : V8} {rb : List Nat} {fill total : Nat} {begun : Bool}
theorem V8.len (u : V8) : (u.list.map v32).length = 8 := rfl
theorem st_sum (h : ArrIs w S 39 (stCells u rb fill total begun)) : w.rangeAt S 0 (u.list.map v32) := by
  have h1 : ArrIs w S 39 ([] ++ (u.list.map v32 ++ (rb.map v8 ++ [.int .i64 (fill : Int), .int .u64 (total : Int), .bool begun]))) := h
  exact h1.rangeAt
theorem st_rest (h : ArrIs w S 39 (stCells u rb fill total begun)) : w.rangeAt S 8 (rb.map v8) := by
  have h1 := h.rangeAt
  rwa [V8.len] at h1
theorem st_at (h : ArrIs w S 39 (stCells u rb fill total begun)) (hr : rb.length = 64) (j : Nat) (v : Value) (hj : ([.int .i64 (fill : Int), .int .u64 (total : Int), .bool begun] : List Value)[j]? = some v) : w.cell? ⟨S, 72 + j, none⟩ = some v := by
  refine h.cell ?_
  have h8 := V8.len u
  have h7 : u.list.length = 8 := rfl
  unfold stCells
  rw [List.getElem?_append_right (by omega), List.getElem?_append_right (by simp; omega), ← hj]
  congr 1
  simp [hr]
  omega
theorem st_setSum (h : ArrIs w S 39 (stCells u rb fill total begun)) (u' : V8) : ArrIs (w.setCells S 0 (u'.list.map v32)) S 39 (stCells u' rb fill total begun) := by
  have h1 : ArrIs w S 39 ([] ++ (u.list.map v32 ++ (rb.map v8 ++ [.int .i64 (fill : Int), .int .u64 (total : Int), .bool begun]))) := h
  exact h1.setAt 0 _ rfl rfl
theorem st_setFill (h : ArrIs w S 39 (stCells u rb fill total begun)) (hr : rb.length = 64) (f : Nat) : ArrIs (w.setCell ⟨S, 72, none⟩ (.int .i64 (f : Int))) S 39 (stCells u rb f total begun) := by
  have h1 := h.set 72 (.int .i64 (f : Int))
  have h8 := V8.len u
  have h7 : u.list.length = 8 := rfl
  unfold stCells at h1 ⊢
  rwa [List.set_append_right _ _ (by omega), List.set_append_right _ _ (by simp; omega), h8, List.length_map, hr] at h1
theorem st_setTotal (h : ArrIs w S 39 (stCells u rb fill total begun)) (hr : rb.length = 64) (f : Nat) : ArrIs (w.setCell ⟨S, 73, none⟩ (.int .u64 (f : Int))) S 39 (stCells u rb fill f begun) := by
  have h1 := h.set 73 (.int .u64 (f : Int))
  have h8 := V8.len u
  have h7 : u.list.length = 8 := rfl
  unfold stCells at h1 ⊢
  rwa [List.set_append_right _ _ (by omega), List.set_append_right _ _ (by simp; omega), h8, List.length_map, hr] at h1
theorem st_setBegun (h : ArrIs w S 39 (stCells u rb fill total begun)) (hr : rb.length = 64) (b : Bool) : ArrIs (w.setCell ⟨S, 74, none⟩ (.bool b)) S 39 (stCells u rb fill total b) := by
  have h1 := h.set 74 (.bool b)
  have h8 := V8.len u
  have h7 : u.list.length = 8 := rfl
  unfold stCells at h1 ⊢
  rwa [List.set_append_right _ _ (by omega), List.set_append_right _ _ (by simp; omega), h8, List.length_map, hr] at h1
/-- Bytes copied into the rest, from place o on. -/
theorem st_setRest (h : ArrIs w S 39 (stCells u rb fill total begun)) (o : Nat) (cs : List Nat) (ho : o + cs.length ≤ rb.length) : ArrIs (w.setCells S (8 + o) (cs.map v8)) S 39 (stCells u (rb.take o ++ (cs ++ rb.drop (o + cs.length))) fill total begun) := by
  have h8 := V8.len u
  have h7 : u.list.length = 8 := rfl
  have e : rb = rb.take o ++ ((rb.drop o).take cs.length ++ rb.drop (o + cs.length)) := by
    rw [← List.drop_drop, List.take_append_drop, List.take_append_drop]
  have h1 : ArrIs w S 39 ((u.list.map v32 ++ (rb.take o).map v8) ++ (((rb.drop o).take cs.length).map v8 ++ ((rb.drop (o + cs.length)).map v8 ++ [.int .i64 (fill : Int), .int .u64 (total : Int), .bool begun]))) := by
    have h0 := h
    unfold stCells at h0
    rw [e] at h0
    simpa [List.map_append, List.append_assoc] using h0
  have h2 := h1.setAt (8 + o) (cs.map v8) (by rw [List.length_append, h8, List.length_map, List.length_take]; omega) (by simp; omega)
  unfold stCells
  simpa [List.map_append, List.append_assoc] using h2
end
end Go.Proofs.Ytmbkbehccmadfaa
