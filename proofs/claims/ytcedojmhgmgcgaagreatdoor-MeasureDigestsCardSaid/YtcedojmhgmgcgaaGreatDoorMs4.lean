/-
  sha: a state in a block; parts of a block.
-/
import Derived.Test.YtcedojmhgmgcgaaGreatDoorMs1
import Derived.Deep.MidRow
import Derived.Test.YtcedojmhgmgcgaaGreatDoorMs1
import Derived.Great.BuildSlice
namespace Go.Proofs.YtcedojmhgmgcgaaGreatDoor
open Go.RowKit Go
set_option linter.unusedVariables false
set_option linter.unusedSimpArgs false
set_option maxRecDepth 100000
/-- The cells of a state. -/
def stCells (u : V8) (rb : List Nat) (fill total : Nat) (begun : Bool) : List Value := u.list.map v32 ++ (rb.map v8 ++ [.int .i64 (fill : Int), .int .u64 (total : Int), .bool begun])
theorem ArrIs.setCells {g : Nat} {t : TypeId} : ∀ (cs mid pre post : List Value) (w : World), ArrIs w g t (pre ++ (mid ++ post)) → mid.length = cs.length → ArrIs (w.setCells g pre.length cs) g t (pre ++ (cs ++ post))
  | [], [], pre, post, w, h, _ => h
  | [], _ :: _, _, _, _, _, hl => by simp at hl
  | _ :: _, [], _, _, _, _, hl => by simp at hl
  | c :: cs, m :: mid, pre, post, w, h, hl => by
    have h1 := h.set pre.length c
    rw [List.set_append_right _ _ (Nat.le_refl _), Nat.sub_self, List.cons_append, List.set_cons_zero] at h1
    have h2 := ArrIs.setCells cs mid (pre ++ [c]) post (w.setCell ⟨g, pre.length, none⟩ c) (by simpa using h1) (by simpa using hl)
    rw [World.setCells]
    simpa using h2
theorem ArrIs.rangeAt {w : World} {g : Nat} {t : TypeId} {pre mid post : List Value} (h : ArrIs w g t (pre ++ (mid ++ post))) : w.rangeAt g pre.length mid := fun j v hv => by
  have hj : j < mid.length := (List.getElem?_eq_some_iff.1 hv).1
  refine h.cell ?_
  rw [List.getElem?_append_right (by omega), List.getElem?_append_left (by omega), ← hv]
  congr 1
  omega
theorem ArrIs.there {w : World} {g : Nat} {t : TypeId} {vs : List Value} (h : ArrIs w g t vs) (o n : Nat) (hn : o + n ≤ vs.length) : w.there g o n := fun j hj =>
  ⟨by rw [h.cell (j := o + j) (u := vs[o + j]'(by omega)) (List.getElem?_eq_getElem _)]; rfl, h.free _⟩
theorem Below.setCells {B g : Nat} (hg : B ≤ g) {w0 : World} : ∀ (cs : List Value) (o : Nat) (w : World), Below B w0 w → Below B w0 (w.setCells g o cs)
  | [], _, _, h => h
  | c :: cs, o, w, h => by
    rw [World.setCells]
    exact Below.setCells hg cs (o + 1) _ (h.setCell hg c)
theorem ArrIs.farCells {g k : Nat} {t : TypeId} {vs : List Value} (hne : g ≠ k) : ∀ (cs : List Value) (o : Nat) (w : World), ArrIs w g t vs → ArrIs (w.setCells k o cs) g t vs
  | [], _, _, h => h
  | c :: cs, o, w, h => by
    rw [World.setCells]
    exact ArrIs.farCells hne cs (o + 1) _ (h.far hne)
theorem ArrIs.setAt {g : Nat} {t : TypeId} {w : World} {pre mid post : List Value} (h : ArrIs w g t (pre ++ (mid ++ post))) (o : Nat) (cs : List Value) (ho : o = pre.length) (hl : mid.length = cs.length) : ArrIs (w.setCells g o cs) g t (pre ++ (cs ++ post)) := by
  subst ho
  exact ArrIs.setCells cs mid pre post w h hl
section
variable {w : World} {S : Nat} {u : V8} {rb : List Nat} {fill total : Nat} {begun : Bool}
theorem V8.len (u : V8) : (u.list.map v32).length = 8 := rfl
theorem st_sum (h : ArrIs w S 79 (stCells u rb fill total begun)) : w.rangeAt S 0 (u.list.map v32) := by
  have h1 : ArrIs w S 79 ([] ++ (u.list.map v32 ++ (rb.map v8 ++ [.int .i64 (fill : Int), .int .u64 (total : Int), .bool begun]))) := h
  exact h1.rangeAt
theorem st_rest (h : ArrIs w S 79 (stCells u rb fill total begun)) : w.rangeAt S 8 (rb.map v8) := by
  have h1 := h.rangeAt
  rwa [V8.len] at h1
theorem st_at (h : ArrIs w S 79 (stCells u rb fill total begun)) (hr : rb.length = 64) (j : Nat) (v : Value) (hj : ([.int .i64 (fill : Int), .int .u64 (total : Int), .bool begun] : List Value)[j]? = some v) : w.cell? ⟨S, 72 + j, none⟩ = some v := by
  refine h.cell ?_
  have h8 := V8.len u
  have h7 : u.list.length = 8 := rfl
  unfold stCells
  rw [List.getElem?_append_right (by omega), List.getElem?_append_right (by simp; omega), ← hj]
  congr 1
  simp [hr]
  omega
theorem st_setSum (h : ArrIs w S 79 (stCells u rb fill total begun)) (u' : V8) : ArrIs (w.setCells S 0 (u'.list.map v32)) S 79 (stCells u' rb fill total begun) := by
  have h1 : ArrIs w S 79 ([] ++ (u.list.map v32 ++ (rb.map v8 ++ [.int .i64 (fill : Int), .int .u64 (total : Int), .bool begun]))) := h
  exact h1.setAt 0 _ rfl rfl
theorem st_setFill (h : ArrIs w S 79 (stCells u rb fill total begun)) (hr : rb.length = 64) (f : Nat) : ArrIs (w.setCell ⟨S, 72, none⟩ (.int .i64 (f : Int))) S 79 (stCells u rb f total begun) := by
  have h1 := h.set 72 (.int .i64 (f : Int))
  have h8 := V8.len u
  have h7 : u.list.length = 8 := rfl
  unfold stCells at h1 ⊢
  rwa [List.set_append_right _ _ (by omega), List.set_append_right _ _ (by simp; omega), h8, List.length_map, hr] at h1
theorem st_setTotal (h : ArrIs w S 79 (stCells u rb fill total begun)) (hr : rb.length = 64) (f : Nat) : ArrIs (w.setCell ⟨S, 73, none⟩ (.int .u64 (f : Int))) S 79 (stCells u rb fill f begun) := by
  have h1 := h.set 73 (.int .u64 (f : Int))
  have h8 := V8.len u
  have h7 : u.list.length = 8 := rfl
  unfold stCells at h1 ⊢
  rwa [List.set_append_right _ _ (by omega), List.set_append_right _ _ (by simp; omega), h8, List.length_map, hr] at h1
theorem st_setBegun (h : ArrIs w S 79 (stCells u rb fill total begun)) (hr : rb.length = 64) (b : Bool) : ArrIs (w.setCell ⟨S, 74, none⟩ (.bool b)) S 79 (stCells u rb fill total b) := by
  have h1 := h.set 74 (.bool b)
  have h8 := V8.len u
  have h7 : u.list.length = 8 := rfl
  unfold stCells at h1 ⊢
  rwa [List.set_append_right _ _ (by omega), List.set_append_right _ _ (by simp; omega), h8, List.length_map, hr] at h1
/-- Bytes copied into the rest, from place o on. -/
theorem st_setRest (h : ArrIs w S 79 (stCells u rb fill total begun)) (o : Nat) (cs : List Nat) (ho : o + cs.length ≤ rb.length) : ArrIs (w.setCells S (8 + o) (cs.map v8)) S 79 (stCells u (rb.take o ++ (cs ++ rb.drop (o + cs.length))) fill total begun) := by
  have h8 := V8.len u
  have h7 : u.list.length = 8 := rfl
  have e : rb = rb.take o ++ ((rb.drop o).take cs.length ++ rb.drop (o + cs.length)) := by
    rw [← List.drop_drop, List.take_append_drop, List.take_append_drop]
  have h1 : ArrIs w S 79 ((u.list.map v32 ++ (rb.take o).map v8) ++ (((rb.drop o).take cs.length).map v8 ++ ((rb.drop (o + cs.length)).map v8 ++ [.int .i64 (fill : Int), .int .u64 (total : Int), .bool begun]))) := by
    have h0 := h
    unfold stCells at h0
    rw [e] at h0
    simpa [List.map_append, List.append_assoc] using h0
  have h2 := h1.setAt (8 + o) (cs.map v8) (by rw [List.length_append, h8, List.length_map, List.length_take]; omega) (by simp; omega)
  unfold stCells
  simpa [List.map_append, List.append_assoc] using h2
end
end Go.Proofs.YtcedojmhgmgcgaaGreatDoor
namespace Go.Proofs.YtcedojmhgmgcgaaGreatDoor
set_option linter.unusedVariables false
set_option maxRecDepth 100000
def H0v : V8 := ⟨1779033703, 3144134277, 1013904242, 2773480762, 1359893119, 2600822924, 528734635, 1541459225⟩
theorem H0_eq : H0 = H0v.list := by kernel_rfl
def abcB : List Nat := [97, 98, 99, 128] ++ (List.replicate 52 0 ++ [0, 0, 0, 0, 0, 0, 0, 24])
theorem sch_ok : (schW abcB).getD 63 0 = 313650667 := by kernel_rfl
theorem abc_sum : (blockW H0v K0 abcB).list = [3128432319, 2399260650, 1094795486, 1571693091, 2953011619, 2518121116, 3021012833, 4060091821] := by kernel_rfl
end Go.Proofs.YtcedojmhgmgcgaaGreatDoor
namespace Go.Proofs.YtcedojmhgmgcgaaGreatDoor
open Go.RowKit Go
set_option linter.unusedVariables false
set_option linter.unusedSimpArgs false
set_option maxRecDepth 100000
/-- The words behind the first n blocks. -/
def hashN (u : V8) (bs : List Nat) : Nat → V8
  | 0 => u
  | n + 1 => blockW (hashN u bs n) K0 ((bs.drop (64 * n)).take 64)
theorem hashN_ok (u : V8) (bs : List Nat) (hu : u.Ok) : ∀ n, (hashN u bs n).Ok
  | 0 => hu
  | n + 1 => addV_ok _ _
theorem hashN_pre (u : V8) (xs ys : List Nat) : ∀ n, 64 * n ≤ xs.length → hashN u (xs ++ ys) n = hashN u xs n
  | 0, _ => rfl
  | n + 1, h => by
    unfold hashN
    rw [hashN_pre u xs ys n (by omega), List.drop_append_of_le_length (by omega), List.take_append_of_le_length (by rw [List.length_drop]; omega)]
/-- The rest, once bytes are copied in. -/
def restIn (rb : List Nat) (f : Nat) (cs : List Nat) : List Nat := rb.take f ++ (cs ++ rb.drop (f + cs.length))
theorem restIn_len (rb cs : List Nat) (f : Nat) (h : f + cs.length ≤ rb.length) : (restIn rb f cs).length = rb.length := by
  unfold restIn
  simp
  omega
theorem restIn_take (rb cs : List Nat) (f : Nat) (h : f + cs.length ≤ rb.length) : (restIn rb f cs).take (f + cs.length) = rb.take f ++ cs := by
  unfold restIn
  rw [← List.append_assoc, List.take_append_of_le_length (by simp; omega), List.take_of_length_le (by simp; omega)]
theorem restIn_byte (rb cs : List Nat) (f : Nat) (h1 : ∀ x ∈ rb, x < 256) (h2 : ∀ x ∈ cs, x < 256) : ∀ x ∈ restIn rb f cs, x < 256 := by
  intro x hx
  unfold restIn at hx
  rcases List.mem_append.1 hx with h | h
  · exact h1 x (List.mem_of_mem_take h)
  · rcases List.mem_append.1 h with h | h
    · exact h2 x h
    · exact h1 x (List.mem_of_mem_drop h)
theorem rest_more (p cs rb : List Nat) (hr : rb.length = 64) (ht : rb.take (p.length % 64) = p.drop (64 * (p.length / 64))) (hf : p.length % 64 + cs.length ≤ 64) :
    (restIn rb (p.length % 64) cs).take (p.length % 64 + cs.length) = (p ++ cs).drop (64 * (p.length / 64)) := by
  rw [restIn_take _ _ _ (by omega), ht, List.drop_append_of_le_length (by omega)]
theorem more_part (p cs : List Nat) (hf : p.length % 64 + cs.length < 64) : (p ++ cs).length / 64 = p.length / 64 ∧ (p ++ cs).length % 64 = p.length % 64 + cs.length ∧ hashN H0v (p ++ cs) (p.length / 64) = hashN H0v p (p.length / 64) := by
  refine ⟨by simp; omega, by simp; omega, hashN_pre _ _ _ _ (by omega)⟩
theorem more_full (p cs rb : List Nat) (hr : rb.length = 64) (ht : rb.take (p.length % 64) = p.drop (64 * (p.length / 64))) (hf : p.length % 64 + cs.length = 64) :
    (p ++ cs).length / 64 = p.length / 64 + 1 ∧ (p ++ cs).length % 64 = 0 ∧ hashN H0v (p ++ cs) (p.length / 64 + 1) = blockW (hashN H0v p (p.length / 64)) K0 (restIn rb (p.length % 64) cs) := by
  refine ⟨by simp; omega, by simp; omega, ?_⟩
  have h1 := rest_more p cs rb hr ht (by omega)
  rw [hf, List.take_of_length_le (by rw [restIn_len _ _ _ (by omega)]; omega)] at h1
  rw [h1, hashN, hashN_pre _ _ _ _ (by omega), List.take_of_length_le (by simp; omega)]
/-- The state in block S has begun and holds the bytes p. -/
def OpenSt (w : World) (S : Nat) (p : List Nat) (total : Nat) : Prop :=
  ∃ rb : List Nat, ArrIs w S 79 (stCells (hashN H0v p (p.length / 64)) rb (p.length % 64) total true) ∧ rb.length = 64 ∧ (∀ x ∈ rb, x < 256) ∧ rb.take (p.length % 64) = p.drop (64 * (p.length / 64))
theorem K0_ok : K0.length = 64 ∧ ∀ x ∈ K0, x < 4294967296 := by
  have h : (K0.length == 64 && K0.all (fun x => decide (x < 4294967296))) = true := by kernel_rfl
  rw [Bool.and_eq_true] at h
  exact ⟨eq_of_beq h.1, fun x hx => of_decide_eq_true ((List.all_eq_true.1 h.2) x hx)⟩
theorem H0v_ok : H0v.Ok := ⟨by decide, by decide, by decide, by decide, by decide, by decide, by decide, by decide⟩
/-- The law of a block as 'Write' calls it. -/
theorem step_K0 (u : V8) (bs : List Nat) (hu : u.Ok) (hl : bs.length = 64) (hb : ∀ x ∈ bs, x < 256) (w : World) :
    Calls Tryz.prog 35 #[.agg (u.list.map v32).toArray, .agg (bs.map v8).toArray, .agg (K0.map v32).toArray] w fun e w' => e = .returned (.agg ((blockW u K0 bs).list.map v32).toArray) ∧ Below w.heap.size w w' :=
  step_any u K0 bs hu K0_ok.1 K0_ok.2 hl hb w
end Go.Proofs.YtcedojmhgmgcgaaGreatDoor
namespace Go.Proofs.YtcedojmhgmgcgaaGreatDoor
open Go.RowKit Go
set_option linter.unusedVariables false
set_option linter.unusedSimpArgs false
set_option maxRecDepth 100000
/-- The slice reads as bs, out of another block than S. -/
def Src (w : World) (S : Nat) (A : Option Addr) (bs : List UInt8) : Prop :=
  bs ≠ [] → ∃ b off, A = some ⟨b, off, none⟩ ∧ b ≠ S ∧ b < w.heap.size ∧ ∀ j (hj : j < bs.length), w.cell? ⟨b, off + j, none⟩ = some (bv bs[j])
theorem Src.kept {w w' : World} {S : Nat} {A : Option Addr} {bs : List UInt8} (h : Src w S A bs) (hg : w.grownBy w' (some S)) : Src w' S A bs := fun hn => by
  obtain ⟨b, off, e, hb, hl, hc⟩ := h hn
  refine ⟨b, off, e, hb, Nat.lt_of_lt_of_le hl hg.size, fun j hj => ?_⟩
  rw [hg.cell_far ⟨b, off + j, none⟩ hl (by simpa using hb)]
  exact hc j hj
theorem Src.drop_ {w : World} {S : Nat} {A : Option Addr} {bs : List UInt8} (h : Src w S A bs) (k : Nat) : Src w S (A.map (·.add k)) (bs.drop k) := fun hn => by
  have hk : k < bs.length := by
    rcases Nat.lt_or_ge k bs.length with h1 | h1
    · exact h1
    · exact absurd (List.drop_eq_nil_of_le h1) hn
  obtain ⟨b, off, e, hb, hl, hc⟩ := h (by intro e; rw [e] at hk; simp at hk)
  refine ⟨b, off + k, by rw [e, Option.map_some, Addr.add_mid], hb, hl, fun j hj => ?_⟩
  rw [List.length_drop] at hj
  rw [List.getElem_drop, Nat.add_assoc]
  exact hc (k + j) (by omega)
theorem Src.of_bs {w : World} {S B : Nat} {A : Option Addr} {bs : List UInt8} (h : Bs w B A bs) (hB : B ≤ w.heap.size) (hS : ∀ b off, A = some ⟨b, off, none⟩ → b ≠ S) : Src w S A bs := fun hn => by
  obtain ⟨b, off, e, hb, hc⟩ := h hn
  exact ⟨b, off, e, hS b off e, by omega, fun j hj => hc j hj⟩
theorem grown_cells (S : Nat) {w0 : World} : ∀ (cs : List Value) (o : Nat) (w : World), w0.grownBy w (some S) → w0.grownBy (w.setCells S o cs) (some S)
  | [], _, _, h => h
  | c :: cs, o, w, h => by
    rw [World.setCells]
    exact grown_cells S cs (o + 1) _ (grown_tr h (grown_one w S o c))
/-- Copying out of it into a part of block S. -/
theorem run_cpy_part (w : World) (S o dl dc m c : Nat) (A : Option Addr) (bs : List UInt8) (t : TypeId) (vs : List Value) (hv : ArrIs w S t vs) (ho : o + dl ≤ vs.length) (hs : Src w S A bs) (hm : bs.length = m) (ty : TypeId) :
    (Builtin.copy_ #[22, 22] ty #[.slice (some ⟨S, o, none⟩) dl dc, .slice A m c]).run Tryz.prog w = .ok (goInt ((min m dl : Nat) : Int)) (w.setCells S o (((bs.take dl).map UInt8.toNat).map v8)) := by
  have hsz : (Tryz.prog.info? 5).map (·.size) = some 1 := by kernel_rfl
  by_cases h0 : min m dl = 0
  · rw [run_copy_none w _ _ ty 5 _ _ dl dc m c Tryz.underlying22 hsz h0, h0]
    have hy : bs.take dl = [] := List.eq_nil_of_length_eq_zero (by rw [List.length_take]; omega)
    rw [hy]
    rfl
  · obtain ⟨b, off, rfl, hb, hl, hc⟩ := hs (by intro e; rw [e] at hm; simp at hm; omega)
    have hlen : (((bs.take dl).map UInt8.toNat).map v8).length = min m dl := by rw [List.length_map, List.length_map, List.length_take]; omega
    have := run_copy_cells (P := Tryz.prog) w 22 22 ty 5 S o dl dc ⟨b, off, none⟩ m c (((bs.take dl).map UInt8.toNat).map v8) Tryz.underlying22 hsz hlen
      (fun j v hj => by
        rw [List.getElem?_map, List.getElem?_map] at hj
        have hjl : j < (bs.take dl).length := by
          rcases Nat.lt_or_ge j (bs.take dl).length with h1 | h1
          · exact h1
          · rw [List.getElem?_eq_none h1] at hj; cases hj
        rw [List.getElem?_eq_getElem hjl] at hj
        injection hj with hj
        rw [List.length_take] at hjl
        rw [Addr.add_mid, hc j (by omega), ← hj, List.getElem_take])
      (fun j hj => (hv.there o dl ho j (by omega)).1) (fun j hj => (hv.there o dl ho j (by omega)).2)
      (fun v hv => by obtain ⟨x, _, rfl⟩ := List.mem_map.1 hv; rfl)
    rw [this, hlen]
end Go.Proofs.YtcedojmhgmgcgaaGreatDoor
namespace Go.Proofs.YtcedojmhgmgcgaaGreatDoor
open Go.RowKit Go
set_option linter.unusedVariables false
set_option maxRecDepth 100000
def zeroState : List Value := List.replicate 8 (.int .u32 0) ++ (List.replicate 64 (.int .u8 0) ++ [.int .i64 0, .int .u64 0, .bool false])
theorem new_any (w : World) : Calls Tryz.prog 16 #[] w fun e w' => e = .returned (.pointer (some ⟨w.heap.size, 0, none⟩)) ∧ w' = w.alloc (.cells zeroState.toArray 79) := by
  go_enter Tryz.func16, Tryz.ntmps16
  go_wp2_with (refine wpList_buildTo rfl _ _ rfl _ rfl zeroState.toArray (by kernel_rfl) ?_)
  go_ret
  exact ⟨rfl, rfl⟩
end Go.Proofs.YtcedojmhgmgcgaaGreatDoor
