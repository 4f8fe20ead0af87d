/-
  Appending a byte, what the slice had before still standing; rows of slices.
-/
import Derived.Test.YtcedojmhgmgcgaaGreatDoorOwn
import Derived.Maps.AppendAt
namespace Go.Proofs.YtcedojmhgmgcgaaGreatDoor
open Go.RowKit Go
set_option linter.unusedVariables false
set_option maxRecDepth 100000
section
variable (w : World)
/-- APPENDING ONE BYTE: the new slice owns what is there then; the old one owns what it owned; and the new one lies where the old one lay, or in a new block. -/
theorem run_app1 (base : Nat) (A0 : Option Addr) (n0 c0 : Nat) (bs : List UInt8) (hown : OwnB w base A0 n0 c0 bs)
    (sb : Nat) (c : Nat) (x : UInt8) (hx : w.cell? ⟨sb, 0, none⟩ = some (bv x)) (hlim : n0 + 1 ≤ 140737488355328) (hbase : base ≤ w.heap.size) :
    ∃ A' c' w', (Builtin.append_ #[22, 22] 22 #[.slice A0 n0 c0, .slice (some ⟨sb, 0, none⟩) 1 c]).run Tryz.prog w = .ok (.slice A' (n0 + 1) c') w' ∧
      OwnB w' base A' (n0 + 1) c' (bs ++ [x]) ∧ OwnB w' base A0 n0 c0 bs ∧ w.grownBy w' (blk A0) ∧ (blk A' = blk A0 ∨ blk A' = some w.heap.size) := by
  obtain ⟨i, hi, hz0, hz1, hz2⟩ := info_parts u8_info
  have hlen := hown.len
  have hnews : ∀ j u, [bv x][j]? = some u → w.cell? ((⟨sb, 0, none⟩ : Addr).add j) = some u := by
    intro j u hj
    match j, hj with
    | 0, hj => simp at hj; subst hj; simpa [Addr.add] using hx
  by_cases hroom : n0 + 1 ≤ c0
  · rcases hown.2 with ⟨hv, hn⟩ | ⟨g, cap, cur, hv, hb, hh, hle, hm, hcs, htk⟩
    · injection hv with _ _ h3; omega
    · injection hv with h1 _ h3
      subst h1; subst h3
      simp only [Nat.mul_one] at hcs htk
      have hr := run_append_room (P := Tryz.prog) w 22 22 5 i Tryz.underlying22 hi g n0 c0 cur hh ⟨sb, 0, none⟩ 1 c [bv x] (by rw [hz1]; rfl) hnews (by intro u hu; simp at hu; subst hu; rfl) hroom (by rw [hz1, hcs]; simp; omega)
      rw [hz1] at hr
      simp only [Nat.mul_one, List.length_singleton] at hr
      have hl : cur.toList.length = c0 := by simpa using hcs
      have hsz : (cur.toList.take n0 ++ [bv x] ++ cur.toList.drop (n0 + 1)).length = c0 := by
        simp only [List.length_append, List.length_take, List.length_drop, hl, List.length_singleton]; omega
      have hh' := setRow_heap w g cur (cur.toList.take n0 ++ [bv x] ++ cur.toList.drop (n0 + 1)).toArray _ _ hh
      have htk1 : (cur.toList.take n0 ++ [bv x] ++ cur.toList.drop (n0 + 1)).take n0 = bs.map bv := by
        rw [List.append_assoc, List.take_append_of_le_length (by rw [List.length_take, hl]; omega), List.take_take, Nat.min_self, htk]
      have htk2 : (cur.toList.take n0 ++ [bv x] ++ cur.toList.drop (n0 + 1)).take (n0 + 1) = (bs ++ [x]).map bv := by
        rw [List.take_append_of_le_length (by rw [List.length_append, List.length_take, hl, List.length_singleton]; omega), List.take_of_length_le (by rw [List.length_append, List.length_take, hl, List.length_singleton]; omega), htk, List.map_append]; rfl
      refine ⟨_, _, _, hr, ⟨by simp [hlen], .inr ⟨g, c0, _, rfl, hb, hh', hroom, hm, by simpa using hsz, by simpa using htk2⟩⟩,
        ⟨hown.1, .inr ⟨g, c0, _, rfl, hb, hh', hle, hm, by simpa using hsz, by simpa using htk1⟩⟩, ⟨rfl, rfl, rfl, by simp [World.setRow], fun k _ hk => setRow_other w g k _ (fun e => hk (by rw [e]; rfl))⟩, .inl rfl⟩
  · -- it grows
    have hgrow : ∃ c' W', (Builtin.append_ #[22, 22] 22 #[.slice A0 n0 c0, .slice (some ⟨sb, 0, none⟩) 1 c]).run Tryz.prog w = .ok (.slice (some ⟨w.heap.size, 0, none⟩) (n0 + 1) c') W' ∧ OwnB W' base (some ⟨w.heap.size, 0, none⟩) (n0 + 1) c' (bs ++ [x]) ∧ w.grownBy W' none := by
      have hge := grownCap_ge w (n0 + 1) c0 5
      have hcm : grownCap w (n0 + 1) c0 5 ≤ maxLen := grownCap_le_maxLen w (n0 + 1) c0 5 (by unfold maxLen; omega)
      have hr : (Builtin.append_ #[22, 22] 22 #[.slice A0 n0 c0, .slice (some ⟨sb, 0, none⟩) 1 c]).run Tryz.prog w = .ok (.slice (some ⟨w.heap.size, 0, none⟩) (n0 + 1) (grownCap w (n0 + 1) c0 5))
          (w.drew.alloc (.cells ((bs.map bv).toArray ++ [bv x].toArray ++ Builtin.zeroCells (Value.int .u8 0).cells (grownCap w (n0 + 1) c0 5 - (n0 + 1))) 5)) := by
        rcases hown.2 with ⟨hv, hn⟩ | ⟨g, cap, cur, hv, hb, hh, hle, hm, hcs, htk⟩
        · injection hv with h1 h2 h3
          subst h1; subst h2; subst h3
          have hbs : bs = [] := List.eq_nil_of_length_eq_zero hlen
          subst hbs
          have := run_append_nil (P := Tryz.prog) w 22 22 5 i (.int .u8 0) Tryz.underlying22 hi hz0 ⟨sb, 0, none⟩ 1 c [bv x] (by rw [hz1]; rfl) hnews (by omega) (by omega) (by rw [hz2]; omega)
          simpa using this
        · injection hv with h1 h2 h3
          subst h1; subst h3
          have holds : ∀ j v, (bs.map bv)[j]? = some v → w.cell? ((⟨g, 0, none⟩ : Addr).add j) = some v := World.ownsRow.cells (v := .slice (some ⟨g, 0, none⟩) n0 c0) hown rfl
          exact run_append_grow (P := Tryz.prog) w 22 22 5 i (.int .u8 0) Tryz.underlying22 hi hz0 ⟨g, 0, none⟩ n0 c0 (bs.map bv) (by rw [hz1, List.length_map, hlen, Nat.mul_one]) holds ⟨sb, 0, none⟩ 1 c [bv x] (by rw [hz1]; rfl) hnews (by omega) (by omega) (growslice_fits (by omega) (by rw [hz2]; omega))
      refine ⟨_, _, hr, ⟨by simp [hlen], .inr ⟨w.heap.size, _, _, rfl, hbase, heap_alloc_new w.drew _, hge, hcm, ?_, ?_⟩⟩, ⟨rfl, rfl, rfl, by simp, fun k hk _ => Below.heap_alloc w.drew _ k hk⟩⟩
      · simp only [Array.size_append, List.size_toArray, List.length_map, List.length_singleton, hlen, size_zeroCells]
        show n0 + 1 + (_ - (n0 + 1)) * 1 = _ * 1
        omega
      · simp only [Array.toList_append, List.append_assoc, Nat.mul_one]
        rw [← List.append_assoc, List.take_append_of_le_length (by rw [List.length_append, List.length_map, List.length_singleton, hlen]; omega), List.take_of_length_le (by rw [List.length_append, List.length_map, List.length_singleton, hlen]; omega), List.map_append]
        rfl
    obtain ⟨c', W', hr, h1, h2⟩ := hgrow
    refine ⟨_, _, _, hr, h1, hown.kept h2 (by cases blk A0 <;> simp), ⟨h2.os, h2.tape, h2.output, h2.size, fun k hk _ => h2.block k hk (by simp)⟩, .inr rfl⟩
end
section
variable {w : World} {ops : Array Oper} {rest : List Oper} {o : Oper} {a : Act} {Q : Exit → Act → World → Prop}
theorem wpList_app1 (s x : Operand) (ho : o.op = .call { callee := .builtin .append, args := #[s, x], argTypes := #[22, 22] }) (hgd : o.guard = none) (hty : o.type = 22)
    (base : Nat) (A0 : Option Addr) (n0 c0 : Nat) (bs : List UInt8) (hs : a.eval s = .slice A0 n0 c0) (hown : OwnB w base A0 n0 c0 bs)
    (sb c : Nat) (q : UInt8) (hx : a.eval x = .slice (some ⟨sb, 0, none⟩) 1 c) (hq : w.cell? ⟨sb, 0, none⟩ = some (bv q)) (hlim : n0 + 1 ≤ 140737488355328) (hbase : base ≤ w.heap.size)
    (h : ∀ A' c' w', OwnB w' base A' (n0 + 1) c' (bs ++ [q]) → OwnB w' base A0 n0 c0 bs → w.grownBy w' (blk A0) → (blk A' = blk A0 ∨ blk A' = some w.heap.size) → wpList Tryz.prog ops Q rest (a.put o.dst (.slice A' (n0 + 1) c')) w') : wpList Tryz.prog ops Q (o :: rest) a w := by
  refine wpList_plain hgd fun K hK => ?_
  obtain ⟨A', c', w', hrun, h2, h3, h4, h5⟩ := run_app1 w base A0 n0 c0 bs hown sb c q hq hlim hbase
  unfold Oper.wp execOp
  simp only [ho, resolve, invoke, builtin, Sem.run_bind, Sem.run_pure, Result.andThen_ok, List.map_toArray, List.map_cons, List.map_nil, hs, hx, hty, hrun]
  exact hK _ _ (h A' c' w' h2 h3 h4 h5)
end
/-- A store into bytes that are owned leaves others as they were. -/
theorem grown_set (w : World) (g j : Nat) (u : Value) : w.grownBy (w.setCell ⟨g, j, none⟩ u) (some g) :=
  ⟨rfl, rfl, rfl, by simp [World.setCell], fun k _ hk => Below.heap_setCell w ⟨g, j, none⟩ u k (fun e => hk (by rw [e]))⟩

/-! ### Rows of slices -/
/-- The row of slices '.slice V m c' holds the slices vs. -/
def OwnS (w : World) (base : Nat) (V : Option Addr) (m c : Nat) (vs : List Value) : Prop := w.ownsRow base 22 1 (.slice V m c) m vs
theorem bs_info : (Tryz.prog.info? 22).map (fun i => (i.zero, i.size, i.bytes)) = some (some (.slice none 0 0), 1, 24) := by kernel_rfl
section
variable {w w' : World} {base : Nat} {V : Option Addr} {m c : Nat} {vs : List Value}
theorem OwnS.nil (w : World) (base : Nat) : OwnS w base none 0 0 [] := World.ownsRow_nil w base _ _
theorem OwnS.len (h : OwnS w base V m c vs) : vs.length = m := by simpa using h.1
theorem OwnS.kind (h : OwnS w base V m c vs) : ∀ g, blk V = some g → ∃ cur, w.heap[g]? = some (.cells cur 22 (0, 0)) := by
  intro g hg
  rcases h.2 with ⟨hv, _⟩ | ⟨g', cap, cur, hv, _, hh, _⟩
  · injection hv with h1; subst h1; cases hg
  · injection hv with h1; subst h1
    injection hg with hg
    subst hg
    exact ⟨cur, hh⟩
theorem OwnS.kept (h : OwnS w base V m c vs) {row : Option Nat} (hg : w.grownBy w' row) (hne : blk V = none ∨ blk V ≠ row) : OwnS w' base V m c vs := World.ownsRow.kept h hg (by rw [blk_own]; exact hne)
theorem OwnS.alloc (h : OwnS w base V m c vs) (o : Obj) : OwnS (w.alloc o) base V m c vs := World.ownsRow.alloc h o
theorem OwnS.below (h : OwnS w base V m c vs) {B : Nat} (hb : Below B w w') (hB : w.heap.size ≤ B) : OwnS w' base V m c vs :=
  h.kept (grown_of_below hb hB none) (by cases blk V <;> simp)
theorem OwnS.at_ (h : OwnS w base V m c vs) {k : Nat} {v : Value} (hv : vs[k]? = some v) : ∃ g, V = some ⟨g, 0, none⟩ ∧ base ≤ g ∧ g < w.heap.size ∧ w.cell? ⟨g, k, none⟩ = some v := by
  have hk : k < m := by
    rcases Nat.lt_or_ge k vs.length with h1 | h1
    · rw [h.len] at h1; exact h1
    · rw [List.getElem?_eq_none h1] at hv; cases hv
  rcases h.2 with ⟨_, hn⟩ | ⟨g, cap, cur, hv', hb, hh, hle, hm, hcs, htk⟩
  · omega
  · injection hv' with h1 h2 h3
    subst h1; subst h3
    refine ⟨g, rfl, hb, (Array.getElem?_eq_some_iff.1 hh).1, ?_⟩
    have := World.ownsRow.cellAt (g := g) h k (by omega)
    rw [this, hv]
/-- A row of slices and owned bytes never share a block. -/
theorem own_ne {A : Option Addr} {n c' base' : Nat} {bs : List UInt8} (h : OwnS w base V m c vs) (hb : OwnB w base' A n c' bs) (hne : 22 ≠ 5) : blk V = none ∨ blk V ≠ blk A := by
  cases hV : blk V with
  | none => exact .inl rfl
  | some g =>
    right
    intro e
    obtain ⟨cur, h1⟩ := h.kind g hV
    obtain ⟨cur', h2⟩ := hb.kind g e.symm
    rw [h1] at h2
    injection h2 with h2
    injection h2 with _ h3
    exact hne h3
end
section
variable {w : World} {ops : Array Oper} {rest : List Oper} {o : Oper} {a : Act} {Q : Exit → Act → World → Prop}
/-- Appending one slice to a row of slices. -/
theorem wpList_appS (s x : Operand) (ho : o.op = .call { callee := .builtin .append, args := #[s, x], argTypes := #[28, 28] }) (hgd : o.guard = none) (hty : o.type = 28)
    (base : Nat) (V : Option Addr) (m c0 : Nat) (vs : List Value) (hs : a.eval s = .slice V m c0) (hown : OwnS w base V m c0 vs)
    (sb c : Nat) (v : Value) (hx : a.eval x = .slice (some ⟨sb, 0, none⟩) 1 c) (hv : w.cell? ⟨sb, 0, none⟩ = some v) (hone : v.oneCell' = true) (hlim : m + 1 ≤ 1000000000) (hbase : base ≤ w.heap.size)
    (h : ∀ V' c' w', OwnS w' base V' (m + 1) c' (vs ++ [v]) → w.grownBy w' (blk V) → wpList Tryz.prog ops Q rest (a.put o.dst (.slice V' (m + 1) c')) w') : wpList Tryz.prog ops Q (o :: rest) a w := by
  refine wpList_plain hgd fun K hK => ?_
  obtain ⟨i, hi, hz0, hz1, hz2⟩ := info_parts bs_info
  obtain ⟨v', w', hrun, h2, h3, _⟩ := run_append_own (P := Tryz.prog) w base 28 28 22 i (.slice none 0 0) 1 24 Tryz.underlying28 hi hz0 hz1 hz2 rfl (by decide) (.slice V m c0) m vs hown ⟨sb, 0, none⟩ 1 c [v]
    rfl (by
      intro j u hj
      match j, hj with
      | 0, hj => simp at hj; subst hj; simpa [Addr.add] using hv) (by intro u hu; simp at hu; subst hu; exact hone) (by unfold maxLen; omega) (by omega) hbase
  rw [blk_own] at h3
  have hsh : ∃ V' c', v' = .slice V' (m + 1) c' := by
    rcases h2.2 with ⟨rfl, hn⟩ | ⟨g, cap, cur, rfl, _⟩
    · omega
    · exact ⟨_, _, rfl⟩
  obtain ⟨V', c', rfl⟩ := hsh
  unfold Oper.wp execOp
  simp only [ho, resolve, invoke, builtin, Sem.run_bind, Sem.run_pure, Result.andThen_ok, List.map_toArray, List.map_cons, List.map_nil, hs, hx, hty, hrun]
  exact hK _ _ (h V' c' w' h2 h3)
end
end Go.Proofs.YtcedojmhgmgcgaaGreatDoor
