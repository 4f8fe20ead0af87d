/-
  Bytes that a call of this seat's program owns: appending to them, and reading them as a text.
-/
import Derived.Test.YtbplchpbaonadaaDoorBytes
import Derived.OwnWalk
import Derived.Laws.BytesArg
import Derived.Laws.Strings
import Derived.Lib.Strings
namespace Go.Proofs.YtbplchpbaonadaaDoor
open Go.RowKit Go
set_option linter.unusedVariables false
set_option maxRecDepth 100000

/-- The slice '.slice A n c' owns the bytes bs, in a block from 'base' on. -/
def OwnB (w : World) (base : Nat) (A : Option Addr) (n c : Nat) (bs : List UInt8) : Prop := w.ownsRow base 5 1 (.slice A n c) n (bs.map bv)
/-- Which block that is. -/
def blk : Option Addr → Option Nat
  | some a => some a.block
  | none => none
theorem blk_own (A : Option Addr) (n c : Nat) : (Value.slice A n c).ownBlock = blk A := by cases A <;> rfl
section
variable {w w' : World} {base : Nat} {A : Option Addr} {n c : Nat} {bs : List UInt8}
theorem OwnB.nil (w : World) (base : Nat) : OwnB w base none 0 0 [] := World.ownsRow_nil w base _ _
theorem OwnB.len (h : OwnB w base A n c bs) : bs.length = n := by simpa using h.1
theorem OwnB.reads (h : OwnB w base A n c bs) : Bs w w.heap.size A bs := Bs.of_own h
theorem OwnB.rb (h : OwnB w base A n c bs) : RB w A n bs := ⟨h.len, h.reads⟩
theorem OwnB.alloc (h : OwnB w base A n c bs) (o : Obj) : OwnB (w.alloc o) base A n c bs := World.ownsRow.alloc h o
theorem OwnB.drew (h : OwnB w base A n c bs) : OwnB w.drew base A n c bs := h
theorem OwnB.drewN (h : OwnB w base A n c bs) (k : Nat) : OwnB (w.drewN k) base A n c bs := h
theorem OwnB.blk_lt (h : OwnB w base A n c bs) {k : Nat} (hk : blk A = some k) : base ≤ k ∧ k < w.heap.size := World.ownsRow.lt h k (by rw [blk_own]; exact hk)
theorem OwnB.kept (h : OwnB w base A n c bs) {row : Option Nat} (hg : w.grownBy w' row) (hne : blk A = none ∨ blk A ≠ row) : OwnB w' base A n c bs := World.ownsRow.kept h hg (by rw [blk_own]; exact hne)
theorem grown_of_below {w w' : World} {B : Nat} (hb : Below B w w') (hB : w.heap.size ≤ B) (row : Option Nat) : w.grownBy w' row :=
  ⟨hb.os, hb.tape, hb.output, hb.size, fun k hk _ => hb.block k (by omega)⟩
theorem OwnB.below (h : OwnB w base A n c bs) {B : Nat} (hb : Below B w w') (hB : w.heap.size ≤ B) : OwnB w' base A n c bs :=
  h.kept (grown_of_below hb hB none) (by cases blk A <;> simp)
theorem OwnB.lower (h : OwnB w base A n c bs) {base' : Nat} (hb : base' ≤ base) : OwnB w base' A n c bs := by
  obtain ⟨h1, h2⟩ := h
  refine ⟨h1, ?_⟩
  rcases h2 with h2 | ⟨g, cap, cur, a, b, d⟩
  · exact .inl h2
  · exact .inr ⟨g, cap, cur, a, by omega, d⟩
theorem OwnB.cap (h : OwnB w base A n c bs) : n ≤ c ∧ c ≤ maxLen := by
  rcases h.2 with ⟨hv, hn⟩ | ⟨g, cap, cur, hv, _, _, hle, hm, _⟩
  · injection hv with _ _ h3; subst h3; subst hn; exact ⟨Nat.le_refl _, Nat.zero_le _⟩
  · injection hv with _ _ h3; subst h3; exact ⟨hle, hm⟩
end
section
variable {w w' : World} {base g : Nat} {A : Option Addr} {n c : Nat} {bs : List UInt8}
theorem OwnB.shape (h : OwnB w base A n c bs) (hn : 0 < c) : ∃ g, A = some ⟨g, 0, none⟩ ∧ base ≤ g ∧ g < w.heap.size := by
  rcases h.2 with ⟨hv, _⟩ | ⟨g, cap, cur, hv, hb, hh, _⟩
  · injection hv with _ _ h3; omega
  · injection hv with h1 _ _
    exact ⟨g, h1, hb, (Array.getElem?_eq_some_iff.1 hh).1⟩
theorem OwnB.cellAt (h : OwnB w base (some ⟨g, 0, none⟩) n c bs) (j : Nat) (q : UInt8) (hq : bs[j]? = some q) : w.cell? ⟨g, j, none⟩ = some (.int .u8 (q.toNat : Int)) := by
  have hl : j < bs.length := by
    rcases Nat.lt_or_ge j bs.length with h1 | h1
    · exact h1
    · rw [List.getElem?_eq_none h1] at hq; cases hq
  rw [World.ownsRow.cellAt h j (by have := h.len; omega), List.getElem?_map, hq]
  rfl
theorem OwnB.free (h : OwnB w base (some ⟨g, 0, none⟩) n c bs) (j : Nat) : w.frozen? ⟨g, j, none⟩ = false := World.ownsRow.frozenAt h j
theorem OwnB.stored (h : OwnB w base (some ⟨g, 0, none⟩) n c bs) (j : Nat) (q : UInt8) : OwnB (w.setCell ⟨g, j, none⟩ (.int .u8 (q.toNat : Int))) base (some ⟨g, 0, none⟩) n c (bs.set j q) := by
  have := (World.ownsRow.stored h j (bv q)).1
  unfold OwnB
  rwa [List.map_set]
end
theorem OwnB.kind {w : World} {base : Nat} {A : Option Addr} {n c : Nat} {bs : List UInt8} (h : OwnB w base A n c bs) : ∀ g, blk A = some g → ∃ cur, w.heap[g]? = some (.cells cur 5 (0, 0)) := by
  intro g hg
  rcases h.2 with ⟨hv, _⟩ | ⟨g', cap, cur, hv, _, hh, _⟩
  · injection hv with h1; subst h1; cases hg
  · injection hv with h1; subst h1
    injection hg with hg
    subst hg
    exact ⟨cur, hh⟩
/-- One more of n numbers is laid where noughts stand. -/
theorem set_step {α : Type} (Z : List α) (z x : α) (n k : Nat) (hl : Z.length = n) (hk : k < n) (hx : Z[k]? = some x) :
    (Z.take k ++ List.replicate (n - k) z).set k x = Z.take (k + 1) ++ List.replicate (n - (k + 1)) z := by
  have hlt : (Z.take k).length = k := by rw [List.length_take]; omega
  rw [List.set_append_right _ _ (by omega), hlt, Nat.sub_self]
  rw [show n - k = (n - (k + 1)) + 1 by omega, List.replicate_succ, List.set_cons_zero]
  have hZ : Z[k]'(by omega) = x := by rw [List.getElem?_eq_getElem (by omega)] at hx; injection hx
  rw [List.take_succ_eq_append_getElem (by omega), hZ, List.append_assoc]
  rfl
/-- What a function answers that makes bytes of its own. -/
def Fresh (w : World) (bs : List UInt8) (e : Ending) (w' : World) : Prop :=
  ∃ A n c, e = .returned (.slice A n c) ∧ OwnB w' w.heap.size A n c bs ∧ Below w.heap.size w w'

theorem u8_info : (Tryd.prog.info? 5).map (fun i => (i.zero, i.size, i.bytes)) = some (some (.int .u8 0), 1, 1) := by kernel_rfl

section
variable (w : World)
/-- APPENDING BYTES to bytes that the call owns: the source may be nil, empty, or anything that reads as bytes. -/
theorem run_app (base : Nat) (A0 : Option Addr) (n0 c0 : Nat) (bs : List UInt8) (hown : OwnB w base A0 n0 c0 bs)
    (B : Nat) (A : Option Addr) (c : Nat) (news : List UInt8) (hr : Bs w B A news) (hlim : bs.length + news.length ≤ 140737488355328) (hbase : base ≤ w.heap.size) :
    ∃ A' c' w', (Builtin.append_ #[23, 23] 23 #[.slice A0 n0 c0, .slice A news.length c]).run Tryd.prog w = .ok (.slice A' (n0 + news.length) c') w' ∧
      OwnB w' base A' (n0 + news.length) c' (bs ++ news) ∧ w.grownBy w' (blk A0) := by
  obtain ⟨i, hi, hz0, hz1, hz2⟩ := info_parts u8_info
  have hlen := hown.len
  rcases A with _ | ad
  · have hn : news = [] := by
      rcases news with _ | ⟨q, r⟩
      · rfl
      · obtain ⟨b, off, e, _⟩ := hr (by simp)
        cases e
    subst hn
    refine ⟨A0, c0, w, ?_, by simpa using hown, World.grownBy.refl w _⟩
    rcases hown.2 with ⟨hv, rfl⟩ | ⟨g, cap, cur, hv, _, _, hnc, _⟩
    · injection hv with h1 h2 h3
      subst h1; subst h3
      simp [Builtin.append_, run_underlying Tryd.underlying23, sizeOf, typeInfo, hi, Builtin.lenOf, Builtin.firstCells]
    · injection hv with h1 h2 h3
      subst h1; subst h3
      simp [Builtin.append_, run_underlying Tryd.underlying23, sizeOf, typeInfo, hi, Builtin.lenOf, Builtin.firstCells, hnc, storeCells]
  · have hnews : ∀ j u, (news.map bv)[j]? = some u → w.cell? (ad.add j) = some u := by
      intro j u hj
      rcases news with _ | ⟨q, r⟩
      · simp at hj
      · obtain ⟨b, off, e, _, hc⟩ := hr (by simp)
        injection e with e
        subst e
        have hjl : j < (q :: r).length := by
          rcases Nat.lt_or_ge j (q :: r).length with h | h
          · exact h
          · rw [List.getElem?_eq_none (by simpa using h)] at hj; cases hj
        rw [List.getElem?_map, List.getElem?_eq_getElem hjl] at hj
        injection hj with hj
        have hadd : (⟨b, off, none⟩ : Addr).add j = ⟨b, off + j, none⟩ := by unfold Addr.add; split <;> simp_all
        rw [hadd, hc j hjl, ← hj]
    obtain ⟨v', w', hrun, h2, h3, _⟩ := run_append_own (P := Tryd.prog) w base 23 23 5 i (.int .u8 0) 1 1 Tryd.underlying23 hi hz0 hz1 hz2 rfl (by decide) (.slice A0 n0 c0) n0 (bs.map bv) hown ad news.length c (news.map bv)
      (by simp) hnews (by intro u hu; simp at hu; obtain ⟨q, _, rfl⟩ := hu; rfl) (by unfold maxLen; omega) (by omega) hbase
    rw [blk_own] at h3
    rcases h2.2 with ⟨rfl, hn0⟩ | ⟨g, cap, cur, rfl, hg⟩
    · refine ⟨none, 0, w', by rw [hrun, hn0], ?_, h3⟩
      unfold OwnB
      rw [List.map_append]
      rw [hn0] at h2 ⊢
      exact h2
    · refine ⟨some ⟨g, 0, none⟩, cap, w', hrun, ?_, h3⟩
      unfold OwnB
      rw [List.map_append]
      exact h2
end
section
variable {w : World} {ops : Array Oper} {rest : List Oper} {o : Oper} {a : Act} {Q : Exit → Act → World → Prop}
theorem wpList_app (s x : Operand) (ho : o.op = .call { callee := .builtin .append, args := #[s, x], argTypes := #[23, 23] }) (hgd : o.guard = none) (hty : o.type = 23)
    (base : Nat) (A0 : Option Addr) (n0 c0 : Nat) (bs : List UInt8) (hs : a.eval s = .slice A0 n0 c0) (hown : OwnB w base A0 n0 c0 bs)
    (B : Nat) (A : Option Addr) (c : Nat) (news : List UInt8) (hx : a.eval x = .slice A news.length c) (hr : Bs w B A news) (hlim : bs.length + news.length ≤ 140737488355328) (hbase : base ≤ w.heap.size)
    (h : ∀ A' c' w', OwnB w' base A' (n0 + news.length) c' (bs ++ news) → w.grownBy w' (blk A0) → wpList Tryd.prog ops Q rest (a.put o.dst (.slice A' (n0 + news.length) c')) w') : wpList Tryd.prog ops Q (o :: rest) a w := by
  refine wpList_plain hgd fun K hK => ?_
  obtain ⟨A', c', w', hrun, h2, h3⟩ := run_app w base A0 n0 c0 bs hown B A c news hr hlim hbase
  unfold Oper.wp execOp
  simp only [ho, resolve, invoke, builtin, Sem.run_bind, Sem.run_pure, Result.andThen_ok, List.map_toArray, List.map_cons, List.map_nil, hs, hx, hty, hrun]
  exact hK _ _ (h A' c' w' h2 h3)
end

section
variable {w : World} {ops : Array Oper} {rest : List Oper} {o : Oper} {a : Act} {Q : Exit → Act → World → Prop}
/-- The same, the source's length under a name of its own. -/
theorem wpList_apn (s x : Operand) (ho : o.op = .call { callee := .builtin .append, args := #[s, x], argTypes := #[23, 23] }) (hgd : o.guard = none) (hty : o.type = 23)
    (base : Nat) (A0 : Option Addr) (n0 c0 : Nat) (bs : List UInt8) (hs : a.eval s = .slice A0 n0 c0) (hown : OwnB w base A0 n0 c0 bs)
    (A : Option Addr) (m c : Nat) (news : List UInt8) (hx : a.eval x = .slice A m c) (hr : RB w A m news) (hlim : n0 + m ≤ 140737488355328) (hbase : base ≤ w.heap.size)
    (h : ∀ A' c' w', OwnB w' base A' (n0 + m) c' (bs ++ news) → w.grownBy w' (blk A0) → wpList Tryd.prog ops Q rest (a.put o.dst (.slice A' (n0 + m) c')) w') : wpList Tryd.prog ops Q (o :: rest) a w := by
  obtain ⟨rfl, hb⟩ := hr
  exact wpList_app s x ho hgd hty base A0 n0 c0 bs hs hown _ A c news hx hb (by rw [hown.len]; exact hlim) hbase h
end
section
variable {w : World} {ops : Array Oper} {rest : List Oper} {o : Oper} {a : Act} {Q : Exit → Act → World → Prop}
/-- 'make([]byte, n)'. -/
theorem wpList_mk (l c : Operand) (ho : o.op = .makeSlice 23 l c) (hgd : o.guard = none) (kl kc : IntKind) (L C : Int) (n : Nat) (hl : a.eval l = .int kl L) (hc : a.eval c = .int kc C) (hL : L = (n : Int)) (hC : C = (n : Int)) (hlim : n ≤ 140737488355328)
    (h : ∀ w', OwnB w' w.heap.size (some ⟨w.heap.size, 0, none⟩) n n (List.replicate n 0) → w.grownBy w' none → wpList Tryd.prog ops Q rest (a.put o.dst (.slice (some ⟨w.heap.size, 0, none⟩) n n)) w') : wpList Tryd.prog ops Q (o :: rest) a w := by
  obtain ⟨i, hi, hz0, hz1, hz2⟩ := info_parts u8_info
  refine wpList_make_full w hgd l c 23 ho w.heap.size 5 i (.int .u8 0) 1 Tryd.underlying23 hi hz0 hz1 kl kc L C n hl hc hL hC (by rw [hz2]; omega) (by unfold maxLen; omega) (Nat.le_refl _) fun w' h1 h2 => h w' ?_ h2
  unfold OwnB
  rw [Nat.mul_one] at h1
  rw [show (Value.int .u8 0).cells = #[.int .u8 0] from rfl, toList_madeCells_one] at h1
  rw [List.map_replicate]
  exact h1
/-- 'make([]byte, 0, n)'. -/
theorem wpList_mk0 (l c : Operand) (ho : o.op = .makeSlice 23 l c) (hgd : o.guard = none) (kl kc : IntKind) (C : Int) (n : Nat) (hl : a.eval l = .int kl 0) (hc : a.eval c = .int kc C) (hC : C = (n : Int)) (hlim : n ≤ 140737488355328)
    (h : ∀ w', OwnB w' w.heap.size (some ⟨w.heap.size, 0, none⟩) 0 n [] → w.grownBy w' none → wpList Tryd.prog ops Q rest (a.put o.dst (.slice (some ⟨w.heap.size, 0, none⟩) 0 n)) w') : wpList Tryd.prog ops Q (o :: rest) a w := by
  obtain ⟨i, hi, hz0, hz1, hz2⟩ := info_parts u8_info
  exact wpList_make_own w hgd l c 23 ho w.heap.size 5 i (.int .u8 0) 1 Tryd.underlying23 hi hz0 hz1 kl kc C n hl hc hC (by rw [hz2]; omega) (by unfold maxLen; omega) (Nat.le_refl _) h
end

/-! ### Texts -/
/-- The text of bytes. -/
def strOf (bs : List UInt8) : ByteArray := ⟨bs.toArray⟩
theorem strOf_data (bs : List UInt8) : (strOf bs).data.toList = bs := rfl
theorem strOf_toList (bs : List UInt8) : (strOf bs).toList = bs := by rw [Lib.toList_data]; rfl
theorem strOf_size (bs : List UInt8) : (strOf bs).size = bs.length := rfl
theorem strOf_eq (s : ByteArray) : strOf s.data.toList = s := by cases s; rfl
theorem nums_bytes (l : List UInt8) : (l.map fun x => (x.toNat : Int)).map (fun n => UInt8.ofNat n.toNat) = l := by
  rw [List.map_map]
  exact (List.map_congr_left (fun x _ => by simp)).trans (List.map_id _)
theorem run_strOf (w : World) (B : Nat) (A : Option Addr) (bs : List UInt8) (c : Nat) (h : Bs w B A bs) :
    (convert 23 9 (.slice A bs.length c)).run Tryd.prog w = .ok (.string (strOf bs)) w := by
  rcases A with _ | ad
  · have hn : bs = [] := by
      rcases bs with _ | ⟨q, r⟩
      · rfl
      · obtain ⟨b, off, e, _⟩ := h (by simp)
        cases e
    subst hn
    exact run_convert_bytes_nil w _ _ Tryd.underlying23 Tryd.underlying5 _ _ _ Tryd.underlying9
  · rcases bs with _ | ⟨q, r⟩
    · rw [run_convert_bytes_string w _ _ _ _ _ _ Tryd.underlying23 Tryd.underlying5 Tryd.underlying9]
      rw [run_bytesToString w _ _ _ [] (by simp [loadCells, loadCellsFrom])]
      rfl
    · obtain ⟨b, off, e, _, hc⟩ := h (by simp)
      injection e with e
      subst e
      have := run_convert_bytes_arg (P := Tryd.prog) w 23 5 Tryd.underlying23 Tryd.underlying5 b off (q :: r).length c ((q :: r).map fun x => (x.toNat : Int)) (by simp) (fun i hi => by
        rw [hc i hi, List.getD_eq_getElem?_getD, List.getElem?_map, List.getElem?_eq_getElem hi]; rfl) 9 Tryd.underlying9
      rw [this]
      unfold strOfNums strOf
      rw [nums_bytes]
end Go.Proofs.YtbplchpbaonadaaDoor
