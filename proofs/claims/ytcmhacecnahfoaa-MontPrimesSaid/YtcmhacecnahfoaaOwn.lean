/-
  Bytes that a call of this seat's program owns: appending to them, and reading them as a text.
-/
import Derived.Test.YtcmhacecnahfoaaBytes
import Derived.OwnWalk
import Derived.Laws.BytesArg
import Derived.Laws.Strings
import Derived.Lib.Strings
namespace Go.Proofs.Ytcmhacecnahfoaa
open Go.RowKit Go
set_option linter.unusedVariables false

/-- The slice '.slice A n c' owns the bytes bs, in a block from 'base' on. -/
def OwnB (w : World) (base : Nat) (A : Option Addr) (n c : Nat) (bs : List UInt8) : Prop := w.ownsRow base 5 1 (.slice A n c) n (bs.map bv)
/-- Which block that is. -/
def blk : Option Addr → Option Nat
  | some a => some a.block
  | none => none
theorem blk_own (A : Option Addr) (n c : Nat) : (Value.slice A n c).ownBlock = blk A := by cases A <;> rfl
section
variable {w w' : World} {base : Nat} {A : Option Addr} {n c : Nat} {bs : List UInt8}
theorem OwnB.nil (w : World) (base : Nat) : OwnB w base none 0 0 [] := World.ownsRow_nil w base _ _
theorem OwnB.len (h : OwnB w base A n c bs) : bs.length = n := by simpa using h.1
theorem OwnB.reads (h : OwnB w base A n c bs) : Bs w w.heap.size A bs := Bs.of_own h
theorem OwnB.rb (h : OwnB w base A n c bs) : RB w A n bs := ⟨h.len, h.reads⟩
theorem OwnB.alloc (h : OwnB w base A n c bs) (o : Obj) : OwnB (w.alloc o) base A n c bs := World.ownsRow.alloc h o
theorem OwnB.drew (h : OwnB w base A n c bs) : OwnB w.drew base A n c bs := h
theorem OwnB.drewN (h : OwnB w base A n c bs) (k : Nat) : OwnB (w.drewN k) base A n c bs := h
theorem OwnB.blk_lt (h : OwnB w base A n c bs) {k : Nat} (hk : blk A = some k) : base ≤ k ∧ k < w.heap.size := World.ownsRow.lt h k (by rw [blk_own]; exact hk)
theorem OwnB.kept (h : OwnB w base A n c bs) {row : Option Nat} (hg : w.grownBy w' row) (hne : blk A = none ∨ blk A ≠ row) : OwnB w' base A n c bs := World.ownsRow.kept h hg (by rw [blk_own]; exact hne)
theorem grown_of_below {w w' : World} {B : Nat} (hb : Below B w w') (hB : w.heap.size ≤ B) (row : Option Nat) : w.grownBy w' row :=
  ⟨hb.os, hb.tape, hb.output, hb.size, fun k hk _ => hb.block k (by omega)⟩
theorem OwnB.below (h : OwnB w base A n c bs) {B : Nat} (hb : Below B w w') (hB : w.heap.size ≤ B) : OwnB w' base A n c bs :=
  h.kept (grown_of_below hb hB none) (by cases blk A <;> simp)
theorem OwnB.lower (h : OwnB w base A n c bs) {base' : Nat} (hb : base' ≤ base) : OwnB w base' A n c bs := by
  obtain ⟨h1, h2⟩ := h
  refine ⟨h1, ?_⟩
  rcases h2 with h2 | ⟨g, cap, cur, a, b, d⟩
  · exact .inl h2
  · exact .inr ⟨g, cap, cur, a, by omega, d⟩
theorem OwnB.cap (h : OwnB w base A n c bs) : n ≤ c ∧ c ≤ maxLen := by
  rcases h.2 with ⟨hv, hn⟩ | ⟨g, cap, cur, hv, _, _, hle, hm, _⟩
  · injection hv with _ _ h3; subst h3; subst hn; exact ⟨Nat.le_refl _, Nat.zero_le _⟩
  · injection hv with _ _ h3; subst h3; exact ⟨hle, hm⟩
end
section
variable {w w' : World} {base g : Nat} {A : Option Addr} {n c : Nat} {bs : List UInt8}
theorem OwnB.shape (h : OwnB w base A n c bs) (hn : 0 < c) : ∃ g, A = some ⟨g, 0, none⟩ ∧ base ≤ g ∧ g < w.heap.size := by
  rcases h.2 with ⟨hv, _⟩ | ⟨g, cap, cur, hv, hb, hh, _⟩
  · injection hv with _ _ h3; omega
  · injection hv with h1 _ _
    exact ⟨g, h1, hb, (Array.getElem?_eq_some_iff.1 hh).1⟩
theorem OwnB.cellAt (h : OwnB w base (some ⟨g, 0, none⟩) n c bs) (j : Nat) (q : UInt8) (hq : bs[j]? = some q) : w.cell? ⟨g, j, none⟩ = some (.int .u8 (q.toNat : Int)) := by
  have hl : j < bs.length := by
    rcases Nat.lt_or_ge j bs.length with h1 | h1
    · exact h1
    · rw [List.getElem?_eq_none h1] at hq; cases hq
  rw [World.ownsRow.cellAt h j (by have := h.len; omega), List.getElem?_map, hq]
  rfl
theorem OwnB.free (h : OwnB w base (some ⟨g, 0, none⟩) n c bs) (j : Nat) : w.frozen? ⟨g, j, none⟩ = false := World.ownsRow.frozenAt h j
theorem OwnB.stored (h : OwnB w base (some ⟨g, 0, none⟩) n c bs) (j : Nat) (q : UInt8) : OwnB (w.setCell ⟨g, j, none⟩ (.int .u8 (q.toNat : Int))) base (some ⟨g, 0, none⟩) n c (bs.set j q) := by
  have := (World.ownsRow.stored h j (bv q)).1
  unfold OwnB
  rwa [List.map_set]
end
theorem OwnB.kind {w : World} {base : Nat} {A : Option Addr} {n c : Nat} {bs : List UInt8} (h : OwnB w base A n c bs) : ∀ g, blk A = some g → ∃ cur, w.heap[g]? = some (.cells cur 5 (0, 0)) := by
  intro g hg
  rcases h.2 with ⟨hv, _⟩ | ⟨g', cap, cur, hv, _, hh, _⟩
  · injection hv with h1; subst h1; cases hg
  · injection hv with h1; subst h1
    injection hg with hg
    subst hg
    exact ⟨cur, hh⟩
/-- One more of n numbers is laid where noughts stand. -/
theorem set_step {α : Type} (Z : List α) (z x : α) (n k : Nat) (hl : Z.length = n) (hk : k < n) (hx : Z[k]? = some x) :
    (Z.take k ++ List.replicate (n - k) z).set k x = Z.take (k + 1) ++ List.replicate (n - (k + 1)) z := by
  have hlt : (Z.take k).length = k := by rw [List.length_take]; omega
  rw [List.set_append_right _ _ (by omega), hlt, Nat.sub_self]
  rw [show n - k = (n - (k + 1)) + 1 by omega, List.replicate_succ, List.set_cons_zero]
  have hZ : Z[k]'(by omega) = x := by rw [List.getElem?_eq_getElem (by omega)] at hx; injection hx
  rw [List.take_succ_eq_append_getElem (by omega), hZ, List.append_assoc]
  rfl
/-- What a function answers that makes bytes of its own. -/
def Fresh (w : World) (bs : List UInt8) (e : Ending) (w' : World) : Prop :=
  ∃ A n c, e = .returned (.slice A n c) ∧ OwnB w' w.heap.size A n c bs ∧ Below w.heap.size w w'

theorem u8_info : (Try.prog.info? 5).map (fun i => (i.zero, i.size, i.bytes)) = some (some (.int .u8 0), 1, 1) := by kernel_rfl

section
variable (w : World)
end
section
variable {w : World} {ops : Array Oper} {rest : List Oper} {o : Oper} {a : Act} {Q : Exit → Act → World → Prop}
end

section
variable {w : World} {ops : Array Oper} {rest : List Oper} {o : Oper} {a : Act} {Q : Exit → Act → World → Prop}
end
section
variable {w : World} {ops : Array Oper} {rest : List Oper} {o : Oper} {a : Act} {Q : Exit → Act → World → Prop}
end

/-! ### Texts -/
/-- The text of bytes. -/
def strOf (bs : List UInt8) : ByteArray := ⟨bs.toArray⟩
theorem strOf_data (bs : List UInt8) : (strOf bs).data.toList = bs := rfl
theorem strOf_toList (bs : List UInt8) : (strOf bs).toList = bs := by rw [Lib.toList_data]; rfl
theorem strOf_size (bs : List UInt8) : (strOf bs).size = bs.length := rfl
theorem strOf_eq (s : ByteArray) : strOf s.data.toList = s := by cases s; rfl
theorem nums_bytes (l : List UInt8) : (l.map fun x => (x.toNat : Int)).map (fun n => UInt8.ofNat n.toNat) = l := by
  rw [List.map_map]
  exact (List.map_congr_left (fun x _ => by simp)).trans (List.map_id _)
end Go.Proofs.Ytcmhacecnahfoaa
