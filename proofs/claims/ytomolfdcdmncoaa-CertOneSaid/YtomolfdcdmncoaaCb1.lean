/-
  Plain facts of this seat: what it says that a slice of bytes reads as a list of bytes.
-/
import Derived.Test.YtomolfdcdmncoaaProg
import Derived.WalkKit
import Derived.Below
import Derived.Laws.OwnMore
import Derived.Deep.AppendLies
import Derived.Deep.Draws
import Derived.Lib.Hide
import Derived.OpenShut
import Derived.ProofKit
import Derived.OwnWalk
import Derived.Laws.BytesArg
import Derived.Laws.Strings
import Derived.Lib.Strings
import Derived.Laws.ResultCell
import Derived.Laws.Rows
import Derived.Lib.Builder
import Derived.Outline
import Derived.WalkLawsBesides
import Derived.WalkSpells
import Derived.RegionTactic
import Derived.BigRegion
import Derived.ChangeAlike
import Derived.Deep.QuietTactic
import Derived.BigQuiet
import Derived.LoopN
import Derived.Laws.CopyOwn
import Derived.Maps.AppendAt
import Derived.WalkSmall
import Derived.Deep.Matrix
namespace Go.Proofs.Ytomolfdcdmncoaa
open Go.RowKit
set_option linter.unusedVariables false

/-- A byte as the model holds it. -/
abbrev bv (x : UInt8) : Value := .int .u8 (x.toNat : Int)

/-- The slice '.slice A bs.length c' reads as the bytes bs, below block B. -/
def Bs (w : World) (B : Nat) (A : Option Addr) (bs : List UInt8) : Prop :=
  bs ≠ [] → ∃ b off, A = some ⟨b, off, none⟩ ∧ b < B ∧ ∀ j (h : j < bs.length), w.cell? ⟨b, off + j, none⟩ = some (bv bs[j])

section
variable {w w' : World} {B B' : Nat} {A : Option Addr} {bs : List UInt8}
theorem Bs.nil : Bs w B A [] := fun h => absurd rfl h
theorem Bs.at_ {k : Nat} (h : Bs w B A bs) (hk : k < bs.length) : ∃ b off, A = some ⟨b, off, none⟩ ∧ b < B ∧ w.cell? ⟨b, off + k, none⟩ = some (.int .u8 (bs[k].toNat : Int)) := by
  obtain ⟨b, off, e, hb, hc⟩ := h (by rintro rfl; simp at hk)
  exact ⟨b, off, e, hb, hc k hk⟩
theorem Bs.keep (h : Bs w B A bs) (hk : ∀ b o, b < B → w'.cell? ⟨b, o, none⟩ = w.cell? ⟨b, o, none⟩) : Bs w' B A bs := fun hn => by
  obtain ⟨b, off, e, hb, hc⟩ := h hn
  exact ⟨b, off, e, hb, fun j hj => (hk b _ hb).trans (hc j hj)⟩
theorem Bs.more (h : Bs w B A bs) (hB : B ≤ B') : Bs w B' A bs := fun hn => by
  obtain ⟨b, off, e, hb, hc⟩ := h hn
  exact ⟨b, off, e, by omega, hc⟩
theorem Bs.below (h : Bs w B A bs) (hb : Below B w w') : Bs w' B A bs := h.keep fun b o hp => hb.cell (p := ⟨b, o, none⟩) hp
theorem Bs.below' {C : Nat} (h : Bs w B A bs) (hb : Below C w w') (hC : B ≤ C) : Bs w' B A bs := h.below (hb.mono hC)
theorem Bs.drew (h : Bs w B A bs) : Bs w.drew B A bs := h
theorem Bs.drewN (h : Bs w B A bs) (k : Nat) : Bs (w.drewN k) B A bs := h
theorem Bs.alloc (h : Bs w B A bs) (hB : B ≤ w.heap.size) (o : Obj) : Bs (w.alloc o) B A bs := h.keep fun b p hp => World.cell?_alloc_lt w o ⟨b, p, none⟩ (by show b < _; omega)
theorem Bs.setCell (h : Bs w B A bs) {p : Addr} (hB : B ≤ p.block) (u : Value) : Bs (w.setCell p u) B A bs :=
  h.keep fun b q hq => World.cell?_setCell_other w p ⟨b, q, none⟩ u (fun e => by subst e; simp at hB; omega)
theorem Bs.grown (h : Bs w B A bs) {row : Option Nat} (hg : w.grownBy w' row) (hB : B ≤ w.heap.size) (hr : ∀ g, row = some g → B ≤ g) : Bs w' B A bs :=
  h.keep fun b p hp => World.cell?_of_block (hg.block b (by omega) (fun e => by have := hr _ e.symm; omega))
/-- A piece of it, as the walk writes it: of another length's address. -/
theorem Bs.drop_ (h : Bs w B A bs) (k : Nat) : Bs w B (A.map (·.add k)) (bs.drop k) := fun hn => by
  have hk : k < bs.length := by
    rcases Nat.lt_or_ge k bs.length with h1 | h1
    · exact h1
    · exact absurd (List.drop_eq_nil_of_le h1) hn
  obtain ⟨b, off, e, hb, hc⟩ := h (by rintro rfl; simp at hn)
  subst e
  refine ⟨b, off + k, by by_cases hz : k = 0 <;> simp [Addr.add, hz], hb, fun j hj => ?_⟩
  simp only [List.length_drop] at hj
  rw [Nat.add_assoc, hc (k + j) (by omega), List.getElem_drop]
theorem Bs.take_ (h : Bs w B A bs) (k : Nat) : Bs w B A (bs.take k) := fun hn => by
  obtain ⟨b, off, e, hb, hc⟩ := h (by rintro rfl; simp at hn)
  refine ⟨b, off, e, hb, fun j hj => ?_⟩
  simp only [List.length_take] at hj
  rw [hc j (by omega), List.getElem_take]
/-- What the call owns reads as bytes. -/
theorem Bs.of_own {base : Nat} {e : TypeId} {c : Nat} {n : Nat} (h : w.ownsRow base e 1 (.slice A n c) n (bs.map bv)) : Bs w w.heap.size A bs := by
  intro hn
  have hl : bs.length = n := by simpa using h.1
  rcases h.2 with ⟨hv, rfl⟩ | ⟨g, cap, cur, hv, _, hh, _⟩
  · exact absurd (List.eq_nil_of_length_eq_zero hl) hn
  · injection hv with h1 _ _
    subst h1
    refine ⟨g, 0, rfl, (Array.getElem?_eq_some_iff.1 hh).1, fun j hj => ?_⟩
    have hcell := h.cells (g := g) rfl j (bv bs[j]) (by rw [List.getElem?_map, List.getElem?_eq_getElem hj]; rfl)
    have hadd : (⟨g, 0, none⟩ : Addr).add j = ⟨g, 0 + j, none⟩ := by unfold Addr.add; split <;> simp_all
    rwa [hadd] at hcell
end

theorem bs_new (w : World) (bs : List UInt8) (t : TypeId) (mk : Nat × Nat) (cs : Array Value) (h : cs.toList = bs.map bv) : Bs (w.alloc (.cells cs t mk)) (w.heap.size + 1) (some ⟨w.heap.size, 0, none⟩) bs := by
  intro _
  refine ⟨w.heap.size, 0, rfl, by omega, fun j hj => ?_⟩
  rw [cell_of_row _ w.heap.size (0 + j) cs t mk (heap_alloc_new w _)]
  rw [← Array.getElem?_toList, h]
  simp [hj]
/-- A slice of n bytes reads as bs. -/
def RB (w : World) (A : Option Addr) (n : Nat) (bs : List UInt8) : Prop := bs.length = n ∧ Bs w w.heap.size A bs
section
variable {w w' : World} {A : Option Addr} {n : Nat} {bs : List UInt8}
theorem RB.below (h : RB w A n bs) (hb : Below w.heap.size w w') : RB w' A n bs := ⟨h.1, (h.2.below hb).more hb.size⟩
theorem RB.below' (h : RB w A n bs) {B : Nat} (hb : Below B w w') (hB : w.heap.size ≤ B) : RB w' A n bs := h.below (hb.mono hB)
theorem RB.alloc (h : RB w A n bs) (o : Obj) : RB (w.alloc o) A n bs := ⟨h.1, (h.2.alloc (Nat.le_refl _) o).more (by simp)⟩
theorem RB.drew (h : RB w A n bs) : RB w.drew A n bs := h
theorem RB.drewN (h : RB w A n bs) (k : Nat) : RB (w.drewN k) A n bs := h
theorem RB.nil (w : World) (A : Option Addr) : RB w A 0 [] := ⟨rfl, Bs.nil⟩
theorem RB.at_ {k : Nat} (h : RB w A n bs) (hk : k < n) : ∃ b off q, A = some ⟨b, off, none⟩ ∧ b < w.heap.size ∧ bs[k]? = some q ∧ w.cell? ⟨b, off + k, none⟩ = some (.int .u8 (q.toNat : Int)) := by
  obtain ⟨rfl, hb⟩ := h
  obtain ⟨b, off, e, hlt, hc⟩ := hb.at_ hk
  exact ⟨b, off, bs[k], e, hlt, List.getElem?_eq_getElem hk, hc⟩
end

/-- The numbers that a slice of bytes was read as, as bytes. -/
def bytesOf (zs : List Int) : List UInt8 := zs.map fun z => UInt8.ofNat z.toNat
theorem byte_of_wf {z : Int} (h : (Lit.int .u8 z).wf = true) : ((UInt8.ofNat z.toNat).toNat : Int) = z := by
  have hb := bounds_u8 h
  rw [UInt8.toNat_ofNat']
  omega

/-- WHAT A ROW's READING GIVES OF A SLICE OF BYTES. -/
theorem Bs.of_row {w : World} {B : Nat} {A : Option Addr} {zs : List Int} {len cap : Nat} (hl : len ≤ cap) (hz : zs.length = cap)
    (hcell : ∀ x, A = some x → ∀ i, i < zs.length → w.cell? (x.add i) = some (.int .u8 (zs.getD i 0))) (hA : 0 < len → ∃ x, A = some x) (hwz : ∀ n ∈ zs, (Lit.int .u8 n).wf = true)
    (hlt : ∀ x, A = some x → x.block < B) :
    Bs w B A (bytesOf (zs.take len)) := by
  intro hn
  have hlen : 0 < len := by
    rcases Nat.eq_zero_or_pos len with h | h
    · subst h; simp [bytesOf] at hn
    · exact h
  obtain ⟨⟨g, off, spot⟩, rfl⟩ := hA hlen
  have hsp : spot = none := by
    have := hcell _ rfl 0 (by omega)
    simpa [Addr.add] using World.cell?_spot this
  subst hsp
  refine ⟨g, off, rfl, hlt _ rfl, fun j hj => ?_⟩
  have hj' : j < zs.length := by simp [bytesOf] at hj; omega
  have h1 := hcell _ rfl j hj'
  have hadd : (⟨g, off, none⟩ : Addr).add j = ⟨g, off + j, none⟩ := by unfold Addr.add; split <;> simp_all
  rw [hadd] at h1
  rw [h1]
  simp only [bytesOf, List.getElem_map, List.getElem_take, bv]
  rw [byte_of_wf (hwz _ (List.getElem_mem _))]
  simp [List.getD, List.getElem?_eq_getElem hj']

/-- WHAT A LAW's WALK IS TOLD OF A SLICE OF BYTES THAT CAME IN. -/
structure IsBs (w : World) (A : Option Addr) (n c : Nat) (bs : List UInt8) : Prop where
  len : bs.length = n
  le : n ≤ c
  max : c ≤ maxLen
  reads : Bs w w.heap.size A bs
theorem IsBs.rb {w : World} {A : Option Addr} {n c : Nat} {bs : List UInt8} (h : IsBs w A n c bs) : RB w A n bs := ⟨h.len, h.reads⟩
theorem IsBs.lim {w : World} {A : Option Addr} {n c : Nat} {bs : List UInt8} (h : IsBs w A n c bs) : n ≤ 9223372036854775807 := by
  have h1 := h.le
  have h2 := h.max
  unfold maxLen at h2
  omega

section
open Go.ChangeShapes Go.WideShapes Go.ChangeAt
theorem open_bs {H : Type} {enc : TypeId × Value → H} {P : Program} {w : World} {base : Nat} {held : Bool} {fuel : Nat} {t e : TypeId} {A : Option Addr} {n c : Nat} {d : DataW H} {p : List MemPlace}
    (ht : P.underlying t = some (.slice e)) (he : P.underlying e = some (.int .u8)) (hc : P.cellsOf e = 1) (hf : DataW.trod enc P w base (fun _ => true) held fuel t (Value.slice A n c).cells.toList = some (d, p)) :
    ∃ bs, IsBs w A n c bs := by
  rcases open_ints ht he hc hf with ⟨hcs, _⟩ | ⟨x, l, c', zs, hcs, _, hl, hm, hz, _, hcell, hwz⟩
  · simp [Value.cells] at hcs
    obtain ⟨rfl, rfl, rfl⟩ := hcs
    exact ⟨[], rfl, Nat.le_refl _, Nat.zero_le _, Bs.nil⟩
  · simp [Value.cells] at hcs
    obtain ⟨rfl, rfl, rfl⟩ := hcs
    have hzl : zs.length = c := by simpa using hz
    refine ⟨bytesOf (zs.take n), by simp [bytesOf]; omega, hl, hm, ?_⟩
    by_cases hz0 : 0 < zs.length
    · exact Bs.of_row hl hzl (fun y hy i hi => by cases hy; exact hcell i hi) (fun _ => ⟨_, rfl⟩) hwz (fun y hy => by
        cases hy
        have := World.block_lt_of_cell? w _ (hcell 0 hz0)
        rwa [show (x.add 0).block = x.block by simp [Addr.add]] at this)
    · have : n = 0 := by omega
      subst this
      exact fun h => absurd (by simp [bytesOf]) h
end
end Go.Proofs.Ytomolfdcdmncoaa
namespace Go.Proofs.Ytomolfdcdmncoaa
open Go.RowKit Go
set_option linter.unusedVariables false
set_option maxRecDepth 100000

/-- The slice '.slice A n c' owns the bytes bs, in a block from 'base' on. -/
def OwnB (w : World) (base : Nat) (A : Option Addr) (n c : Nat) (bs : List UInt8) : Prop := w.ownsRow base 5 1 (.slice A n c) n (bs.map bv)
/-- Which block that is. -/
def blk : Option Addr → Option Nat
  | some a => some a.block
  | none => none
theorem blk_own (A : Option Addr) (n c : Nat) : (Value.slice A n c).ownBlock = blk A := by cases A <;> rfl
section
variable {w w' : World} {base : Nat} {A : Option Addr} {n c : Nat} {bs : List UInt8}
theorem OwnB.nil (w : World) (base : Nat) : OwnB w base none 0 0 [] := World.ownsRow_nil w base _ _
theorem OwnB.len (h : OwnB w base A n c bs) : bs.length = n := by simpa using h.1
theorem OwnB.reads (h : OwnB w base A n c bs) : Bs w w.heap.size A bs := Bs.of_own h
theorem OwnB.rb (h : OwnB w base A n c bs) : RB w A n bs := ⟨h.len, h.reads⟩
theorem OwnB.alloc (h : OwnB w base A n c bs) (o : Obj) : OwnB (w.alloc o) base A n c bs := World.ownsRow.alloc h o
theorem OwnB.drew (h : OwnB w base A n c bs) : OwnB w.drew base A n c bs := h
theorem OwnB.drewN (h : OwnB w base A n c bs) (k : Nat) : OwnB (w.drewN k) base A n c bs := h
theorem OwnB.blk_lt (h : OwnB w base A n c bs) {k : Nat} (hk : blk A = some k) : base ≤ k ∧ k < w.heap.size := World.ownsRow.lt h k (by rw [blk_own]; exact hk)
theorem OwnB.kept (h : OwnB w base A n c bs) {row : Option Nat} (hg : w.grownBy w' row) (hne : blk A = none ∨ blk A ≠ row) : OwnB w' base A n c bs := World.ownsRow.kept h hg (by rw [blk_own]; exact hne)
theorem grown_of_below {w w' : World} {B : Nat} (hb : Below B w w') (hB : w.heap.size ≤ B) (row : Option Nat) : w.grownBy w' row :=
  ⟨hb.os, hb.tape, hb.output, hb.size, fun k hk _ => hb.block k (by omega)⟩
theorem OwnB.below (h : OwnB w base A n c bs) {B : Nat} (hb : Below B w w') (hB : w.heap.size ≤ B) : OwnB w' base A n c bs :=
  h.kept (grown_of_below hb hB none) (by cases blk A <;> simp)
theorem OwnB.lower (h : OwnB w base A n c bs) {base' : Nat} (hb : base' ≤ base) : OwnB w base' A n c bs := by
  obtain ⟨h1, h2⟩ := h
  refine ⟨h1, ?_⟩
  rcases h2 with h2 | ⟨g, cap, cur, a, b, d⟩
  · exact .inl h2
  · exact .inr ⟨g, cap, cur, a, by omega, d⟩
theorem OwnB.cap (h : OwnB w base A n c bs) : n ≤ c ∧ c ≤ maxLen := by
  rcases h.2 with ⟨hv, hn⟩ | ⟨g, cap, cur, hv, _, _, hle, hm, _⟩
  · injection hv with _ _ h3; subst h3; subst hn; exact ⟨Nat.le_refl _, Nat.zero_le _⟩
  · injection hv with _ _ h3; subst h3; exact ⟨hle, hm⟩
end
section
variable {w w' : World} {base g : Nat} {A : Option Addr} {n c : Nat} {bs : List UInt8}
theorem OwnB.shape (h : OwnB w base A n c bs) (hn : 0 < c) : ∃ g, A = some ⟨g, 0, none⟩ ∧ base ≤ g ∧ g < w.heap.size := by
  rcases h.2 with ⟨hv, _⟩ | ⟨g, cap, cur, hv, hb, hh, _⟩
  · injection hv with _ _ h3; omega
  · injection hv with h1 _ _
    exact ⟨g, h1, hb, (Array.getElem?_eq_some_iff.1 hh).1⟩
theorem OwnB.cellAt (h : OwnB w base (some ⟨g, 0, none⟩) n c bs) (j : Nat) (q : UInt8) (hq : bs[j]? = some q) : w.cell? ⟨g, j, none⟩ = some (.int .u8 (q.toNat : Int)) := by
  have hl : j < bs.length := by
    rcases Nat.lt_or_ge j bs.length with h1 | h1
    · exact h1
    · rw [List.getElem?_eq_none h1] at hq; cases hq
  rw [World.ownsRow.cellAt h j (by have := h.len; omega), List.getElem?_map, hq]
  rfl
theorem OwnB.free (h : OwnB w base (some ⟨g, 0, none⟩) n c bs) (j : Nat) : w.frozen? ⟨g, j, none⟩ = false := World.ownsRow.frozenAt h j
theorem OwnB.stored (h : OwnB w base (some ⟨g, 0, none⟩) n c bs) (j : Nat) (q : UInt8) : OwnB (w.setCell ⟨g, j, none⟩ (.int .u8 (q.toNat : Int))) base (some ⟨g, 0, none⟩) n c (bs.set j q) := by
  have := (World.ownsRow.stored h j (bv q)).1
  unfold OwnB
  rwa [List.map_set]
end
theorem OwnB.kind {w : World} {base : Nat} {A : Option Addr} {n c : Nat} {bs : List UInt8} (h : OwnB w base A n c bs) : ∀ g, blk A = some g → ∃ cur, w.heap[g]? = some (.cells cur 5 (0, 0)) := by
  intro g hg
  rcases h.2 with ⟨hv, _⟩ | ⟨g', cap, cur, hv, _, hh, _⟩
  · injection hv with h1; subst h1; cases hg
  · injection hv with h1; subst h1
    injection hg with hg
    subst hg
    exact ⟨cur, hh⟩
/-- One more of n numbers is laid where noughts stand. -/
theorem set_step {α : Type} (Z : List α) (z x : α) (n k : Nat) (hl : Z.length = n) (hk : k < n) (hx : Z[k]? = some x) :
    (Z.take k ++ List.replicate (n - k) z).set k x = Z.take (k + 1) ++ List.replicate (n - (k + 1)) z := by
  have hlt : (Z.take k).length = k := by rw [List.length_take]; omega
  rw [List.set_append_right _ _ (by omega), hlt, Nat.sub_self]
  rw [show n - k = (n - (k + 1)) + 1 by omega, List.replicate_succ, List.set_cons_zero]
  have hZ : Z[k]'(by omega) = x := by rw [List.getElem?_eq_getElem (by omega)] at hx; injection hx
  rw [List.take_succ_eq_append_getElem (by omega), hZ, List.append_assoc]
  rfl
/-- What a function answers that makes bytes of its own. -/
def Fresh (w : World) (bs : List UInt8) (e : Ending) (w' : World) : Prop :=
  ∃ A n c, e = .returned (.slice A n c) ∧ OwnB w' w.heap.size A n c bs ∧ Below w.heap.size w w'

theorem u8_info : (Try.prog.info? 5).map (fun i => (i.zero, i.size, i.bytes)) = some (some (.int .u8 0), 1, 1) := by kernel_rfl

section
variable (w : World)
/-- APPENDING BYTES to bytes that the call owns: the source may be nil, empty, or anything that reads as bytes. -/
theorem run_app (base : Nat) (A0 : Option Addr) (n0 c0 : Nat) (bs : List UInt8) (hown : OwnB w base A0 n0 c0 bs)
    (B : Nat) (A : Option Addr) (c : Nat) (news : List UInt8) (hr : Bs w B A news) (hlim : bs.length + news.length ≤ 140737488355328) (hbase : base ≤ w.heap.size) :
    ∃ A' c' w', (Builtin.append_ #[22, 22] 22 #[.slice A0 n0 c0, .slice A news.length c]).run Try.prog w = .ok (.slice A' (n0 + news.length) c') w' ∧
      OwnB w' base A' (n0 + news.length) c' (bs ++ news) ∧ w.grownBy w' (blk A0) := by
  obtain ⟨i, hi, hz0, hz1, hz2⟩ := info_parts u8_info
  have hlen := hown.len
  rcases A with _ | ad
  · have hn : news = [] := by
      rcases news with _ | ⟨q, r⟩
      · rfl
      · obtain ⟨b, off, e, _⟩ := hr (by simp)
        cases e
    subst hn
    refine ⟨A0, c0, w, ?_, by simpa using hown, World.grownBy.refl w _⟩
    rcases hown.2 with ⟨hv, rfl⟩ | ⟨g, cap, cur, hv, _, _, hnc, _⟩
    · injection hv with h1 h2 h3
      subst h1; subst h3
      simp [Builtin.append_, run_underlying Try.underlying22, sizeOf, typeInfo, hi, Builtin.lenOf, Builtin.firstCells]
    · injection hv with h1 h2 h3
      subst h1; subst h3
      simp [Builtin.append_, run_underlying Try.underlying22, sizeOf, typeInfo, hi, Builtin.lenOf, Builtin.firstCells, hnc, storeCells]
  · have hnews : ∀ j u, (news.map bv)[j]? = some u → w.cell? (ad.add j) = some u := by
      intro j u hj
      rcases news with _ | ⟨q, r⟩
      · simp at hj
      · obtain ⟨b, off, e, _, hc⟩ := hr (by simp)
        injection e with e
        subst e
        have hjl : j < (q :: r).length := by
          rcases Nat.lt_or_ge j (q :: r).length with h | h
          · exact h
          · rw [List.getElem?_eq_none (by simpa using h)] at hj; cases hj
        rw [List.getElem?_map, List.getElem?_eq_getElem hjl] at hj
        injection hj with hj
        have hadd : (⟨b, off, none⟩ : Addr).add j = ⟨b, off + j, none⟩ := by unfold Addr.add; split <;> simp_all
        rw [hadd, hc j hjl, ← hj]
    obtain ⟨v', w', hrun, h2, h3, _⟩ := run_append_own (P := Try.prog) w base 22 22 5 i (.int .u8 0) 1 1 Try.underlying22 hi hz0 hz1 hz2 rfl (by decide) (.slice A0 n0 c0) n0 (bs.map bv) hown ad news.length c (news.map bv)
      (by simp) hnews (by intro u hu; simp at hu; obtain ⟨q, _, rfl⟩ := hu; rfl) (by unfold maxLen; omega) (by omega) hbase
    rw [blk_own] at h3
    rcases h2.2 with ⟨rfl, hn0⟩ | ⟨g, cap, cur, rfl, hg⟩
    · refine ⟨none, 0, w', by rw [hrun, hn0], ?_, h3⟩
      unfold OwnB
      rw [List.map_append]
      rw [hn0] at h2 ⊢
      exact h2
    · refine ⟨some ⟨g, 0, none⟩, cap, w', hrun, ?_, h3⟩
      unfold OwnB
      rw [List.map_append]
      exact h2
end
section
variable {w : World} {ops : Array Oper} {rest : List Oper} {o : Oper} {a : Act} {Q : Exit → Act → World → Prop}
theorem wpList_app (s x : Operand) (ho : o.op = .call { callee := .builtin .append, args := #[s, x], argTypes := #[22, 22] }) (hgd : o.guard = none) (hty : o.type = 22)
    (base : Nat) (A0 : Option Addr) (n0 c0 : Nat) (bs : List UInt8) (hs : a.eval s = .slice A0 n0 c0) (hown : OwnB w base A0 n0 c0 bs)
    (B : Nat) (A : Option Addr) (c : Nat) (news : List UInt8) (hx : a.eval x = .slice A news.length c) (hr : Bs w B A news) (hlim : bs.length + news.length ≤ 140737488355328) (hbase : base ≤ w.heap.size)
    (h : ∀ A' c' w', OwnB w' base A' (n0 + news.length) c' (bs ++ news) → w.grownBy w' (blk A0) → wpList Try.prog ops Q rest (a.put o.dst (.slice A' (n0 + news.length) c')) w') : wpList Try.prog ops Q (o :: rest) a w := by
  refine wpList_plain hgd fun K hK => ?_
  obtain ⟨A', c', w', hrun, h2, h3⟩ := run_app w base A0 n0 c0 bs hown B A c news hr hlim hbase
  unfold Oper.wp execOp
  simp only [ho, resolve, invoke, builtin, Sem.run_bind, Sem.run_pure, Result.andThen_ok, List.map_toArray, List.map_cons, List.map_nil, hs, hx, hty, hrun]
  exact hK _ _ (h A' c' w' h2 h3)
end

section
variable {w : World} {ops : Array Oper} {rest : List Oper} {o : Oper} {a : Act} {Q : Exit → Act → World → Prop}
/-- The same, the source's length under a name of its own. -/
theorem wpList_apn (s x : Operand) (ho : o.op = .call { callee := .builtin .append, args := #[s, x], argTypes := #[22, 22] }) (hgd : o.guard = none) (hty : o.type = 22)
    (base : Nat) (A0 : Option Addr) (n0 c0 : Nat) (bs : List UInt8) (hs : a.eval s = .slice A0 n0 c0) (hown : OwnB w base A0 n0 c0 bs)
    (A : Option Addr) (m c : Nat) (news : List UInt8) (hx : a.eval x = .slice A m c) (hr : RB w A m news) (hlim : n0 + m ≤ 140737488355328) (hbase : base ≤ w.heap.size)
    (h : ∀ A' c' w', OwnB w' base A' (n0 + m) c' (bs ++ news) → w.grownBy w' (blk A0) → wpList Try.prog ops Q rest (a.put o.dst (.slice A' (n0 + m) c')) w') : wpList Try.prog ops Q (o :: rest) a w := by
  obtain ⟨rfl, hb⟩ := hr
  exact wpList_app s x ho hgd hty base A0 n0 c0 bs hs hown _ A c news hx hb (by rw [hown.len]; exact hlim) hbase h
end
section
variable {w : World} {ops : Array Oper} {rest : List Oper} {o : Oper} {a : Act} {Q : Exit → Act → World → Prop}
/-- 'make([]byte, n)'. -/
theorem wpList_mk (l c : Operand) (ho : o.op = .makeSlice 22 l c) (hgd : o.guard = none) (kl kc : IntKind) (L C : Int) (n : Nat) (hl : a.eval l = .int kl L) (hc : a.eval c = .int kc C) (hL : L = (n : Int)) (hC : C = (n : Int)) (hlim : n ≤ 140737488355328)
    (h : ∀ w', OwnB w' w.heap.size (some ⟨w.heap.size, 0, none⟩) n n (List.replicate n 0) → w.grownBy w' none → wpList Try.prog ops Q rest (a.put o.dst (.slice (some ⟨w.heap.size, 0, none⟩) n n)) w') : wpList Try.prog ops Q (o :: rest) a w := by
  obtain ⟨i, hi, hz0, hz1, hz2⟩ := info_parts u8_info
  refine wpList_make_full w hgd l c 22 ho w.heap.size 5 i (.int .u8 0) 1 Try.underlying22 hi hz0 hz1 kl kc L C n hl hc hL hC (by rw [hz2]; omega) (by unfold maxLen; omega) (Nat.le_refl _) fun w' h1 h2 => h w' ?_ h2
  unfold OwnB
  rw [Nat.mul_one] at h1
  rw [show (Value.int .u8 0).cells = #[.int .u8 0] from rfl, toList_madeCells_one] at h1
  rw [List.map_replicate]
  exact h1
/-- 'make([]byte, 0, n)'. -/
theorem wpList_mk0 (l c : Operand) (ho : o.op = .makeSlice 22 l c) (hgd : o.guard = none) (kl kc : IntKind) (C : Int) (n : Nat) (hl : a.eval l = .int kl 0) (hc : a.eval c = .int kc C) (hC : C = (n : Int)) (hlim : n ≤ 140737488355328)
    (h : ∀ w', OwnB w' w.heap.size (some ⟨w.heap.size, 0, none⟩) 0 n [] → w.grownBy w' none → wpList Try.prog ops Q rest (a.put o.dst (.slice (some ⟨w.heap.size, 0, none⟩) 0 n)) w') : wpList Try.prog ops Q (o :: rest) a w := by
  obtain ⟨i, hi, hz0, hz1, hz2⟩ := info_parts u8_info
  exact wpList_make_own w hgd l c 22 ho w.heap.size 5 i (.int .u8 0) 1 Try.underlying22 hi hz0 hz1 kl kc C n hl hc hC (by rw [hz2]; omega) (by unfold maxLen; omega) (Nat.le_refl _) h
end

/-! ### Texts -/
/-- The text of bytes. -/
def strOf (bs : List UInt8) : ByteArray := ⟨bs.toArray⟩
theorem strOf_data (bs : List UInt8) : (strOf bs).data.toList = bs := rfl
theorem strOf_toList (bs : List UInt8) : (strOf bs).toList = bs := by rw [Lib.toList_data]; rfl
theorem strOf_size (bs : List UInt8) : (strOf bs).size = bs.length := rfl
theorem strOf_eq (s : ByteArray) : strOf s.data.toList = s := by cases s; rfl
theorem nums_bytes (l : List UInt8) : (l.map fun x => (x.toNat : Int)).map (fun n => UInt8.ofNat n.toNat) = l := by
  rw [List.map_map]
  exact (List.map_congr_left (fun x _ => by simp)).trans (List.map_id _)
theorem run_strOf (w : World) (B : Nat) (A : Option Addr) (bs : List UInt8) (c : Nat) (h : Bs w B A bs) :
    (convert 22 9 (.slice A bs.length c)).run Try.prog w = .ok (.string (strOf bs)) w := by
  rcases A with _ | ad
  · have hn : bs = [] := by
      rcases bs with _ | ⟨q, r⟩
      · rfl
      · obtain ⟨b, off, e, _⟩ := h (by simp)
        cases e
    subst hn
    exact run_convert_bytes_nil w _ _ Try.underlying22 Try.underlying5 _ _ _ Try.underlying9
  · rcases bs with _ | ⟨q, r⟩
    · rw [run_convert_bytes_string w _ _ _ _ _ _ Try.underlying22 Try.underlying5 Try.underlying9]
      rw [run_bytesToString w _ _ _ [] (by simp [loadCells, loadCellsFrom])]
      rfl
    · obtain ⟨b, off, e, _, hc⟩ := h (by simp)
      injection e with e
      subst e
      have := run_convert_bytes_arg (P := Try.prog) w 22 5 Try.underlying22 Try.underlying5 b off (q :: r).length c ((q :: r).map fun x => (x.toNat : Int)) (by simp) (fun i hi => by
        rw [hc i hi, List.getD_eq_getElem?_getD, List.getElem?_map, List.getElem?_eq_getElem hi]; rfl) 9 Try.underlying9
      rw [this]
      unfold strOfNums strOf
      rw [nums_bytes]
end Go.Proofs.Ytomolfdcdmncoaa
namespace Go.Proofs.Ytomolfdcdmncoaa
open Go.RowKit Go
set_option linter.unusedVariables false
set_option maxRecDepth 100000
/-- What the program says of a slice type s over an element type e of k cells. -/
structure RowT (s e : TypeId) (k bytes : Nat) (z : Value) : Prop where
  und : Try.prog.underlying s = some (.slice e)
  info : (Try.prog.info? e).map (fun i => (i.zero, i.size, i.bytes)) = some (some z, k, bytes)
  zs : z.cells.size = k
  pos : 0 < k
/-- The slice '.slice A n c' owns n elements, whose cells are vs. -/
def OwnR (w : World) (base : Nat) (e : TypeId) (k : Nat) (A : Option Addr) (n c : Nat) (vs : List Value) : Prop := w.ownsRow base e k (.slice A n c) n vs
/-- The cells from A on are vs. -/
def ReadR (w : World) (A : Option Addr) (vs : List Value) : Prop :=
  vs ≠ [] → ∃ b off, A = some ⟨b, off, none⟩ ∧ b < w.heap.size ∧ ∀ (j : Nat) (u : Value), vs[j]? = some u → w.cell? ⟨b, off + j, none⟩ = some u
section
variable {w w' : World} {A : Option Addr} {vs : List Value}
theorem ReadR.nil : ReadR w A [] := fun h => absurd rfl h
theorem ReadR.below (h : ReadR w A vs) {B : Nat} (hb : Below B w w') (hB : w.heap.size ≤ B) : ReadR w' A vs := fun hn => by
  obtain ⟨b, off, e, hlt, hc⟩ := h hn
  exact ⟨b, off, e, Nat.lt_of_lt_of_le hlt hb.size, fun j u hu => (hb.cell (p := ⟨b, off + j, none⟩) (show b < B by omega)).trans (hc j u hu)⟩
theorem ReadR.alloc (h : ReadR w A vs) (o : Obj) : ReadR (w.alloc o) A vs := h.below ((Below.refl _ _).alloc (Nat.le_refl _) o) (Nat.le_refl _)
theorem ReadR.drew (h : ReadR w A vs) : ReadR w.drew A vs := h
theorem ReadR.drewN (h : ReadR w A vs) (k : Nat) : ReadR (w.drewN k) A vs := h
theorem ReadR.at_ (h : ReadR w A vs) {j : Nat} {u : Value} (hu : vs[j]? = some u) : ∃ b off, A = some ⟨b, off, none⟩ ∧ b < w.heap.size ∧ w.cell? ⟨b, off + j, none⟩ = some u := by
  obtain ⟨b, off, e, hlt, hc⟩ := h (by rintro rfl; simp at hu)
  exact ⟨b, off, e, hlt, hc j u hu⟩
theorem ReadR.drop_ (h : ReadR w A vs) (k : Nat) : ReadR w (A.map (·.add k)) (vs.drop k) := fun hn => by
  obtain ⟨b, off, e, hb, hc⟩ := h (by rintro rfl; simp at hn)
  subst e
  refine ⟨b, off + k, by by_cases hz : k = 0 <;> simp [Addr.add, hz], hb, fun j u hu => ?_⟩
  rw [Nat.add_assoc]
  rw [List.getElem?_drop] at hu
  exact hc (k + j) u hu
end
section
variable {w w' : World} {base : Nat} {e : TypeId} {k : Nat} {A : Option Addr} {n c : Nat} {vs : List Value}
theorem OwnR.nil (w : World) (base : Nat) (e : TypeId) (k : Nat) : OwnR w base e k none 0 0 [] := World.ownsRow_nil w base _ _
theorem OwnR.len (h : OwnR w base e k A n c vs) : vs.length = n * k := h.1
theorem OwnR.alloc (h : OwnR w base e k A n c vs) (o : Obj) : OwnR (w.alloc o) base e k A n c vs := World.ownsRow.alloc h o
theorem OwnR.drew (h : OwnR w base e k A n c vs) : OwnR w.drew base e k A n c vs := h
theorem OwnR.drewN (h : OwnR w base e k A n c vs) (m : Nat) : OwnR (w.drewN m) base e k A n c vs := h
theorem OwnR.blk_lt (h : OwnR w base e k A n c vs) {g : Nat} (hg : blk A = some g) : base ≤ g ∧ g < w.heap.size := World.ownsRow.lt h g (by rw [blk_own]; exact hg)
theorem OwnR.kept (h : OwnR w base e k A n c vs) {row : Option Nat} (hg : w.grownBy w' row) (hne : blk A = none ∨ blk A ≠ row) : OwnR w' base e k A n c vs := World.ownsRow.kept h hg (by rw [blk_own]; exact hne)
theorem OwnR.below (h : OwnR w base e k A n c vs) {B : Nat} (hb : Below B w w') (hB : w.heap.size ≤ B) : OwnR w' base e k A n c vs :=
  h.kept (grown_of_below hb hB none) (by cases blk A <;> simp)
theorem OwnR.lower (h : OwnR w base e k A n c vs) {base' : Nat} (hb : base' ≤ base) : OwnR w base' e k A n c vs :=
  ⟨h.1, h.2.imp id fun ⟨g, cap, cur, h1, h2, h3⟩ => ⟨g, cap, cur, h1, Nat.le_trans hb h2, h3⟩⟩
theorem OwnR.cap (h : OwnR w base e k A n c vs) : n ≤ c ∧ c ≤ maxLen := by
  rcases h.2 with ⟨hv, hn⟩ | ⟨g, cap, cur, hv, _, _, hle, hm, _⟩
  · injection hv with _ _ h3; subst h3; subst hn; exact ⟨Nat.le_refl _, Nat.zero_le _⟩
  · injection hv with _ _ h3; subst h3; exact ⟨hle, hm⟩
theorem OwnR.kind (h : OwnR w base e k A n c vs) : ∀ g, blk A = some g → ∃ cur, w.heap[g]? = some (.cells cur e (0, 0)) := by
  intro g hg
  rcases h.2 with ⟨hv, _⟩ | ⟨g', cap, cur, hv, _, hh, _⟩
  · injection hv with h1; subst h1; cases hg
  · injection hv with h1; subst h1
    injection hg with hg
    subst hg
    exact ⟨cur, hh⟩
theorem OwnR.shape (h : OwnR w base e k A n c vs) (hn : 0 < c) : ∃ g, A = some ⟨g, 0, none⟩ ∧ base ≤ g ∧ g < w.heap.size := by
  rcases h.2 with ⟨hv, _⟩ | ⟨g, cap, cur, hv, hb, hh, _⟩
  · injection hv with _ _ h3; omega
  · injection hv with h1 _ _
    exact ⟨g, h1, hb, (Array.getElem?_eq_some_iff.1 hh).1⟩
theorem OwnR.reads (h : OwnR w base e k A n c vs) : ReadR w A vs := by
  intro hn
  rcases h.2 with ⟨_, h0⟩ | ⟨g, cap, cur, hv, hb, hh, _⟩
  · have := h.1
    subst h0
    rw [Nat.zero_mul] at this
    exact absurd (List.eq_nil_of_length_eq_zero this) hn
  · injection hv with h1 _ _
    subst h1
    refine ⟨g, 0, rfl, (Array.getElem?_eq_some_iff.1 hh).1, fun j u hu => ?_⟩
    have hj : j < n * k := by
      rw [← h.1]
      rcases Nat.lt_or_ge j vs.length with h1 | h1
      · exact h1
      · rw [List.getElem?_eq_none h1] at hu; cases hu
    rw [Nat.zero_add, World.ownsRow.cellAt (g := g) h j hj, hu]
theorem OwnR.free {g : Nat} (h : OwnR w base e k (some ⟨g, 0, none⟩) n c vs) (j : Nat) : w.frozen? ⟨g, j, none⟩ = false := World.ownsRow.frozenAt h j
theorem OwnR.stored {g : Nat} (h : OwnR w base e k (some ⟨g, 0, none⟩) n c vs) (j : Nat) (u : Value) : OwnR (w.setCell ⟨g, j, none⟩ u) base e k (some ⟨g, 0, none⟩) n c (vs.set j u) := (World.ownsRow.stored h j u).1
theorem OwnR.lit (w : World) (e : TypeId) (k : Nat) (cs : Array Value) (n : Nat) (hm : n ≤ maxLen) (hs : cs.size = n * k) : OwnR (w.alloc (.cells cs e)) w.heap.size e k (some ⟨w.heap.size, 0, none⟩) n n cs.toList :=
  World.ownsRow_lit w cs n (Nat.le_refl _) hm hs
/-- Two rows of unlike element types never share a block. -/
theorem OwnR.ne {A' : Option Addr} {base' e' k' n' c' : Nat} {vs' : List Value} (h : OwnR w base e k A n c vs) (h' : OwnR w base' e' k' A' n' c' vs') (hne : e ≠ e') : blk A = none ∨ blk A ≠ blk A' := by
  cases hV : blk A with
  | none => exact .inl rfl
  | some g =>
    right
    intro hh
    obtain ⟨cur, h1⟩ := h.kind g hV
    obtain ⟨cur', h2⟩ := h'.kind g hh.symm
    rw [h1] at h2
    injection h2 with h2
    injection h2 with _ h3
    exact hne h3
theorem OwnB.row {bs : List UInt8} (h : OwnB w base A n c bs) : OwnR w base 5 1 A n c (bs.map bv) := h
end
/-- The cells of a block that was just laid. -/
theorem cells_lit (w : World) (g : Nat) (cs : Array Value) (t : TypeId) (mk : Nat × Nat) (h : w.heap[g]? = some (.cells cs t mk)) : ∀ (j : Nat) (u : Value), cs.toList[j]? = some u → w.cell? ((⟨g, 0, none⟩ : Addr).add j) = some u := by
  intro j u hu
  have hadd : (⟨g, 0, none⟩ : Addr).add j = ⟨g, j, none⟩ := by unfold Addr.add; split <;> simp_all
  rw [hadd, cell_of_row _ g j cs t _ h, ← Array.getElem?_toList, hu]
section
variable {w : World} {ops : Array Oper} {rest : List Oper} {o : Oper} {a : Act} {Q : Exit → Act → World → Prop}
theorem wpList_appR {s e k bytes : Nat} {z : Value} (T : RowT s e k bytes z) (sOp xOp : Operand) (ho : o.op = .call { callee := .builtin .append, args := #[sOp, xOp], argTypes := #[s, s] }) (hgd : o.guard = none) (hty : o.type = s)
    (base : Nat) (V : Option Addr) (m c0 : Nat) (vs : List Value) (hs : a.eval sOp = .slice V m c0) (hown : OwnR w base e k V m c0 vs)
    (ad : Addr) (nn c : Nat) (news : List Value) (hx : a.eval xOp = .slice (some ad) nn c) (hl : news.length = nn * k) (hnews : ∀ (j : Nat) (u : Value), news[j]? = some u → w.cell? (ad.add j) = some u) (h1 : ∀ u ∈ news, u.oneCell' = true)
    (hlim : m + nn ≤ maxLen) (hbytes : (m + nn) * bytes ≤ 140737488355328) (hbase : base ≤ w.heap.size)
    (h : ∀ V' c' w', OwnR w' base e k V' (m + nn) c' (vs ++ news) → w.grownBy w' (blk V) → wpList Try.prog ops Q rest (a.put o.dst (.slice V' (m + nn) c')) w') : wpList Try.prog ops Q (o :: rest) a w := by
  refine wpList_plain hgd fun K hK => ?_
  obtain ⟨i, hi, hz0, hz1, hz2⟩ := info_parts T.info
  obtain ⟨v', w', hrun, h2, h3, _⟩ := run_append_own (P := Try.prog) w base s s e i z k bytes T.und hi hz0 hz1 hz2 T.zs T.pos (.slice V m c0) m vs hown ad nn c news hl hnews h1 hlim hbytes hbase
  rw [blk_own] at h3
  have hsh : ∃ V' c', v' = .slice V' (m + nn) c' := by
    rcases h2.2 with ⟨rfl, hn⟩ | ⟨g, cap, cur, rfl, _⟩
    · exact ⟨none, 0, by rw [hn]⟩
    · exact ⟨_, _, rfl⟩
  obtain ⟨V', c', rfl⟩ := hsh
  unfold Oper.wp execOp
  simp only [ho, resolve, invoke, builtin, Sem.run_bind, Sem.run_pure, Result.andThen_ok, List.map_toArray, List.map_cons, List.map_nil, hs, hx, hty, hrun]
  exact hK _ _ (h V' c' w' h2 h3)
/-- Appending a list that was just built. -/
theorem wpList_appL {s e k bytes : Nat} {z : Value} (T : RowT s e k bytes z) (sOp xOp : Operand) (ho : o.op = .call { callee := .builtin .append, args := #[sOp, xOp], argTypes := #[s, s] }) (hgd : o.guard = none) (hty : o.type = s)
    (base : Nat) (V : Option Addr) (m c0 : Nat) (vs : List Value) (hs : a.eval sOp = .slice V m c0) (hown : OwnR w base e k V m c0 vs)
    (g nn c : Nat) (cs : Array Value) (mk : Nat × Nat) (hx : a.eval xOp = .slice (some ⟨g, 0, none⟩) nn c) (hg : w.heap[g]? = some (.cells cs e mk)) (hl : cs.size = nn * k) (h1 : ∀ u ∈ cs.toList, u.oneCell' = true)
    (hlim : m + nn ≤ maxLen) (hbytes : (m + nn) * bytes ≤ 140737488355328) (hbase : base ≤ w.heap.size)
    (h : ∀ V' c' w', OwnR w' base e k V' (m + nn) c' (vs ++ cs.toList) → w.grownBy w' (blk V) → wpList Try.prog ops Q rest (a.put o.dst (.slice V' (m + nn) c')) w') : wpList Try.prog ops Q (o :: rest) a w :=
  wpList_appR T sOp xOp ho hgd hty base V m c0 vs hs hown ⟨g, 0, none⟩ nn c cs.toList hx (by simpa using hl) (cells_lit w g cs e mk hg) h1 hlim hbytes hbase h
/-- 'make([]T, n)'. -/
theorem wpList_mkR {s e k bytes : Nat} {z : Value} (T : RowT s e k bytes z) (l c : Operand) (ho : o.op = .makeSlice s l c) (hgd : o.guard = none) (kl kc : IntKind) (L C : Int) (n : Nat) (hl : a.eval l = .int kl L) (hc : a.eval c = .int kc C) (hL : L = (n : Int)) (hC : C = (n : Int)) (hlim : n ≤ maxLen) (hbytes : bytes * n ≤ 281474976710656)
    (h : ∀ w', OwnR w' w.heap.size e k (some ⟨w.heap.size, 0, none⟩) n n (madeCells z.cells (n * k)).toList → w.grownBy w' none → wpList Try.prog ops Q rest (a.put o.dst (.slice (some ⟨w.heap.size, 0, none⟩) n n)) w') : wpList Try.prog ops Q (o :: rest) a w := by
  obtain ⟨i, hi, hz0, hz1, hz2⟩ := info_parts T.info
  exact wpList_make_full w hgd l c s ho w.heap.size e i z k T.und hi hz0 hz1 kl kc L C n hl hc hL hC (by rw [hz2]; omega) hlim (Nat.le_refl _) fun w' h1 h2 => h w' h1 h2
end
end Go.Proofs.Ytomolfdcdmncoaa
namespace Go.Proofs.Ytomolfdcdmncoaa
open Go.RowKit Go
set_option linter.unusedVariables false
set_option maxRecDepth 100000
theorem heap_set_at (w : World) (g j : Nat) (cs : Array Value) (t : TypeId) (fr : Nat × Nat) (u : Value) (hg : w.heap[g]? = some (.cells cs t fr)) : (w.setCell ⟨g, j, none⟩ u).heap[g]? = some (.cells (cs.setIfInBounds j u) t fr) := by
  have hlt := (Array.getElem?_eq_some_iff.1 hg).1
  simp [World.setCell, Array.getElem?_modify, hg]
theorem heap_set_far (w : World) (g k j : Nat) (u : Value) (h : k ≠ g) : (w.setCell ⟨g, j, none⟩ u).heap[k]? = w.heap[k]? := Below.heap_setCell w ⟨g, j, none⟩ u k h
theorem grown_one (w : World) (g j : Nat) (u : Value) : w.grownBy (w.setCell ⟨g, j, none⟩ u) (some g) :=
  ⟨rfl, rfl, rfl, by simp [World.setCell], fun k _ hk => Below.heap_setCell w ⟨g, j, none⟩ u k (fun e => hk (by rw [e]))⟩
theorem grown_tr {a b d : World} {row : Option Nat} (h : a.grownBy b row) (k : b.grownBy d row) : a.grownBy d row :=
  ⟨k.os.trans h.os, k.tape.trans h.tape, k.output.trans h.output, Nat.le_trans h.size k.size, fun i hi hne => (k.block i (Nat.lt_of_lt_of_le hi h.size) hne).trans (h.block i hi hne)⟩
theorem block_lt {w : World} {g : Nat} {o : Obj} (h : w.heap[g]? = some o) : g < w.heap.size := (Array.getElem?_eq_some_iff.1 h).1
/-! ### What worlds that only grow keep -/
section
variable {w w' v : World} {g B : Nat} {o : Obj}
theorem has_new (w : World) (o : Obj) : (w.alloc o).heap[w.heap.size]? = some o := heap_alloc_new w o
theorem has_new' (w : World) (o : Obj) (g : Nat) (hg : g = w.heap.size) : (w.alloc o).heap[g]? = some o := by subst hg; exact heap_alloc_new w o
theorem has_alloc (h : w.heap[g]? = some o) (o' : Obj) : (w.alloc o').heap[g]? = some o := (heap_alloc_old w o' (block_lt h)).trans h
theorem has_drew (h : w.heap[g]? = some o) : w.drew.heap[g]? = some o := h
theorem has_below (h : w.heap[g]? = some o) (hb : Below w.heap.size w w') : w'.heap[g]? = some o := (hb.block _ (block_lt h)).trans h
theorem has_set (h : w.heap[g]? = some o) {k j : Nat} {u : Value} (hne : g ≠ k) : (w.setCell ⟨k, j, none⟩ u).heap[g]? = some o := (heap_set_far w k g j u hne).trans h
theorem kp_drew (h : Below v.heap.size v w) : Below v.heap.size v w.drew := h.drew
theorem kp_drewN (h : Below v.heap.size v w) (k : Nat) : Below v.heap.size v (w.drewN k) := ⟨h.os, h.tape, h.output, h.size, h.block⟩
theorem has_drewN (h : w.heap[g]? = some o) (k : Nat) : (w.drewN k).heap[g]? = some o := h
theorem kp_alloc (h : Below v.heap.size v w) (o : Obj) : Below v.heap.size v (w.alloc o) := h.alloc h.size o
theorem kp_call (h : Below v.heap.size v w) (hb : Below w.heap.size w w') : Below v.heap.size v w' := h.trans (hb.mono h.size)
theorem kp_set (h : Below v.heap.size v w) {k j : Nat} {u : Value} (hk : v.heap.size ≤ k) : Below v.heap.size v (w.setCell ⟨k, j, none⟩ u) := h.setCell hk _
theorem kp_cell (h : Below v.heap.size v w) {b j : Nat} {u : Value} (hc : v.cell? ⟨b, j, none⟩ = some u) : w.cell? ⟨b, j, none⟩ = some u := (h.cell (p := ⟨b, j, none⟩) (World.block_lt_of_cell? v _ hc)).trans hc
theorem kp_of {h : Nat} (hb : Below h v w) (hh : v.heap.size = h) : Below v.heap.size v w := by subst hh; exact hb
end
/-! ### Cells -/
section
variable {w : World} {g : Nat} {t : TypeId}
theorem cells_1 {a0 : Value} {mk : Nat × Nat} (hk : w.heap[g]? = some (.cells #[a0] t mk)) :
    w.cell? ⟨g, 0, none⟩ = some a0 :=
  (Lib.cell_of_heap hk 0).trans rfl
theorem free_1 {a0 : Value} (hk : w.heap[g]? = some (.cells #[a0] t)) :
    w.frozen? ⟨g, 0, none⟩ = false :=
  Lib.frozen_of_heap hk 0
theorem set_1 {a0 v0 : Value} (hk : w.heap[g]? = some (.cells #[a0] t)) :
    (w.setCell ⟨g, 0, none⟩ v0).heap[g]? = some (.cells #[v0] t) := by
  have h0 := heap_set_at _ g 0 _ _ _ v0 hk
  simp only [List.setIfInBounds_toArray, List.set_cons_zero] at h0
  exact h0
theorem below_1 {v0 : Value} {B : Nat} {u : World} (h : Below B u w) (hg : B ≤ g) : Below B u (w.setCell ⟨g, 0, none⟩ v0) :=
  (h.setCell hg _)
theorem grown_1 {v0 : Value} (w : World) (g : Nat) : w.grownBy (w.setCell ⟨g, 0, none⟩ v0) (some g) :=
  grown_one _ _ _ _
theorem far_1 {v0 : Value} (w : World) (g b : Nat) (hb : b ≠ g) : (w.setCell ⟨g, 0, none⟩ v0).heap[b]? = w.heap[b]? :=
  heap_set_far _ _ _ _ _ hb
theorem cells_2 {a0 a1 : Value} {mk : Nat × Nat} (hk : w.heap[g]? = some (.cells #[a0, a1] t mk)) :
    w.cell? ⟨g, 0, none⟩ = some a0 ∧ w.cell? ⟨g, 1, none⟩ = some a1 :=
  ⟨(Lib.cell_of_heap hk 0).trans rfl, (Lib.cell_of_heap hk 1).trans rfl⟩
theorem free_2 {a0 a1 : Value} (hk : w.heap[g]? = some (.cells #[a0, a1] t)) :
    w.frozen? ⟨g, 0, none⟩ = false ∧ w.frozen? ⟨g, 1, none⟩ = false :=
  ⟨Lib.frozen_of_heap hk 0, Lib.frozen_of_heap hk 1⟩
theorem set_2 {a0 a1 v0 v1 : Value} (hk : w.heap[g]? = some (.cells #[a0, a1] t)) :
    ((w.setCell ⟨g, 0, none⟩ v0).setCell ⟨g, 1, none⟩ v1).heap[g]? = some (.cells #[v0, v1] t) := by
  have h0 := heap_set_at _ g 0 _ _ _ v0 hk
  simp only [List.setIfInBounds_toArray, List.set_cons_zero] at h0
  have h1 := heap_set_at _ g 1 _ _ _ v1 h0
  simp only [List.setIfInBounds_toArray, List.set_cons_zero, List.set_cons_succ] at h1
  exact h1
theorem below_2 {v0 v1 : Value} {B : Nat} {u : World} (h : Below B u w) (hg : B ≤ g) : Below B u ((w.setCell ⟨g, 0, none⟩ v0).setCell ⟨g, 1, none⟩ v1) :=
  ((h.setCell hg _).setCell hg _)
theorem grown_2 {v0 v1 : Value} (w : World) (g : Nat) : w.grownBy ((w.setCell ⟨g, 0, none⟩ v0).setCell ⟨g, 1, none⟩ v1) (some g) :=
  grown_tr (grown_one _ _ _ _) (grown_one _ _ _ _)
theorem far_2 {v0 v1 : Value} (w : World) (g b : Nat) (hb : b ≠ g) : ((w.setCell ⟨g, 0, none⟩ v0).setCell ⟨g, 1, none⟩ v1).heap[b]? = w.heap[b]? :=
  (heap_set_far _ _ _ _ _ hb).trans (heap_set_far _ _ _ _ _ hb)
theorem cells_3 {a0 a1 a2 : Value} {mk : Nat × Nat} (hk : w.heap[g]? = some (.cells #[a0, a1, a2] t mk)) :
    w.cell? ⟨g, 0, none⟩ = some a0 ∧ w.cell? ⟨g, 1, none⟩ = some a1 ∧ w.cell? ⟨g, 2, none⟩ = some a2 :=
  ⟨(Lib.cell_of_heap hk 0).trans rfl, (Lib.cell_of_heap hk 1).trans rfl, (Lib.cell_of_heap hk 2).trans rfl⟩
theorem free_3 {a0 a1 a2 : Value} (hk : w.heap[g]? = some (.cells #[a0, a1, a2] t)) :
    w.frozen? ⟨g, 0, none⟩ = false ∧ w.frozen? ⟨g, 1, none⟩ = false ∧ w.frozen? ⟨g, 2, none⟩ = false :=
  ⟨Lib.frozen_of_heap hk 0, Lib.frozen_of_heap hk 1, Lib.frozen_of_heap hk 2⟩
theorem set_3 {a0 a1 a2 v0 v1 v2 : Value} (hk : w.heap[g]? = some (.cells #[a0, a1, a2] t)) :
    (((w.setCell ⟨g, 0, none⟩ v0).setCell ⟨g, 1, none⟩ v1).setCell ⟨g, 2, none⟩ v2).heap[g]? = some (.cells #[v0, v1, v2] t) := by
  have h0 := heap_set_at _ g 0 _ _ _ v0 hk
  simp only [List.setIfInBounds_toArray, List.set_cons_zero] at h0
  have h1 := heap_set_at _ g 1 _ _ _ v1 h0
  simp only [List.setIfInBounds_toArray, List.set_cons_zero, List.set_cons_succ] at h1
  have h2 := heap_set_at _ g 2 _ _ _ v2 h1
  simp only [List.setIfInBounds_toArray, List.set_cons_zero, List.set_cons_succ] at h2
  exact h2
theorem below_3 {v0 v1 v2 : Value} {B : Nat} {u : World} (h : Below B u w) (hg : B ≤ g) : Below B u (((w.setCell ⟨g, 0, none⟩ v0).setCell ⟨g, 1, none⟩ v1).setCell ⟨g, 2, none⟩ v2) :=
  (((h.setCell hg _).setCell hg _).setCell hg _)
theorem grown_3 {v0 v1 v2 : Value} (w : World) (g : Nat) : w.grownBy (((w.setCell ⟨g, 0, none⟩ v0).setCell ⟨g, 1, none⟩ v1).setCell ⟨g, 2, none⟩ v2) (some g) :=
  grown_tr (grown_tr (grown_one _ _ _ _) (grown_one _ _ _ _)) (grown_one _ _ _ _)
theorem far_3 {v0 v1 v2 : Value} (w : World) (g b : Nat) (hb : b ≠ g) : (((w.setCell ⟨g, 0, none⟩ v0).setCell ⟨g, 1, none⟩ v1).setCell ⟨g, 2, none⟩ v2).heap[b]? = w.heap[b]? :=
  (heap_set_far _ _ _ _ _ hb).trans ((heap_set_far _ _ _ _ _ hb).trans (heap_set_far _ _ _ _ _ hb))
theorem cells_4 {a0 a1 a2 a3 : Value} {mk : Nat × Nat} (hk : w.heap[g]? = some (.cells #[a0, a1, a2, a3] t mk)) :
    w.cell? ⟨g, 0, none⟩ = some a0 ∧ w.cell? ⟨g, 1, none⟩ = some a1 ∧ w.cell? ⟨g, 2, none⟩ = some a2 ∧ w.cell? ⟨g, 3, none⟩ = some a3 :=
  ⟨(Lib.cell_of_heap hk 0).trans rfl, (Lib.cell_of_heap hk 1).trans rfl, (Lib.cell_of_heap hk 2).trans rfl, (Lib.cell_of_heap hk 3).trans rfl⟩
theorem free_4 {a0 a1 a2 a3 : Value} (hk : w.heap[g]? = some (.cells #[a0, a1, a2, a3] t)) :
    w.frozen? ⟨g, 0, none⟩ = false ∧ w.frozen? ⟨g, 1, none⟩ = false ∧ w.frozen? ⟨g, 2, none⟩ = false ∧ w.frozen? ⟨g, 3, none⟩ = false :=
  ⟨Lib.frozen_of_heap hk 0, Lib.frozen_of_heap hk 1, Lib.frozen_of_heap hk 2, Lib.frozen_of_heap hk 3⟩
theorem set_4 {a0 a1 a2 a3 v0 v1 v2 v3 : Value} (hk : w.heap[g]? = some (.cells #[a0, a1, a2, a3] t)) :
    ((((w.setCell ⟨g, 0, none⟩ v0).setCell ⟨g, 1, none⟩ v1).setCell ⟨g, 2, none⟩ v2).setCell ⟨g, 3, none⟩ v3).heap[g]? = some (.cells #[v0, v1, v2, v3] t) := by
  have h0 := heap_set_at _ g 0 _ _ _ v0 hk
  simp only [List.setIfInBounds_toArray, List.set_cons_zero] at h0
  have h1 := heap_set_at _ g 1 _ _ _ v1 h0
  simp only [List.setIfInBounds_toArray, List.set_cons_zero, List.set_cons_succ] at h1
  have h2 := heap_set_at _ g 2 _ _ _ v2 h1
  simp only [List.setIfInBounds_toArray, List.set_cons_zero, List.set_cons_succ] at h2
  have h3 := heap_set_at _ g 3 _ _ _ v3 h2
  simp only [List.setIfInBounds_toArray, List.set_cons_zero, List.set_cons_succ] at h3
  exact h3
theorem below_4 {v0 v1 v2 v3 : Value} {B : Nat} {u : World} (h : Below B u w) (hg : B ≤ g) : Below B u ((((w.setCell ⟨g, 0, none⟩ v0).setCell ⟨g, 1, none⟩ v1).setCell ⟨g, 2, none⟩ v2).setCell ⟨g, 3, none⟩ v3) :=
  ((((h.setCell hg _).setCell hg _).setCell hg _).setCell hg _)
theorem grown_4 {v0 v1 v2 v3 : Value} (w : World) (g : Nat) : w.grownBy ((((w.setCell ⟨g, 0, none⟩ v0).setCell ⟨g, 1, none⟩ v1).setCell ⟨g, 2, none⟩ v2).setCell ⟨g, 3, none⟩ v3) (some g) :=
  grown_tr (grown_tr (grown_tr (grown_one _ _ _ _) (grown_one _ _ _ _)) (grown_one _ _ _ _)) (grown_one _ _ _ _)
theorem far_4 {v0 v1 v2 v3 : Value} (w : World) (g b : Nat) (hb : b ≠ g) : ((((w.setCell ⟨g, 0, none⟩ v0).setCell ⟨g, 1, none⟩ v1).setCell ⟨g, 2, none⟩ v2).setCell ⟨g, 3, none⟩ v3).heap[b]? = w.heap[b]? :=
  (heap_set_far _ _ _ _ _ hb).trans ((heap_set_far _ _ _ _ _ hb).trans ((heap_set_far _ _ _ _ _ hb).trans (heap_set_far _ _ _ _ _ hb)))
theorem cells_5 {a0 a1 a2 a3 a4 : Value} {mk : Nat × Nat} (hk : w.heap[g]? = some (.cells #[a0, a1, a2, a3, a4] t mk)) :
    w.cell? ⟨g, 0, none⟩ = some a0 ∧ w.cell? ⟨g, 1, none⟩ = some a1 ∧ w.cell? ⟨g, 2, none⟩ = some a2 ∧ w.cell? ⟨g, 3, none⟩ = some a3 ∧ w.cell? ⟨g, 4, none⟩ = some a4 :=
  ⟨(Lib.cell_of_heap hk 0).trans rfl, (Lib.cell_of_heap hk 1).trans rfl, (Lib.cell_of_heap hk 2).trans rfl, (Lib.cell_of_heap hk 3).trans rfl, (Lib.cell_of_heap hk 4).trans rfl⟩
theorem free_5 {a0 a1 a2 a3 a4 : Value} (hk : w.heap[g]? = some (.cells #[a0, a1, a2, a3, a4] t)) :
    w.frozen? ⟨g, 0, none⟩ = false ∧ w.frozen? ⟨g, 1, none⟩ = false ∧ w.frozen? ⟨g, 2, none⟩ = false ∧ w.frozen? ⟨g, 3, none⟩ = false ∧ w.frozen? ⟨g, 4, none⟩ = false :=
  ⟨Lib.frozen_of_heap hk 0, Lib.frozen_of_heap hk 1, Lib.frozen_of_heap hk 2, Lib.frozen_of_heap hk 3, Lib.frozen_of_heap hk 4⟩
theorem set_5 {a0 a1 a2 a3 a4 v0 v1 v2 v3 v4 : Value} (hk : w.heap[g]? = some (.cells #[a0, a1, a2, a3, a4] t)) :
    (((((w.setCell ⟨g, 0, none⟩ v0).setCell ⟨g, 1, none⟩ v1).setCell ⟨g, 2, none⟩ v2).setCell ⟨g, 3, none⟩ v3).setCell ⟨g, 4, none⟩ v4).heap[g]? = some (.cells #[v0, v1, v2, v3, v4] t) := by
  have h0 := heap_set_at _ g 0 _ _ _ v0 hk
  simp only [List.setIfInBounds_toArray, List.set_cons_zero] at h0
  have h1 := heap_set_at _ g 1 _ _ _ v1 h0
  simp only [List.setIfInBounds_toArray, List.set_cons_zero, List.set_cons_succ] at h1
  have h2 := heap_set_at _ g 2 _ _ _ v2 h1
  simp only [List.setIfInBounds_toArray, List.set_cons_zero, List.set_cons_succ] at h2
  have h3 := heap_set_at _ g 3 _ _ _ v3 h2
  simp only [List.setIfInBounds_toArray, List.set_cons_zero, List.set_cons_succ] at h3
  have h4 := heap_set_at _ g 4 _ _ _ v4 h3
  simp only [List.setIfInBounds_toArray, List.set_cons_zero, List.set_cons_succ] at h4
  exact h4
theorem below_5 {v0 v1 v2 v3 v4 : Value} {B : Nat} {u : World} (h : Below B u w) (hg : B ≤ g) : Below B u (((((w.setCell ⟨g, 0, none⟩ v0).setCell ⟨g, 1, none⟩ v1).setCell ⟨g, 2, none⟩ v2).setCell ⟨g, 3, none⟩ v3).setCell ⟨g, 4, none⟩ v4) :=
  (((((h.setCell hg _).setCell hg _).setCell hg _).setCell hg _).setCell hg _)
theorem grown_5 {v0 v1 v2 v3 v4 : Value} (w : World) (g : Nat) : w.grownBy (((((w.setCell ⟨g, 0, none⟩ v0).setCell ⟨g, 1, none⟩ v1).setCell ⟨g, 2, none⟩ v2).setCell ⟨g, 3, none⟩ v3).setCell ⟨g, 4, none⟩ v4) (some g) :=
  grown_tr (grown_tr (grown_tr (grown_tr (grown_one _ _ _ _) (grown_one _ _ _ _)) (grown_one _ _ _ _)) (grown_one _ _ _ _)) (grown_one _ _ _ _)
theorem far_5 {v0 v1 v2 v3 v4 : Value} (w : World) (g b : Nat) (hb : b ≠ g) : (((((w.setCell ⟨g, 0, none⟩ v0).setCell ⟨g, 1, none⟩ v1).setCell ⟨g, 2, none⟩ v2).setCell ⟨g, 3, none⟩ v3).setCell ⟨g, 4, none⟩ v4).heap[b]? = w.heap[b]? :=
  (heap_set_far _ _ _ _ _ hb).trans ((heap_set_far _ _ _ _ _ hb).trans ((heap_set_far _ _ _ _ _ hb).trans ((heap_set_far _ _ _ _ _ hb).trans (heap_set_far _ _ _ _ _ hb))))
theorem cells_6 {a0 a1 a2 a3 a4 a5 : Value} {mk : Nat × Nat} (hk : w.heap[g]? = some (.cells #[a0, a1, a2, a3, a4, a5] t mk)) :
    w.cell? ⟨g, 0, none⟩ = some a0 ∧ w.cell? ⟨g, 1, none⟩ = some a1 ∧ w.cell? ⟨g, 2, none⟩ = some a2 ∧ w.cell? ⟨g, 3, none⟩ = some a3 ∧ w.cell? ⟨g, 4, none⟩ = some a4 ∧ w.cell? ⟨g, 5, none⟩ = some a5 :=
  ⟨(Lib.cell_of_heap hk 0).trans rfl, (Lib.cell_of_heap hk 1).trans rfl, (Lib.cell_of_heap hk 2).trans rfl, (Lib.cell_of_heap hk 3).trans rfl, (Lib.cell_of_heap hk 4).trans rfl, (Lib.cell_of_heap hk 5).trans rfl⟩
theorem free_6 {a0 a1 a2 a3 a4 a5 : Value} (hk : w.heap[g]? = some (.cells #[a0, a1, a2, a3, a4, a5] t)) :
    w.frozen? ⟨g, 0, none⟩ = false ∧ w.frozen? ⟨g, 1, none⟩ = false ∧ w.frozen? ⟨g, 2, none⟩ = false ∧ w.frozen? ⟨g, 3, none⟩ = false ∧ w.frozen? ⟨g, 4, none⟩ = false ∧ w.frozen? ⟨g, 5, none⟩ = false :=
  ⟨Lib.frozen_of_heap hk 0, Lib.frozen_of_heap hk 1, Lib.frozen_of_heap hk 2, Lib.frozen_of_heap hk 3, Lib.frozen_of_heap hk 4, Lib.frozen_of_heap hk 5⟩
theorem set_6 {a0 a1 a2 a3 a4 a5 v0 v1 v2 v3 v4 v5 : Value} (hk : w.heap[g]? = some (.cells #[a0, a1, a2, a3, a4, a5] t)) :
    ((((((w.setCell ⟨g, 0, none⟩ v0).setCell ⟨g, 1, none⟩ v1).setCell ⟨g, 2, none⟩ v2).setCell ⟨g, 3, none⟩ v3).setCell ⟨g, 4, none⟩ v4).setCell ⟨g, 5, none⟩ v5).heap[g]? = some (.cells #[v0, v1, v2, v3, v4, v5] t) := by
  have h0 := heap_set_at _ g 0 _ _ _ v0 hk
  simp only [List.setIfInBounds_toArray, List.set_cons_zero] at h0
  have h1 := heap_set_at _ g 1 _ _ _ v1 h0
  simp only [List.setIfInBounds_toArray, List.set_cons_zero, List.set_cons_succ] at h1
  have h2 := heap_set_at _ g 2 _ _ _ v2 h1
  simp only [List.setIfInBounds_toArray, List.set_cons_zero, List.set_cons_succ] at h2
  have h3 := heap_set_at _ g 3 _ _ _ v3 h2
  simp only [List.setIfInBounds_toArray, List.set_cons_zero, List.set_cons_succ] at h3
  have h4 := heap_set_at _ g 4 _ _ _ v4 h3
  simp only [List.setIfInBounds_toArray, List.set_cons_zero, List.set_cons_succ] at h4
  have h5 := heap_set_at _ g 5 _ _ _ v5 h4
  simp only [List.setIfInBounds_toArray, List.set_cons_zero, List.set_cons_succ] at h5
  exact h5
theorem below_6 {v0 v1 v2 v3 v4 v5 : Value} {B : Nat} {u : World} (h : Below B u w) (hg : B ≤ g) : Below B u ((((((w.setCell ⟨g, 0, none⟩ v0).setCell ⟨g, 1, none⟩ v1).setCell ⟨g, 2, none⟩ v2).setCell ⟨g, 3, none⟩ v3).setCell ⟨g, 4, none⟩ v4).setCell ⟨g, 5, none⟩ v5) :=
  ((((((h.setCell hg _).setCell hg _).setCell hg _).setCell hg _).setCell hg _).setCell hg _)
theorem grown_6 {v0 v1 v2 v3 v4 v5 : Value} (w : World) (g : Nat) : w.grownBy ((((((w.setCell ⟨g, 0, none⟩ v0).setCell ⟨g, 1, none⟩ v1).setCell ⟨g, 2, none⟩ v2).setCell ⟨g, 3, none⟩ v3).setCell ⟨g, 4, none⟩ v4).setCell ⟨g, 5, none⟩ v5) (some g) :=
  grown_tr (grown_tr (grown_tr (grown_tr (grown_tr (grown_one _ _ _ _) (grown_one _ _ _ _)) (grown_one _ _ _ _)) (grown_one _ _ _ _)) (grown_one _ _ _ _)) (grown_one _ _ _ _)
theorem far_6 {v0 v1 v2 v3 v4 v5 : Value} (w : World) (g b : Nat) (hb : b ≠ g) : ((((((w.setCell ⟨g, 0, none⟩ v0).setCell ⟨g, 1, none⟩ v1).setCell ⟨g, 2, none⟩ v2).setCell ⟨g, 3, none⟩ v3).setCell ⟨g, 4, none⟩ v4).setCell ⟨g, 5, none⟩ v5).heap[b]? = w.heap[b]? :=
  (heap_set_far _ _ _ _ _ hb).trans ((heap_set_far _ _ _ _ _ hb).trans ((heap_set_far _ _ _ _ _ hb).trans ((heap_set_far _ _ _ _ _ hb).trans ((heap_set_far _ _ _ _ _ hb).trans (heap_set_far _ _ _ _ _ hb)))))
theorem cells_7 {a0 a1 a2 a3 a4 a5 a6 : Value} {mk : Nat × Nat} (hk : w.heap[g]? = some (.cells #[a0, a1, a2, a3, a4, a5, a6] t mk)) :
    w.cell? ⟨g, 0, none⟩ = some a0 ∧ w.cell? ⟨g, 1, none⟩ = some a1 ∧ w.cell? ⟨g, 2, none⟩ = some a2 ∧ w.cell? ⟨g, 3, none⟩ = some a3 ∧ w.cell? ⟨g, 4, none⟩ = some a4 ∧ w.cell? ⟨g, 5, none⟩ = some a5 ∧ w.cell? ⟨g, 6, none⟩ = some a6 :=
  ⟨(Lib.cell_of_heap hk 0).trans rfl, (Lib.cell_of_heap hk 1).trans rfl, (Lib.cell_of_heap hk 2).trans rfl, (Lib.cell_of_heap hk 3).trans rfl, (Lib.cell_of_heap hk 4).trans rfl, (Lib.cell_of_heap hk 5).trans rfl, (Lib.cell_of_heap hk 6).trans rfl⟩
theorem free_7 {a0 a1 a2 a3 a4 a5 a6 : Value} (hk : w.heap[g]? = some (.cells #[a0, a1, a2, a3, a4, a5, a6] t)) :
    w.frozen? ⟨g, 0, none⟩ = false ∧ w.frozen? ⟨g, 1, none⟩ = false ∧ w.frozen? ⟨g, 2, none⟩ = false ∧ w.frozen? ⟨g, 3, none⟩ = false ∧ w.frozen? ⟨g, 4, none⟩ = false ∧ w.frozen? ⟨g, 5, none⟩ = false ∧ w.frozen? ⟨g, 6, none⟩ = false :=
  ⟨Lib.frozen_of_heap hk 0, Lib.frozen_of_heap hk 1, Lib.frozen_of_heap hk 2, Lib.frozen_of_heap hk 3, Lib.frozen_of_heap hk 4, Lib.frozen_of_heap hk 5, Lib.frozen_of_heap hk 6⟩
theorem set_7 {a0 a1 a2 a3 a4 a5 a6 v0 v1 v2 v3 v4 v5 v6 : Value} (hk : w.heap[g]? = some (.cells #[a0, a1, a2, a3, a4, a5, a6] t)) :
    (((((((w.setCell ⟨g, 0, none⟩ v0).setCell ⟨g, 1, none⟩ v1).setCell ⟨g, 2, none⟩ v2).setCell ⟨g, 3, none⟩ v3).setCell ⟨g, 4, none⟩ v4).setCell ⟨g, 5, none⟩ v5).setCell ⟨g, 6, none⟩ v6).heap[g]? = some (.cells #[v0, v1, v2, v3, v4, v5, v6] t) := by
  have h0 := heap_set_at _ g 0 _ _ _ v0 hk
  simp only [List.setIfInBounds_toArray, List.set_cons_zero] at h0
  have h1 := heap_set_at _ g 1 _ _ _ v1 h0
  simp only [List.setIfInBounds_toArray, List.set_cons_zero, List.set_cons_succ] at h1
  have h2 := heap_set_at _ g 2 _ _ _ v2 h1
  simp only [List.setIfInBounds_toArray, List.set_cons_zero, List.set_cons_succ] at h2
  have h3 := heap_set_at _ g 3 _ _ _ v3 h2
  simp only [List.setIfInBounds_toArray, List.set_cons_zero, List.set_cons_succ] at h3
  have h4 := heap_set_at _ g 4 _ _ _ v4 h3
  simp only [List.setIfInBounds_toArray, List.set_cons_zero, List.set_cons_succ] at h4
  have h5 := heap_set_at _ g 5 _ _ _ v5 h4
  simp only [List.setIfInBounds_toArray, List.set_cons_zero, List.set_cons_succ] at h5
  have h6 := heap_set_at _ g 6 _ _ _ v6 h5
  simp only [List.setIfInBounds_toArray, List.set_cons_zero, List.set_cons_succ] at h6
  exact h6
theorem below_7 {v0 v1 v2 v3 v4 v5 v6 : Value} {B : Nat} {u : World} (h : Below B u w) (hg : B ≤ g) : Below B u (((((((w.setCell ⟨g, 0, none⟩ v0).setCell ⟨g, 1, none⟩ v1).setCell ⟨g, 2, none⟩ v2).setCell ⟨g, 3, none⟩ v3).setCell ⟨g, 4, none⟩ v4).setCell ⟨g, 5, none⟩ v5).setCell ⟨g, 6, none⟩ v6) :=
  (((((((h.setCell hg _).setCell hg _).setCell hg _).setCell hg _).setCell hg _).setCell hg _).setCell hg _)
theorem grown_7 {v0 v1 v2 v3 v4 v5 v6 : Value} (w : World) (g : Nat) : w.grownBy (((((((w.setCell ⟨g, 0, none⟩ v0).setCell ⟨g, 1, none⟩ v1).setCell ⟨g, 2, none⟩ v2).setCell ⟨g, 3, none⟩ v3).setCell ⟨g, 4, none⟩ v4).setCell ⟨g, 5, none⟩ v5).setCell ⟨g, 6, none⟩ v6) (some g) :=
  grown_tr (grown_tr (grown_tr (grown_tr (grown_tr (grown_tr (grown_one _ _ _ _) (grown_one _ _ _ _)) (grown_one _ _ _ _)) (grown_one _ _ _ _)) (grown_one _ _ _ _)) (grown_one _ _ _ _)) (grown_one _ _ _ _)
theorem far_7 {v0 v1 v2 v3 v4 v5 v6 : Value} (w : World) (g b : Nat) (hb : b ≠ g) : (((((((w.setCell ⟨g, 0, none⟩ v0).setCell ⟨g, 1, none⟩ v1).setCell ⟨g, 2, none⟩ v2).setCell ⟨g, 3, none⟩ v3).setCell ⟨g, 4, none⟩ v4).setCell ⟨g, 5, none⟩ v5).setCell ⟨g, 6, none⟩ v6).heap[b]? = w.heap[b]? :=
  (heap_set_far _ _ _ _ _ hb).trans ((heap_set_far _ _ _ _ _ hb).trans ((heap_set_far _ _ _ _ _ hb).trans ((heap_set_far _ _ _ _ _ hb).trans ((heap_set_far _ _ _ _ _ hb).trans ((heap_set_far _ _ _ _ _ hb).trans (heap_set_far _ _ _ _ _ hb))))))
theorem cells_8 {a0 a1 a2 a3 a4 a5 a6 a7 : Value} {mk : Nat × Nat} (hk : w.heap[g]? = some (.cells #[a0, a1, a2, a3, a4, a5, a6, a7] t mk)) :
    w.cell? ⟨g, 0, none⟩ = some a0 ∧ w.cell? ⟨g, 1, none⟩ = some a1 ∧ w.cell? ⟨g, 2, none⟩ = some a2 ∧ w.cell? ⟨g, 3, none⟩ = some a3 ∧ w.cell? ⟨g, 4, none⟩ = some a4 ∧ w.cell? ⟨g, 5, none⟩ = some a5 ∧ w.cell? ⟨g, 6, none⟩ = some a6 ∧ w.cell? ⟨g, 7, none⟩ = some a7 :=
  ⟨(Lib.cell_of_heap hk 0).trans rfl, (Lib.cell_of_heap hk 1).trans rfl, (Lib.cell_of_heap hk 2).trans rfl, (Lib.cell_of_heap hk 3).trans rfl, (Lib.cell_of_heap hk 4).trans rfl, (Lib.cell_of_heap hk 5).trans rfl, (Lib.cell_of_heap hk 6).trans rfl, (Lib.cell_of_heap hk 7).trans rfl⟩
theorem free_8 {a0 a1 a2 a3 a4 a5 a6 a7 : Value} (hk : w.heap[g]? = some (.cells #[a0, a1, a2, a3, a4, a5, a6, a7] t)) :
    w.frozen? ⟨g, 0, none⟩ = false ∧ w.frozen? ⟨g, 1, none⟩ = false ∧ w.frozen? ⟨g, 2, none⟩ = false ∧ w.frozen? ⟨g, 3, none⟩ = false ∧ w.frozen? ⟨g, 4, none⟩ = false ∧ w.frozen? ⟨g, 5, none⟩ = false ∧ w.frozen? ⟨g, 6, none⟩ = false ∧ w.frozen? ⟨g, 7, none⟩ = false :=
  ⟨Lib.frozen_of_heap hk 0, Lib.frozen_of_heap hk 1, Lib.frozen_of_heap hk 2, Lib.frozen_of_heap hk 3, Lib.frozen_of_heap hk 4, Lib.frozen_of_heap hk 5, Lib.frozen_of_heap hk 6, Lib.frozen_of_heap hk 7⟩
theorem set_8 {a0 a1 a2 a3 a4 a5 a6 a7 v0 v1 v2 v3 v4 v5 v6 v7 : Value} (hk : w.heap[g]? = some (.cells #[a0, a1, a2, a3, a4, a5, a6, a7] t)) :
    ((((((((w.setCell ⟨g, 0, none⟩ v0).setCell ⟨g, 1, none⟩ v1).setCell ⟨g, 2, none⟩ v2).setCell ⟨g, 3, none⟩ v3).setCell ⟨g, 4, none⟩ v4).setCell ⟨g, 5, none⟩ v5).setCell ⟨g, 6, none⟩ v6).setCell ⟨g, 7, none⟩ v7).heap[g]? = some (.cells #[v0, v1, v2, v3, v4, v5, v6, v7] t) := by
  have h0 := heap_set_at _ g 0 _ _ _ v0 hk
  simp only [List.setIfInBounds_toArray, List.set_cons_zero] at h0
  have h1 := heap_set_at _ g 1 _ _ _ v1 h0
  simp only [List.setIfInBounds_toArray, List.set_cons_zero, List.set_cons_succ] at h1
  have h2 := heap_set_at _ g 2 _ _ _ v2 h1
  simp only [List.setIfInBounds_toArray, List.set_cons_zero, List.set_cons_succ] at h2
  have h3 := heap_set_at _ g 3 _ _ _ v3 h2
  simp only [List.setIfInBounds_toArray, List.set_cons_zero, List.set_cons_succ] at h3
  have h4 := heap_set_at _ g 4 _ _ _ v4 h3
  simp only [List.setIfInBounds_toArray, List.set_cons_zero, List.set_cons_succ] at h4
  have h5 := heap_set_at _ g 5 _ _ _ v5 h4
  simp only [List.setIfInBounds_toArray, List.set_cons_zero, List.set_cons_succ] at h5
  have h6 := heap_set_at _ g 6 _ _ _ v6 h5
  simp only [List.setIfInBounds_toArray, List.set_cons_zero, List.set_cons_succ] at h6
  have h7 := heap_set_at _ g 7 _ _ _ v7 h6
  simp only [List.setIfInBounds_toArray, List.set_cons_zero, List.set_cons_succ] at h7
  exact h7
theorem below_8 {v0 v1 v2 v3 v4 v5 v6 v7 : Value} {B : Nat} {u : World} (h : Below B u w) (hg : B ≤ g) : Below B u ((((((((w.setCell ⟨g, 0, none⟩ v0).setCell ⟨g, 1, none⟩ v1).setCell ⟨g, 2, none⟩ v2).setCell ⟨g, 3, none⟩ v3).setCell ⟨g, 4, none⟩ v4).setCell ⟨g, 5, none⟩ v5).setCell ⟨g, 6, none⟩ v6).setCell ⟨g, 7, none⟩ v7) :=
  ((((((((h.setCell hg _).setCell hg _).setCell hg _).setCell hg _).setCell hg _).setCell hg _).setCell hg _).setCell hg _)
theorem grown_8 {v0 v1 v2 v3 v4 v5 v6 v7 : Value} (w : World) (g : Nat) : w.grownBy ((((((((w.setCell ⟨g, 0, none⟩ v0).setCell ⟨g, 1, none⟩ v1).setCell ⟨g, 2, none⟩ v2).setCell ⟨g, 3, none⟩ v3).setCell ⟨g, 4, none⟩ v4).setCell ⟨g, 5, none⟩ v5).setCell ⟨g, 6, none⟩ v6).setCell ⟨g, 7, none⟩ v7) (some g) :=
  grown_tr (grown_tr (grown_tr (grown_tr (grown_tr (grown_tr (grown_tr (grown_one _ _ _ _) (grown_one _ _ _ _)) (grown_one _ _ _ _)) (grown_one _ _ _ _)) (grown_one _ _ _ _)) (grown_one _ _ _ _)) (grown_one _ _ _ _)) (grown_one _ _ _ _)
theorem far_8 {v0 v1 v2 v3 v4 v5 v6 v7 : Value} (w : World) (g b : Nat) (hb : b ≠ g) : ((((((((w.setCell ⟨g, 0, none⟩ v0).setCell ⟨g, 1, none⟩ v1).setCell ⟨g, 2, none⟩ v2).setCell ⟨g, 3, none⟩ v3).setCell ⟨g, 4, none⟩ v4).setCell ⟨g, 5, none⟩ v5).setCell ⟨g, 6, none⟩ v6).setCell ⟨g, 7, none⟩ v7).heap[b]? = w.heap[b]? :=
  (heap_set_far _ _ _ _ _ hb).trans ((heap_set_far _ _ _ _ _ hb).trans ((heap_set_far _ _ _ _ _ hb).trans ((heap_set_far _ _ _ _ _ hb).trans ((heap_set_far _ _ _ _ _ hb).trans ((heap_set_far _ _ _ _ _ hb).trans ((heap_set_far _ _ _ _ _ hb).trans (heap_set_far _ _ _ _ _ hb)))))))
theorem cells_9 {a0 a1 a2 a3 a4 a5 a6 a7 a8 : Value} {mk : Nat × Nat} (hk : w.heap[g]? = some (.cells #[a0, a1, a2, a3, a4, a5, a6, a7, a8] t mk)) :
    w.cell? ⟨g, 0, none⟩ = some a0 ∧ w.cell? ⟨g, 1, none⟩ = some a1 ∧ w.cell? ⟨g, 2, none⟩ = some a2 ∧ w.cell? ⟨g, 3, none⟩ = some a3 ∧ w.cell? ⟨g, 4, none⟩ = some a4 ∧ w.cell? ⟨g, 5, none⟩ = some a5 ∧ w.cell? ⟨g, 6, none⟩ = some a6 ∧ w.cell? ⟨g, 7, none⟩ = some a7 ∧ w.cell? ⟨g, 8, none⟩ = some a8 :=
  ⟨(Lib.cell_of_heap hk 0).trans rfl, (Lib.cell_of_heap hk 1).trans rfl, (Lib.cell_of_heap hk 2).trans rfl, (Lib.cell_of_heap hk 3).trans rfl, (Lib.cell_of_heap hk 4).trans rfl, (Lib.cell_of_heap hk 5).trans rfl, (Lib.cell_of_heap hk 6).trans rfl, (Lib.cell_of_heap hk 7).trans rfl, (Lib.cell_of_heap hk 8).trans rfl⟩
theorem free_9 {a0 a1 a2 a3 a4 a5 a6 a7 a8 : Value} (hk : w.heap[g]? = some (.cells #[a0, a1, a2, a3, a4, a5, a6, a7, a8] t)) :
    w.frozen? ⟨g, 0, none⟩ = false ∧ w.frozen? ⟨g, 1, none⟩ = false ∧ w.frozen? ⟨g, 2, none⟩ = false ∧ w.frozen? ⟨g, 3, none⟩ = false ∧ w.frozen? ⟨g, 4, none⟩ = false ∧ w.frozen? ⟨g, 5, none⟩ = false ∧ w.frozen? ⟨g, 6, none⟩ = false ∧ w.frozen? ⟨g, 7, none⟩ = false ∧ w.frozen? ⟨g, 8, none⟩ = false :=
  ⟨Lib.frozen_of_heap hk 0, Lib.frozen_of_heap hk 1, Lib.frozen_of_heap hk 2, Lib.frozen_of_heap hk 3, Lib.frozen_of_heap hk 4, Lib.frozen_of_heap hk 5, Lib.frozen_of_heap hk 6, Lib.frozen_of_heap hk 7, Lib.frozen_of_heap hk 8⟩
theorem set_9 {a0 a1 a2 a3 a4 a5 a6 a7 a8 v0 v1 v2 v3 v4 v5 v6 v7 v8 : Value} (hk : w.heap[g]? = some (.cells #[a0, a1, a2, a3, a4, a5, a6, a7, a8] t)) :
    (((((((((w.setCell ⟨g, 0, none⟩ v0).setCell ⟨g, 1, none⟩ v1).setCell ⟨g, 2, none⟩ v2).setCell ⟨g, 3, none⟩ v3).setCell ⟨g, 4, none⟩ v4).setCell ⟨g, 5, none⟩ v5).setCell ⟨g, 6, none⟩ v6).setCell ⟨g, 7, none⟩ v7).setCell ⟨g, 8, none⟩ v8).heap[g]? = some (.cells #[v0, v1, v2, v3, v4, v5, v6, v7, v8] t) := by
  have h0 := heap_set_at _ g 0 _ _ _ v0 hk
  simp only [List.setIfInBounds_toArray, List.set_cons_zero] at h0
  have h1 := heap_set_at _ g 1 _ _ _ v1 h0
  simp only [List.setIfInBounds_toArray, List.set_cons_zero, List.set_cons_succ] at h1
  have h2 := heap_set_at _ g 2 _ _ _ v2 h1
  simp only [List.setIfInBounds_toArray, List.set_cons_zero, List.set_cons_succ] at h2
  have h3 := heap_set_at _ g 3 _ _ _ v3 h2
  simp only [List.setIfInBounds_toArray, List.set_cons_zero, List.set_cons_succ] at h3
  have h4 := heap_set_at _ g 4 _ _ _ v4 h3
  simp only [List.setIfInBounds_toArray, List.set_cons_zero, List.set_cons_succ] at h4
  have h5 := heap_set_at _ g 5 _ _ _ v5 h4
  simp only [List.setIfInBounds_toArray, List.set_cons_zero, List.set_cons_succ] at h5
  have h6 := heap_set_at _ g 6 _ _ _ v6 h5
  simp only [List.setIfInBounds_toArray, List.set_cons_zero, List.set_cons_succ] at h6
  have h7 := heap_set_at _ g 7 _ _ _ v7 h6
  simp only [List.setIfInBounds_toArray, List.set_cons_zero, List.set_cons_succ] at h7
  have h8 := heap_set_at _ g 8 _ _ _ v8 h7
  simp only [List.setIfInBounds_toArray, List.set_cons_zero, List.set_cons_succ] at h8
  exact h8
theorem below_9 {v0 v1 v2 v3 v4 v5 v6 v7 v8 : Value} {B : Nat} {u : World} (h : Below B u w) (hg : B ≤ g) : Below B u (((((((((w.setCell ⟨g, 0, none⟩ v0).setCell ⟨g, 1, none⟩ v1).setCell ⟨g, 2, none⟩ v2).setCell ⟨g, 3, none⟩ v3).setCell ⟨g, 4, none⟩ v4).setCell ⟨g, 5, none⟩ v5).setCell ⟨g, 6, none⟩ v6).setCell ⟨g, 7, none⟩ v7).setCell ⟨g, 8, none⟩ v8) :=
  (((((((((h.setCell hg _).setCell hg _).setCell hg _).setCell hg _).setCell hg _).setCell hg _).setCell hg _).setCell hg _).setCell hg _)
theorem grown_9 {v0 v1 v2 v3 v4 v5 v6 v7 v8 : Value} (w : World) (g : Nat) : w.grownBy (((((((((w.setCell ⟨g, 0, none⟩ v0).setCell ⟨g, 1, none⟩ v1).setCell ⟨g, 2, none⟩ v2).setCell ⟨g, 3, none⟩ v3).setCell ⟨g, 4, none⟩ v4).setCell ⟨g, 5, none⟩ v5).setCell ⟨g, 6, none⟩ v6).setCell ⟨g, 7, none⟩ v7).setCell ⟨g, 8, none⟩ v8) (some g) :=
  grown_tr (grown_tr (grown_tr (grown_tr (grown_tr (grown_tr (grown_tr (grown_tr (grown_one _ _ _ _) (grown_one _ _ _ _)) (grown_one _ _ _ _)) (grown_one _ _ _ _)) (grown_one _ _ _ _)) (grown_one _ _ _ _)) (grown_one _ _ _ _)) (grown_one _ _ _ _)) (grown_one _ _ _ _)
theorem far_9 {v0 v1 v2 v3 v4 v5 v6 v7 v8 : Value} (w : World) (g b : Nat) (hb : b ≠ g) : (((((((((w.setCell ⟨g, 0, none⟩ v0).setCell ⟨g, 1, none⟩ v1).setCell ⟨g, 2, none⟩ v2).setCell ⟨g, 3, none⟩ v3).setCell ⟨g, 4, none⟩ v4).setCell ⟨g, 5, none⟩ v5).setCell ⟨g, 6, none⟩ v6).setCell ⟨g, 7, none⟩ v7).setCell ⟨g, 8, none⟩ v8).heap[b]? = w.heap[b]? :=
  (heap_set_far _ _ _ _ _ hb).trans ((heap_set_far _ _ _ _ _ hb).trans ((heap_set_far _ _ _ _ _ hb).trans ((heap_set_far _ _ _ _ _ hb).trans ((heap_set_far _ _ _ _ _ hb).trans ((heap_set_far _ _ _ _ _ hb).trans ((heap_set_far _ _ _ _ _ hb).trans ((heap_set_far _ _ _ _ _ hb).trans (heap_set_far _ _ _ _ _ hb))))))))
end
/-- A world that grew from w, and in which block g still is o. -/
structure GB (w : World) (g : Nat) (o : Obj) (W : World) : Prop where
  b : Below w.heap.size w W
  h : W.heap[g]? = some o
section
variable {w W W' : World} {g : Nat} {o : Obj}
theorem GB.drew (h : GB w g o W) : GB w g o W.drew := ⟨h.b.drew, h.h⟩
theorem GB.drewN (h : GB w g o W) (k : Nat) : GB w g o (W.drewN k) := ⟨kp_drewN h.b k, h.h⟩
theorem GB.alloc (h : GB w g o W) (o' : Obj) : GB w g o (W.alloc o') := ⟨kp_alloc h.b o', has_alloc h.h o'⟩
theorem GB.call (h : GB w g o W) (hb : Below W.heap.size W W') : GB w g o W' := ⟨kp_call h.b hb, has_below h.h hb⟩
theorem GB.set (h : GB w g o W) {k j : Nat} {u : Value} (hk : w.heap.size ≤ k) (hne : g ≠ k) : GB w g o (W.setCell ⟨k, j, none⟩ u) := ⟨kp_set h.b hk, has_set h.h hne⟩
end
/-- The world at hand under a name of its own. -/
theorem wp_nm {c : Code} {P : Program} {Q : Exit → Act → World → Prop} {a : Act} {w : World} (h : ∀ W, w = W → c.wp P Q a W) : c.wp P Q a w := h w rfl
theorem calls_nm {P : Program} {f : FuncId} {args : Array Value} {w : World} {Q : Ending → World → Prop} (h : ∀ W, w = W → Calls P f args W Q) : Calls P f args w Q := h w rfl
/-! ### Results that lie in cells -/
section
variable {P : Program} {fn : Func} {w : World} {g : Nat} {t ty : TypeId} {cs : Array Value} {fr : Nat × Nat}
/-- Loading a variable gives v. -/
def LV (P : Program) (w : World) (ty : TypeId) (p : Value) (v : Value) : Prop := ∃ a w1, (asAddr p).run P w = .ok a w1 ∧ (loadVar ty a).run P w1 = .ok v w
theorem LV.agg {d : TypeDesc} (hg : w.heap[g]? = some (.cells cs t fr)) (hu : P.underlying ty = some d) (hd : (match d with | .struct _ | .array _ _ => true | _ => false) = true) (hi : (P.info? ty).map (·.size) = some cs.size) :
    LV P w ty (.pointer (some ⟨g, 0, none⟩)) (.agg cs) := ⟨⟨g, 0, none⟩, w, by simp [asAddr], run_loadVar_row w g t ty cs fr d hg hu hd hi⟩
theorem results_c {p : Tmp} (h : fn.results = #[.cell p ty]) (tmps : Array Value) {v : Value} (hp : LV P w ty (tmps.getD p undef) v) :
    (results fn tmps).run P w = .ok v w := by
  obtain ⟨a, w1, h1, h2⟩ := hp
  rw [Array.getD_eq_getD_getElem?] at h1
  simp only [results, h]
  simp [Sem.run_bind, h1, h2, Result.andThen]
theorem results_ct {p u : Tmp} (h : fn.results = #[.cell p ty, .tmp u]) (tmps : Array Value) {v : Value} (hp : LV P w ty (tmps.getD p undef) v) :
    (results fn tmps).run P w = .ok (.tuple #[v, tmps.getD u undef]) w := by
  obtain ⟨a, w1, h1, h2⟩ := hp
  rw [Array.getD_eq_getD_getElem?] at h1
  simp only [results, h]
  simp [Sem.run_bind, h1, h2, Result.andThen]
theorem results_ctt {p u1 u2 : Tmp} (h : fn.results = #[.cell p ty, .tmp u1, .tmp u2]) (tmps : Array Value) {v : Value} (hp : LV P w ty (tmps.getD p undef) v) :
    (results fn tmps).run P w = .ok (.tuple #[v, tmps.getD u1 undef, tmps.getD u2 undef]) w := by
  obtain ⟨a, w1, h1, h2⟩ := hp
  rw [Array.getD_eq_getD_getElem?] at h1
  simp only [results, h]
  simp [Sem.run_bind, h1, h2, Result.andThen]
theorem results_cc {p q : Tmp} {ty2 : TypeId} (h : fn.results = #[.cell p ty, .cell q ty2]) (tmps : Array Value) {v v2 : Value} (hp : LV P w ty (tmps.getD p undef) v) (hq : LV P w ty2 (tmps.getD q undef) v2) :
    (results fn tmps).run P w = .ok (.tuple #[v, v2]) w := by
  obtain ⟨a, w1, h1, h2⟩ := hp
  obtain ⟨b, w2, h3, h4⟩ := hq
  rw [Array.getD_eq_getD_getElem?] at h1 h3
  simp only [results, h]
  simp [Sem.run_bind, h1, h2, h3, h4, Result.andThen]
end
end Go.Proofs.Ytomolfdcdmncoaa
namespace Go.Proofs.Ytomolfdcdmncoaa
open Go.RowKit Go
set_option linter.unusedVariables false
set_option maxRecDepth 100000

theorem copy_any (A : Option Addr) (n c : Nat) (bs : List UInt8) (w : World) (h : RB w A n bs) (hn : n ≤ 140737488355328) :
    Calls Try.prog 35 #[.slice A n c] w (Fresh w bs) := by
  obtain ⟨rfl, hb⟩ := h
  go_enter Try.func35, Try.ntmps35
  go_wp2_with (at_builtin; refine wpList_app _ _ rfl rfl rfl w.heap.size none 0 0 [] rfl (OwnB.nil _ _) w.heap.size A c bs rfl hb (by simpa using hn) (Nat.le_refl _) ?_)
  intro A' c' w' hown hg
  go_wp2
  go_ret
  exact ⟨A', _, c', rfl, hown, (Below.refl _ _).grown hg (Nat.le_refl _) (by intro k hk; cases hk)⟩

theorem eq_any (A1 A2 : Option Addr) (n1 n2 c1 c2 : Nat) (xs ys : List UInt8) (w : World) (h1 : RB w A1 n1 xs) (h2 : RB w A2 n2 ys) :
    Calls Try.prog 17 #[.slice A1 n1 c1, .slice A2 n2 c2] w fun e w' => e = .returned (.bool (xs == ys)) ∧ w = w' := by
  obtain ⟨rfl, h1⟩ := h1
  obtain ⟨rfl, h2⟩ := h2
  have e1 := run_strOf w _ A1 xs c1 h1
  have e2 := run_strOf w _ A2 ys c2 h2
  have t1 := strOf_toList xs
  have t2 := strOf_toList ys
  go_enter Try.func17, Try.ntmps17
  go_wp2
  go_ret
  exact ⟨rfl, rfl⟩
end Go.Proofs.Ytomolfdcdmncoaa
namespace Go.Proofs.Ytomolfdcdmncoaa
open Go.RowKit Go
set_option linter.unusedVariables false
/-- A world that agrees with W in all that W has. -/
structure Up (W : World) where
  w : World
  b : Below W.heap.size W w
instance Up.has (W : World) : Nonempty (Up W) := ⟨⟨W, Below.refl _ _⟩⟩
theorem Up.cell {W : World} {g j : Nat} {v : Value} (h : W.cell? ⟨g, j, none⟩ = some v) (x : Up W) : x.w.cell? ⟨g, j, none⟩ = some v := by
  have hlt := World.block_lt_of_cell? W _ h
  rw [x.b.cell (p := ⟨g, j, none⟩) hlt]
  exact h
theorem Up.free {W : World} {g j : Nat} {b : Bool} (h : W.frozen? ⟨g, j, none⟩ = b) (hg : g < W.heap.size) (x : Up W) : x.w.frozen? ⟨g, j, none⟩ = b := by
  rw [x.b.frozen (p := ⟨g, j, none⟩) hg]
  exact h
theorem Up.heap {W : World} {g : Nat} {o : Obj} (h : W.heap[g]? = some o) (x : Up W) : x.w.heap[g]? = some o := by
  rw [x.b.block g (Array.getElem?_eq_some_iff.1 h).1]
  exact h
theorem Up.calls {P : Program} {f : FuncId} {args : Array Value} {W : World} {x : Up W} {v : Value} (h : Calls P f args x.w fun e w' => e = .returned v ∧ Below x.w.heap.size x.w w') :
    Calls P f args x.w fun e w'' => e = .returned v ∧ ∃ y : Up W, w'' = y.w :=
  h.mono fun _ w' ⟨he, hb⟩ => ⟨he, ⟨w', x.b.trans (hb.mono x.b.size)⟩, rfl⟩
theorem Up.same {P : Program} {f : FuncId} {args : Array Value} {W : World} {x : Up W} {v : Value} (h : Calls P f args x.w fun e w' => e = .returned v ∧ x.w = w') :
    Calls P f args x.w fun e w'' => e = .returned v ∧ ∃ y : Up W, w'' = y.w :=
  h.mono fun _ w' ⟨he, hw⟩ => ⟨he, x, hw.symm⟩
theorem wp_region_up {P : Program} {id : Nat} {Q : Exit → Act → World → Prop} {a : Act} {w : World} {l : List Oper} (hm : P.follows .mixedOrders = true) (hB : Region.lexB .any l.toArray = true)
    (h : wpQuiet P l.toArray (fun w' => ∃ x : Up w, w' = x.w) (fun a' => ∀ w', (∃ x : Up w, w' = x.w) → Q .normal a' w') l a) : (Code.region id l.toArray true).wp P Q a w :=
  wp_region_quiet (C := fun w' => ∃ x : Up w, w' = x.w) hm hB ⟨⟨{ w with drawn := w.drawn + 1 }, ⟨rfl, rfl, rfl, Nat.le_refl _, fun _ _ => rfl⟩⟩, rfl⟩ (by simpa using h)
/-- The world at hand under a name of its own. -/
theorem wp_named {c : Code} {P : Program} {Q : Exit → Act → World → Prop} {a : Act} {w : World} (h : ∀ W, w = W → c.wp P Q a W) : c.wp P Q a w := h w rfl
theorem heap_named {w W : World} {g : Nat} {o : Obj} (h : w = W) (hk : w.heap[g]? = some o) : W.heap[g]? = some o := h ▸ hk
theorem below_named {B : Nat} {v w W : World} (h : w = W) (hk : Below B v w) : Below B v W := h ▸ hk
end Go.Proofs.Ytomolfdcdmncoaa
namespace Go.Proofs.Ytomolfdcdmncoaa
open Go.RowKit Go
set_option linter.unusedVariables false
set_option maxRecDepth 100000

def mark (k : Nat) : UInt8 := UInt8.ofNat (201 + k)
theorem mark_num (k : Nat) (h : k < 7) : (201 : Int) + (k : Int) = ((mark k).toNat : Int) := by
  unfold mark
  rw [UInt8.toNat_ofNat']
  omega
def marks : List UInt8 := (List.range 7).map mark
theorem marks_succ (k : Nat) (h : k < 7) : marks.take (k + 1) = marks.take k ++ [mark k] := by
  have : k = 0 ∨ k = 1 ∨ k = 2 ∨ k = 3 ∨ k = 4 ∨ k = 5 ∨ k = 6 := by omega
  rcases this with rfl | rfl | rfl | rfl | rfl | rfl | rfl <;> rfl
theorem marks_at (k : Nat) (h : k < 7) : marks[k]? = some (mark k) := by
  have : k = 0 ∨ k = 1 ∨ k = 2 ∨ k = 3 ∨ k = 4 ∨ k = 5 ∨ k = 6 := by omega
  rcases this with rfl | rfl | rfl | rfl | rfl | rfl | rfl <;> rfl
/-- The slice has bytes bs, and the seven marks behind them in its own memory. -/
def Roomed (w : World) (base : Nat) (A : Option Addr) (n c : Nat) (bs : List UInt8) : Prop := bs.length = n ∧ OwnB w base A (n + 7) c (bs ++ marks)
section
variable {w w' : World} {base : Nat} {A : Option Addr} {n c : Nat} {bs : List UInt8}
theorem Roomed.rb (h : Roomed w base A n c bs) : RB w A n bs := by
  refine ⟨h.1, ?_⟩
  have := h.2.reads.take_ n
  rwa [← h.1, List.take_left] at this
theorem Roomed.below (h : Roomed w base A n c bs) {B : Nat} (hb : Below B w w') (hB : w.heap.size ≤ B) : Roomed w' base A n c bs := ⟨h.1, h.2.below hb hB⟩
theorem Roomed.lower (h : Roomed w base A n c bs) {base' : Nat} (hb : base' ≤ base) : Roomed w base' A n c bs := ⟨h.1, h.2.lower hb⟩
end
end Go.Proofs.Ytomolfdcdmncoaa
namespace Go.Proofs.Ytomolfdcdmncoaa
open Go.RowKit Go
set_option linter.unusedVariables false
set_option maxRecDepth 100000
theorem splice_get {α : Type} (L : List α) (off : Nat) (cs : List α) (h : off + cs.length ≤ L.length) (i : Nat) :
    (splice L off cs)[i]? = if off ≤ i ∧ i < off + cs.length then cs[i - off]? else L[i]? := by
  unfold splice
  have hl : (L.take off).length = off := by rw [List.length_take]; omega
  by_cases h1 : i < off
  · rw [List.getElem?_append_left (by omega), List.getElem?_take, if_pos h1, if_neg (by omega)]
  · rw [List.getElem?_append_right (by omega), hl]
    by_cases h2 : i < off + cs.length
    · rw [List.getElem?_append_left (by omega), if_pos ⟨by omega, h2⟩]
    · rw [List.getElem?_append_right (by omega), List.getElem?_drop, if_neg (by omega)]
      congr 1; omega
theorem splice_take {α : Type} (L : List α) (off n : Nat) (cs : List α) (h : off + cs.length ≤ n) (hn : n ≤ L.length) : (splice L off cs).take n = splice (L.take n) off cs := by
  apply List.ext_getElem?
  intro i
  rw [splice_get _ _ _ (by rw [List.length_take]; omega), List.getElem?_take, splice_get _ _ _ (by omega), List.getElem?_take]
  by_cases hi : i < n
  · simp [hi]
  · rw [if_neg hi, if_neg (by omega), if_neg hi]
theorem splice_map {α β : Type} (f : α → β) (L : List α) (off : Nat) (cs : List α) : (splice L off cs).map f = splice (L.map f) off (cs.map f) := by
  unfold splice
  simp [List.map_take, List.map_drop]
theorem splice_zero {α : Type} (L cs : List α) (h : cs.length = L.length) : splice L 0 cs = cs := by
  unfold splice
  simp [h]
theorem splice_nil {α : Type} (L : List α) (off : Nat) : splice L off [] = L := by
  unfold splice
  simp
section
variable {w : World} {ops : Array Oper} {rest : List Oper} {o : Oper} {a : Act} {Q : Exit → Act → World → Prop}
theorem wpList_cpy (d s : Operand) (ho : o.op = .call { callee := .builtin .copy, args := #[d, s], argTypes := #[22, 22] }) (hgd : o.guard = none)
    (base g off n0 c0 dl dc : Nat) (xs : List UInt8) (hd : a.eval d = .slice (some ⟨g, off, none⟩) dl dc) (hown : OwnB w base (some ⟨g, 0, none⟩) n0 c0 xs)
    (B : Nat) (A : Option Addr) (m c : Nat) (ys : List UInt8) (hs : a.eval s = .slice A m c) (hl : ys.length = m) (hr : Bs w B A ys) (hfit : off + min m dl ≤ n0)
    (h : ∀ w', OwnB w' base (some ⟨g, 0, none⟩) n0 c0 (splice xs off (ys.take dl)) → w.grownBy w' (some g) → wpList Try.prog ops Q rest (a.put o.dst (goInt ((min m dl : Nat) : Int))) w') : wpList Try.prog ops Q (o :: rest) a w := by
  have hsz : (Try.prog.info? 5).map (·.size) = some 1 := by kernel_rfl
  by_cases h0 : min m dl = 0
  · refine wpList_copy_nothing hgd d s _ _ ho 5 Try.underlying22 hsz _ _ _ _ _ _ hd hs h0 ?_
    have hy : ys.take dl = [] := List.eq_nil_of_length_eq_zero (by rw [List.length_take]; omega)
    rw [h0] at h
    refine h w ?_ (World.grownBy.refl w _)
    rw [hy, splice_nil]
    exact hown
  · obtain ⟨b, o', e, _, hc⟩ := hr (by intro e; rw [e] at hl; simp at hl; omega)
    subst e
    rcases hown.2 with ⟨hv, _⟩ | ⟨g', cap, cur, hv, hb, hh, hle, hm, hcs, htk⟩
    · simp at hv
    · simp only [Value.slice.injEq, Option.some.injEq, Addr.mk.injEq, and_true, true_and] at hv
      obtain ⟨rfl, rfl⟩ := hv
      simp only [Nat.mul_one] at hcs htk
      have hlen : ((ys.take dl).map bv).length = min m dl := by rw [List.length_map, List.length_take]; omega
      refine wpList_copy_own hgd d s _ _ ho 5 Try.underlying22 hsz g off dl dc ⟨b, o', none⟩ m c hd hs cur _ hh ((ys.take dl).map bv) hlen (fun j v hj => ?_) (by rw [hlen, hcs]; omega) (by intro u hu; obtain ⟨q, _, rfl⟩ := List.mem_map.1 hu; rfl) ?_
      · rw [List.getElem?_map] at hj
        have hjl : j < (ys.take dl).length := by
          rcases Nat.lt_or_ge j (ys.take dl).length with h1 | h1
          · exact h1
          · rw [List.getElem?_eq_none h1] at hj; cases hj
        rw [List.getElem?_eq_getElem hjl] at hj
        injection hj with hj
        have hadd : (⟨b, o', none⟩ : Addr).add j = ⟨b, o' + j, none⟩ := by unfold Addr.add; split <;> simp_all
        rw [List.length_take] at hjl
        rw [hadd, hc j (by omega), ← hj, List.getElem_take]
      · rw [hlen]
        refine h _ ⟨?_, .inr ⟨g, c0, _, rfl, hb, setRow_heap w g cur _ _ _ hh, hle, hm, ?_, ?_⟩⟩ ⟨rfl, rfl, rfl, by simp [World.setRow], fun k _ hk => setRow_other w g k _ (fun e => hk (by rw [e]))⟩
        · rw [List.length_map, length_splice _ _ _ (by rw [List.length_take, hown.len]; omega), hown.len, Nat.mul_one]
        · have h2 : cur.toList.length = c0 := by simpa using hcs
          simp only [List.size_toArray, List.length_append, List.length_take, List.length_drop, h2, hlen]
          omega
        · rw [Nat.mul_one, splice_map, ← htk]
          have h2 : cur.toList.length = c0 := by simpa using hcs
          have h3 := splice_take cur.toList off n0 ((ys.take dl).map bv) (by rw [hlen]; omega) (by omega)
          rw [← h3]
          unfold splice
          rw [hlen]
end
end Go.Proofs.Ytomolfdcdmncoaa
namespace Go.Proofs.Ytomolfdcdmncoaa
open Go.RowKit Go
set_option linter.unusedVariables false
set_option maxRecDepth 100000
section
variable (w : World)
/-- APPENDING ONE BYTE: the new slice owns what is there then; the old one owns what it owned; and the new one lies where the old one lay, or in a new block. -/
theorem run_app1 (base : Nat) (A0 : Option Addr) (n0 c0 : Nat) (bs : List UInt8) (hown : OwnB w base A0 n0 c0 bs)
    (sb : Nat) (c : Nat) (x : UInt8) (hx : w.cell? ⟨sb, 0, none⟩ = some (bv x)) (hlim : n0 + 1 ≤ 140737488355328) (hbase : base ≤ w.heap.size) :
    ∃ A' c' w', (Builtin.append_ #[22, 22] 22 #[.slice A0 n0 c0, .slice (some ⟨sb, 0, none⟩) 1 c]).run Try.prog w = .ok (.slice A' (n0 + 1) c') w' ∧
      OwnB w' base A' (n0 + 1) c' (bs ++ [x]) ∧ OwnB w' base A0 n0 c0 bs ∧ w.grownBy w' (blk A0) ∧ (blk A' = blk A0 ∨ blk A' = some w.heap.size) := by
  obtain ⟨i, hi, hz0, hz1, hz2⟩ := info_parts u8_info
  have hlen := hown.len
  have hnews : ∀ j u, [bv x][j]? = some u → w.cell? ((⟨sb, 0, none⟩ : Addr).add j) = some u := by
    intro j u hj
    match j, hj with
    | 0, hj => simp at hj; subst hj; simpa [Addr.add] using hx
  by_cases hroom : n0 + 1 ≤ c0
  · rcases hown.2 with ⟨hv, hn⟩ | ⟨g, cap, cur, hv, hb, hh, hle, hm, hcs, htk⟩
    · injection hv with _ _ h3; omega
    · injection hv with h1 _ h3
      subst h1; subst h3
      simp only [Nat.mul_one] at hcs htk
      have hr := run_append_room (P := Try.prog) w 22 22 5 i Try.underlying22 hi g n0 c0 cur hh ⟨sb, 0, none⟩ 1 c [bv x] (by rw [hz1]; rfl) hnews (by intro u hu; simp at hu; subst hu; rfl) hroom (by rw [hz1, hcs]; simp; omega)
      rw [hz1] at hr
      simp only [Nat.mul_one, List.length_singleton] at hr
      have hl : cur.toList.length = c0 := by simpa using hcs
      have hsz : (cur.toList.take n0 ++ [bv x] ++ cur.toList.drop (n0 + 1)).length = c0 := by
        simp only [List.length_append, List.length_take, List.length_drop, hl, List.length_singleton]; omega
      have hh' := setRow_heap w g cur (cur.toList.take n0 ++ [bv x] ++ cur.toList.drop (n0 + 1)).toArray _ _ hh
      have htk1 : (cur.toList.take n0 ++ [bv x] ++ cur.toList.drop (n0 + 1)).take n0 = bs.map bv := by
        rw [List.append_assoc, List.take_append_of_le_length (by rw [List.length_take, hl]; omega), List.take_take, Nat.min_self, htk]
      have htk2 : (cur.toList.take n0 ++ [bv x] ++ cur.toList.drop (n0 + 1)).take (n0 + 1) = (bs ++ [x]).map bv := by
        rw [List.take_append_of_le_length (by rw [List.length_append, List.length_take, hl, List.length_singleton]; omega), List.take_of_length_le (by rw [List.length_append, List.length_take, hl, List.length_singleton]; omega), htk, List.map_append]; rfl
      refine ⟨_, _, _, hr, ⟨by simp [hlen], .inr ⟨g, c0, _, rfl, hb, hh', hroom, hm, by simpa using hsz, by simpa using htk2⟩⟩,
        ⟨hown.1, .inr ⟨g, c0, _, rfl, hb, hh', hle, hm, by simpa using hsz, by simpa using htk1⟩⟩, ⟨rfl, rfl, rfl, by simp [World.setRow], fun k _ hk => setRow_other w g k _ (fun e => hk (by rw [e]; rfl))⟩, .inl rfl⟩
  · -- it grows
    have hgrow : ∃ c' W', (Builtin.append_ #[22, 22] 22 #[.slice A0 n0 c0, .slice (some ⟨sb, 0, none⟩) 1 c]).run Try.prog w = .ok (.slice (some ⟨w.heap.size, 0, none⟩) (n0 + 1) c') W' ∧ OwnB W' base (some ⟨w.heap.size, 0, none⟩) (n0 + 1) c' (bs ++ [x]) ∧ w.grownBy W' none := by
      have hge := grownCap_ge w (n0 + 1) c0 5
      have hcm : grownCap w (n0 + 1) c0 5 ≤ maxLen := grownCap_le_maxLen w (n0 + 1) c0 5 (by unfold maxLen; omega)
      have hr : (Builtin.append_ #[22, 22] 22 #[.slice A0 n0 c0, .slice (some ⟨sb, 0, none⟩) 1 c]).run Try.prog w = .ok (.slice (some ⟨w.heap.size, 0, none⟩) (n0 + 1) (grownCap w (n0 + 1) c0 5))
          (w.drew.alloc (.cells ((bs.map bv).toArray ++ [bv x].toArray ++ Builtin.zeroCells (Value.int .u8 0).cells (grownCap w (n0 + 1) c0 5 - (n0 + 1))) 5)) := by
        rcases hown.2 with ⟨hv, hn⟩ | ⟨g, cap, cur, hv, hb, hh, hle, hm, hcs, htk⟩
        · injection hv with h1 h2 h3
          subst h1; subst h2; subst h3
          have hbs : bs = [] := List.eq_nil_of_length_eq_zero hlen
          subst hbs
          have := run_append_nil (P := Try.prog) w 22 22 5 i (.int .u8 0) Try.underlying22 hi hz0 ⟨sb, 0, none⟩ 1 c [bv x] (by rw [hz1]; rfl) hnews (by omega) (by omega) (by rw [hz2]; omega)
          simpa using this
        · injection hv with h1 h2 h3
          subst h1; subst h3
          have holds : ∀ j v, (bs.map bv)[j]? = some v → w.cell? ((⟨g, 0, none⟩ : Addr).add j) = some v := World.ownsRow.cells (v := .slice (some ⟨g, 0, none⟩) n0 c0) hown rfl
          exact run_append_grow (P := Try.prog) w 22 22 5 i (.int .u8 0) Try.underlying22 hi hz0 ⟨g, 0, none⟩ n0 c0 (bs.map bv) (by rw [hz1, List.length_map, hlen, Nat.mul_one]) holds ⟨sb, 0, none⟩ 1 c [bv x] (by rw [hz1]; rfl) hnews (by omega) (by omega) (growslice_fits (by omega) (by rw [hz2]; omega))
      refine ⟨_, _, hr, ⟨by simp [hlen], .inr ⟨w.heap.size, _, _, rfl, hbase, heap_alloc_new w.drew _, hge, hcm, ?_, ?_⟩⟩, ⟨rfl, rfl, rfl, by simp, fun k hk _ => Below.heap_alloc w.drew _ k hk⟩⟩
      · simp only [Array.size_append, List.size_toArray, List.length_map, List.length_singleton, hlen, size_zeroCells]
        show n0 + 1 + (_ - (n0 + 1)) * 1 = _ * 1
        omega
      · simp only [Array.toList_append, List.append_assoc, Nat.mul_one]
        rw [← List.append_assoc, List.take_append_of_le_length (by rw [List.length_append, List.length_map, List.length_singleton, hlen]; omega), List.take_of_length_le (by rw [List.length_append, List.length_map, List.length_singleton, hlen]; omega), List.map_append]
        rfl
    obtain ⟨c', W', hr, h1, h2⟩ := hgrow
    refine ⟨_, _, _, hr, h1, hown.kept h2 (by cases blk A0 <;> simp), ⟨h2.os, h2.tape, h2.output, h2.size, fun k hk _ => h2.block k hk (by simp)⟩, .inr rfl⟩
end
section
variable {w : World} {ops : Array Oper} {rest : List Oper} {o : Oper} {a : Act} {Q : Exit → Act → World → Prop}
theorem wpList_app1 (s x : Operand) (ho : o.op = .call { callee := .builtin .append, args := #[s, x], argTypes := #[22, 22] }) (hgd : o.guard = none) (hty : o.type = 22)
    (base : Nat) (A0 : Option Addr) (n0 c0 : Nat) (bs : List UInt8) (hs : a.eval s = .slice A0 n0 c0) (hown : OwnB w base A0 n0 c0 bs)
    (sb c : Nat) (q : UInt8) (hx : a.eval x = .slice (some ⟨sb, 0, none⟩) 1 c) (hq : w.cell? ⟨sb, 0, none⟩ = some (bv q)) (hlim : n0 + 1 ≤ 140737488355328) (hbase : base ≤ w.heap.size)
    (h : ∀ A' c' w', OwnB w' base A' (n0 + 1) c' (bs ++ [q]) → OwnB w' base A0 n0 c0 bs → w.grownBy w' (blk A0) → (blk A' = blk A0 ∨ blk A' = some w.heap.size) → wpList Try.prog ops Q rest (a.put o.dst (.slice A' (n0 + 1) c')) w') : wpList Try.prog ops Q (o :: rest) a w := by
  refine wpList_plain hgd fun K hK => ?_
  obtain ⟨A', c', w', hrun, h2, h3, h4, h5⟩ := run_app1 w base A0 n0 c0 bs hown sb c q hq hlim hbase
  unfold Oper.wp execOp
  simp only [ho, resolve, invoke, builtin, Sem.run_bind, Sem.run_pure, Result.andThen_ok, List.map_toArray, List.map_cons, List.map_nil, hs, hx, hty, hrun]
  exact hK _ _ (h A' c' w' h2 h3 h4 h5)
end
/-- A store into bytes that are owned leaves others as they were. -/
theorem grown_set (w : World) (g j : Nat) (u : Value) : w.grownBy (w.setCell ⟨g, j, none⟩ u) (some g) :=
  ⟨rfl, rfl, rfl, by simp [World.setCell], fun k _ hk => Below.heap_setCell w ⟨g, j, none⟩ u k (fun e => hk (by rw [e]))⟩

/-! ### Rows of slices -/
/-- The row of slices '.slice V m c' holds the slices vs. -/
def OwnS (w : World) (base : Nat) (V : Option Addr) (m c : Nat) (vs : List Value) : Prop := w.ownsRow base 22 1 (.slice V m c) m vs
theorem bs_info : (Try.prog.info? 22).map (fun i => (i.zero, i.size, i.bytes)) = some (some (.slice none 0 0), 1, 24) := by kernel_rfl
section
variable {w w' : World} {base : Nat} {V : Option Addr} {m c : Nat} {vs : List Value}
theorem OwnS.nil (w : World) (base : Nat) : OwnS w base none 0 0 [] := World.ownsRow_nil w base _ _
theorem OwnS.len (h : OwnS w base V m c vs) : vs.length = m := by simpa using h.1
theorem OwnS.kind (h : OwnS w base V m c vs) : ∀ g, blk V = some g → ∃ cur, w.heap[g]? = some (.cells cur 22 (0, 0)) := by
  intro g hg
  rcases h.2 with ⟨hv, _⟩ | ⟨g', cap, cur, hv, _, hh, _⟩
  · injection hv with h1; subst h1; cases hg
  · injection hv with h1; subst h1
    injection hg with hg
    subst hg
    exact ⟨cur, hh⟩
theorem OwnS.kept (h : OwnS w base V m c vs) {row : Option Nat} (hg : w.grownBy w' row) (hne : blk V = none ∨ blk V ≠ row) : OwnS w' base V m c vs := World.ownsRow.kept h hg (by rw [blk_own]; exact hne)
theorem OwnS.alloc (h : OwnS w base V m c vs) (o : Obj) : OwnS (w.alloc o) base V m c vs := World.ownsRow.alloc h o
theorem OwnS.below (h : OwnS w base V m c vs) {B : Nat} (hb : Below B w w') (hB : w.heap.size ≤ B) : OwnS w' base V m c vs :=
  h.kept (grown_of_below hb hB none) (by cases blk V <;> simp)
theorem OwnS.at_ (h : OwnS w base V m c vs) {k : Nat} {v : Value} (hv : vs[k]? = some v) : ∃ g, V = some ⟨g, 0, none⟩ ∧ base ≤ g ∧ g < w.heap.size ∧ w.cell? ⟨g, k, none⟩ = some v := by
  have hk : k < m := by
    rcases Nat.lt_or_ge k vs.length with h1 | h1
    · rw [h.len] at h1; exact h1
    · rw [List.getElem?_eq_none h1] at hv; cases hv
  rcases h.2 with ⟨_, hn⟩ | ⟨g, cap, cur, hv', hb, hh, hle, hm, hcs, htk⟩
  · omega
  · injection hv' with h1 h2 h3
    subst h1; subst h3
    refine ⟨g, rfl, hb, (Array.getElem?_eq_some_iff.1 hh).1, ?_⟩
    have := World.ownsRow.cellAt (g := g) h k (by omega)
    rw [this, hv]
/-- A row of slices and owned bytes never share a block. -/
theorem own_ne {A : Option Addr} {n c' base' : Nat} {bs : List UInt8} (h : OwnS w base V m c vs) (hb : OwnB w base' A n c' bs) (hne : 22 ≠ 5) : blk V = none ∨ blk V ≠ blk A := by
  cases hV : blk V with
  | none => exact .inl rfl
  | some g =>
    right
    intro e
    obtain ⟨cur, h1⟩ := h.kind g hV
    obtain ⟨cur', h2⟩ := hb.kind g e.symm
    rw [h1] at h2
    injection h2 with h2
    injection h2 with _ h3
    exact hne h3
end
section
variable {w : World} {ops : Array Oper} {rest : List Oper} {o : Oper} {a : Act} {Q : Exit → Act → World → Prop}
/-- Appending one slice to a row of slices. -/
theorem wpList_appS (s x : Operand) (ho : o.op = .call { callee := .builtin .append, args := #[s, x], argTypes := #[56, 56] }) (hgd : o.guard = none) (hty : o.type = 56)
    (base : Nat) (V : Option Addr) (m c0 : Nat) (vs : List Value) (hs : a.eval s = .slice V m c0) (hown : OwnS w base V m c0 vs)
    (sb c : Nat) (v : Value) (hx : a.eval x = .slice (some ⟨sb, 0, none⟩) 1 c) (hv : w.cell? ⟨sb, 0, none⟩ = some v) (hone : v.oneCell' = true) (hlim : m + 1 ≤ 1000000000) (hbase : base ≤ w.heap.size)
    (h : ∀ V' c' w', OwnS w' base V' (m + 1) c' (vs ++ [v]) → w.grownBy w' (blk V) → wpList Try.prog ops Q rest (a.put o.dst (.slice V' (m + 1) c')) w') : wpList Try.prog ops Q (o :: rest) a w := by
  refine wpList_plain hgd fun K hK => ?_
  obtain ⟨i, hi, hz0, hz1, hz2⟩ := info_parts bs_info
  obtain ⟨v', w', hrun, h2, h3, _⟩ := run_append_own (P := Try.prog) w base 56 56 22 i (.slice none 0 0) 1 24 Try.underlying56 hi hz0 hz1 hz2 rfl (by decide) (.slice V m c0) m vs hown ⟨sb, 0, none⟩ 1 c [v]
    rfl (by
      intro j u hj
      match j, hj with
      | 0, hj => simp at hj; subst hj; simpa [Addr.add] using hv) (by intro u hu; simp at hu; subst hu; exact hone) (by unfold maxLen; omega) (by omega) hbase
  rw [blk_own] at h3
  have hsh : ∃ V' c', v' = .slice V' (m + 1) c' := by
    rcases h2.2 with ⟨rfl, hn⟩ | ⟨g, cap, cur, rfl, _⟩
    · omega
    · exact ⟨_, _, rfl⟩
  obtain ⟨V', c', rfl⟩ := hsh
  unfold Oper.wp execOp
  simp only [ho, resolve, invoke, builtin, Sem.run_bind, Sem.run_pure, Result.andThen_ok, List.map_toArray, List.map_cons, List.map_nil, hs, hx, hty, hrun]
  exact hK _ _ (h V' c' w' h2 h3)
end
end Go.Proofs.Ytomolfdcdmncoaa
namespace Go.Proofs.Ytomolfdcdmncoaa
open Go.RowKit Go
set_option linter.unusedVariables false
set_option maxRecDepth 100000
section
variable {w w' : World} {base b' : Nat} {A A' : Option Addr} {n n' c c' : Nat} {xs ys : List UInt8}
theorem own_same (h1 : OwnB w base A n c xs) (h2 : OwnB w b' A' n' c' ys) (he : blk A = blk A') (hne : blk A ≠ none) : A = A' ∧ c = c' := by
  rcases h1.2 with ⟨hv, _⟩ | ⟨g, cap, cur, hv, _, hh, _, _, hcs, _⟩
  · injection hv with e1; subst e1; exact absurd rfl hne
  · injection hv with e1 _ e3
    subst e1; subst e3
    rcases h2.2 with ⟨hv', _⟩ | ⟨g', cap', cur', hv', _, hh', _, _, hcs', _⟩
    · injection hv' with e1; subst e1; exact absurd he.symm (by simp [blk])
    · injection hv' with e1 _ e3
      subst e1; subst e3
      have hg : g = g' := by simpa [blk] using he
      subst hg
      rw [hh] at hh'
      injection hh' with hh'
      injection hh' with hc
      subst hc
      exact ⟨rfl, by simpa using hcs.symm.trans hcs'⟩
theorem OwnB.cutTo (h : OwnB w base A n c xs) (k : Nat) (hk : k ≤ n) : OwnB w base A k c (xs.take k) := by
  have hl := h.len
  rcases h.2 with ⟨hv, hn⟩ | ⟨g, cap, cur, hv, hb, hh, hle, hm, hcs, htk⟩
  · subst hn
    obtain rfl : k = 0 := by omega
    injection hv with e1 e2 e3
    subst e1; subst e3
    exact OwnB.nil _ _
  · injection hv with e1 _ e3
    subst e1; subst e3
    refine ⟨by rw [List.length_map, List.length_take, hl]; omega, .inr ⟨g, c, cur, rfl, hb, hh, by omega, hm, hcs, ?_⟩⟩
    simp only [Nat.mul_one] at htk ⊢
    rw [List.map_take, ← htk, List.take_take, Nat.min_eq_left hk]
theorem OwnB.blk_some (h : OwnB w base A n c xs) (hn : 0 < n) : ∃ g, A = some ⟨g, 0, none⟩ ∧ blk A = some g ∧ base ≤ g ∧ g < w.heap.size := by
  obtain ⟨g, rfl, h1, h2⟩ := h.shape (by have := h.cap; omega)
  exact ⟨g, rfl, rfl, h1, h2⟩
theorem keepB {V : Option Addr} {m cv : Nat} {vs : List Value} (h : OwnB w base A n c xs) (hV : OwnS w b' V m cv vs) (hg : w.grownBy w' (blk V)) : OwnB w' base A n c xs := by
  refine h.kept hg ?_
  cases hA : blk A with
  | none => exact .inl rfl
  | some g =>
    right
    intro e
    rcases own_ne hV h (by decide) with h1 | h1
    · rw [h1] at e; cases e
    · exact h1 (by rw [hA]; exact e.symm)
end
/-- Memory between two block numbers stands. -/
def Mid (lo hi : Nat) (w w' : World) : Prop := ∀ k, lo ≤ k → k < hi → w'.heap[k]? = w.heap[k]?
section
variable {lo hi : Nat} {a b c : World}
theorem Mid.refl : Mid lo hi a a := fun _ _ _ => rfl
theorem Mid.trans (h : Mid lo hi a b) (k : Mid lo hi b c) : Mid lo hi a c := fun i h1 h2 => (k i h1 h2).trans (h i h1 h2)
theorem Mid.of_below (h : Below hi a b) : Mid lo hi a b := fun k _ h2 => h.block k h2
theorem Mid.of_grown {row : Option Nat} (h : a.grownBy b row) (hh : hi ≤ a.heap.size) (hr : ∀ k, row = some k → k < lo ∨ hi ≤ k) : Mid lo hi a b := fun k h1 h2 => h.block k (by omega) (fun e => by
  rcases hr k e.symm with h3 | h3 <;> omega)
theorem Mid.own (h : Mid lo hi a b) {A : Option Addr} {n cc : Nat} {xs : List UInt8} (ho : OwnB a lo A n cc xs) (hh : a.heap.size = hi) : OwnB b lo A n cc xs := by
  obtain ⟨h1, h2⟩ := ho
  refine ⟨h1, ?_⟩
  rcases h2 with hn | ⟨g, cap, cur, hv, hb, hc, rest⟩
  · exact .inl hn
  · refine .inr ⟨g, cap, cur, hv, hb, ?_, rest⟩
    rw [h g hb (by have := (Array.getElem?_eq_some_iff.1 hc).1; omega)]
    exact hc
theorem Mid.ownS (h : Mid lo hi a b) {V : Option Addr} {m cc : Nat} {vs : List Value} (ho : OwnS a lo V m cc vs) (hh : a.heap.size = hi) : OwnS b lo V m cc vs := by
  obtain ⟨h1, h2⟩ := ho
  refine ⟨h1, ?_⟩
  rcases h2 with hn | ⟨g, cap, cur, hv, hb, hc, rest⟩
  · exact .inl hn
  · refine .inr ⟨g, cap, cur, hv, hb, ?_, rest⟩
    rw [h g hb (by have := (Array.getElem?_eq_some_iff.1 hc).1; omega)]
    exact hc
end
theorem take_snoc_at {α : Type} (l : List α) (x : α) (r : Nat) : (l ++ [x])[r]? = if r < l.length then l[r]? else if r = l.length then some x else none := by
  by_cases h : r < l.length
  · rw [List.getElem?_append_left h, if_pos h]
  · rw [List.getElem?_append_right (by omega), if_neg h]
    by_cases h2 : r = l.length
    · subst h2; simp
    · rw [if_neg h2, List.getElem?_eq_none (by simp; omega)]
/-- The mark of row i. -/
def mkr (i : Nat) : UInt8 := UInt8.ofNat (i + 1)
theorem mkr_num (i : Nat) : IntKind.u8.wrap ((i : Int) + 1) = ((mkr i).toNat : Int) := by
  unfold mkr
  rw [IntKind.wrap_u8', UInt8.toNat_ofNat']
  omega
section
variable (V : Option Addr) (m c : Nat) (vs : List Value) (A : Nat → Option Addr) (n cc : Nat → Nat) (bss : Nat → List UInt8) (base : Nat) (w : World)
/-- What Apart is handed. -/
structure Fam (w : World) : Prop where
  row : OwnS w base V m c vs
  at_ : ∀ r, r < m → vs[r]? = some (.slice (A r) (n r) (cc r))
  own : ∀ r, r < m → OwnB w base (A r) (n r) (cc r) (bss r)
  far : ∀ r s, r < m → s < m → r ≠ s → blk (A r) = none ∨ blk (A r) ≠ blk (A s)
  lim : ∀ r, r < m → n r ≤ 1000000
/-- The first i copies. -/
def Copies (lo : Nat) (w : World) (i : Nat) (ws : List Value) : Prop := ∀ r, r < i → ∃ C cr, ws[r]? = some (.slice C (n r) cr) ∧ OwnB w lo C (n r) cr (bss r)
end
section
variable {V : Option Addr} {m c : Nat} {vs : List Value} {A : Nat → Option Addr} {n cc : Nat → Nat} {bss : Nat → List UInt8} {base : Nat} {w w' : World}
theorem Fam.below (h : Fam V m c vs A n cc bss base w) {B : Nat} (hb : Below B w w') (hB : w.heap.size ≤ B) : Fam V m c vs A n cc bss base w' :=
  ⟨h.row.below hb hB, h.at_, fun r hr => (h.own r hr).below hb hB, h.far, h.lim⟩
end
/-- What stands of the long ones: the first i. -/
structure Longs (V : Option Addr) (m c : Nat) (vs : List Value) (A : Nat → Option Addr) (n cc : Nat → Nat) (bss : Nat → List UInt8) (base hi : Nat) (w : World) (i : Nat) (ms : List Value) (G : Nat → Option Addr × Nat) : Prop where
  at_ : ∀ r, r < i → ms[r]? = some (.slice (G r).1 (n r + 40) (G r).2)
  own : ∀ r, r < i → OwnB w base (G r).1 (n r + 40) (G r).2 (bss r ++ List.replicate 40 (mkr r))
  or_ : ∀ r, r < i → ((G r).1 = A r ∧ (G r).2 = cc r) ∨ (∃ k, blk (G r).1 = some k ∧ hi ≤ k)
  far : ∀ r s, r < i → s < i → r ≠ s → blk (G r).1 ≠ blk (G s).1
/-- One that is gone on with. -/
structure Going (A : Option Addr) (cA : Nat) (base hs : Nat) (w : World) (n k : Nat) (bs : List UInt8) (x : UInt8) (g : Option Addr) (cg : Nat) : Prop where
  own : OwnB w base g (n + k) cg (bs ++ List.replicate k x)
  old : OwnB w base A n cA bs
  or_ : (g = A ∧ cg = cA) ∨ (∃ j, blk g = some j ∧ hs ≤ j)
theorem Going.step {A g : Option Addr} {cA base hs n k cg cg' : Nat} {w w1 w2 : World} {bs : List UInt8} {x : UInt8} {g' : Option Addr} (hG : Going A cA base hs w n k bs x g cg)
    (h1 : OwnB w2 base g' (n + k + 1) cg' (bs ++ List.replicate k x ++ [x])) (h2 : OwnB w2 base g (n + k) cg (bs ++ List.replicate k x)) (hg : w1.grownBy w2 (blk g)) (ho : OwnB w1 base A n cA bs) (H : Nat) (hb : blk g' = blk g ∨ blk g' = some H) (hw : hs ≤ H) (hlt : ∀ k, blk A = some k → k < hs) :
    Going A cA base hs w2 n (k + 1) bs x g' cg' := by
  have hsome : blk g' ≠ none := by
    obtain ⟨j, _, h3, _⟩ := h1.blk_some (by omega)
    rw [h3]; simp
  refine ⟨by rw [List.replicate_succ', ← List.append_assoc, ← Nat.add_assoc]; exact h1, ?_, ?_⟩
  · rcases hG.or_ with ⟨rfl, rfl⟩ | ⟨j, hj, hj2⟩
    · have := h2.cutTo n (by omega)
      rwa [← hG.old.len, List.take_left, hG.old.len] at this
    · refine ho.kept hg ?_
      right
      intro e
      rw [hj] at e
      have := hlt j e
      omega
  · rcases hb with hb | hb
    · obtain ⟨e1, e2⟩ := own_same h1 h2 hb hsome
      subst e1; subst e2
      exact hG.or_
    · exact .inr ⟨_, hb, hw⟩
theorem below_drewN {B : Nat} {a b : World} (h : Below B a b) (k : Nat) : Below B a (b.drewN k) := ⟨h.os, h.tape, h.output, h.size, h.block⟩
theorem eq_same (A1 A2 : Option Addr) (n1 n2 c1 c2 : Nat) (xs : List UInt8) (w : World) (h1 : RB w A1 n1 xs) (h2 : RB w A2 n2 xs) :
    Calls Try.prog 17 #[.slice A1 n1 c1, .slice A2 n2 c2] w fun e w' => e = .returned (.bool true) ∧ w' = w :=
  (eq_any A1 A2 n1 n2 c1 c2 xs xs w h1 h2).mono fun _ _ ⟨a, b⟩ => ⟨by rw [a]; simp, b.symm⟩
def upd (G : Nat → Option Addr × Nat) (i : Nat) (x : Option Addr × Nat) : Nat → Option Addr × Nat := fun r => if r = i then x else G r
theorem upd_same (G : Nat → Option Addr × Nat) (i : Nat) (x : Option Addr × Nat) : upd G i x i = x := by simp [upd]
theorem upd_other (G : Nat → Option Addr × Nat) (i r : Nat) (x : Option Addr × Nat) (h : r ≠ i) : upd G i x r = G r := by simp [upd, h]

end Go.Proofs.Ytomolfdcdmncoaa
namespace Go.Proofs.Ytomolfdcdmncoaa
open Go.RowKit Go
set_option linter.unusedVariables false
/-- One of them: its address, length, capacity and bytes. -/
abbrev Own1 := Option Addr × Nat × Nat × List UInt8
def Own1.val (x : Own1) : Value := .slice x.1 x.2.1 x.2.2.1
def Own1.nul : Own1 := (none, 0, 0, [])
theorem fam_list (w : World) (base g : Nat) (l : List Own1) (m c : Nat) (hm : l.length = m)
    (hrow : OwnS w base (some ⟨g, 0, none⟩) m c (l.map Own1.val))
    (hown : ∀ x ∈ l, OwnB w base x.1 x.2.1 x.2.2.1 x.2.2.2 ∧ x.2.1 ≤ 1000000)
    (hfar : l.Pairwise fun x y => blk x.1 = none ∨ blk x.1 ≠ blk y.1) :
    Fam (some ⟨g, 0, none⟩) m c (l.map Own1.val) (fun r => (l.getD r Own1.nul).1) (fun r => (l.getD r Own1.nul).2.1) (fun r => (l.getD r Own1.nul).2.2.1) (fun r => (l.getD r Own1.nul).2.2.2) base w := by
  have hg : ∀ r (h : r < m), l.getD r Own1.nul = l[r]'(by omega) := fun r h => by
    rw [List.getD_eq_getElem?_getD, List.getElem?_eq_getElem (by omega)]; rfl
  refine ⟨hrow, fun r hr => ?_, fun r hr => ?_, fun r s hr hs hrs => ?_, fun r hr => ?_⟩
  · simp only [hg r hr]
    rw [List.getElem?_map, List.getElem?_eq_getElem (by omega)]
    rfl
  · simp only [hg r hr]
    exact (hown _ (List.getElem_mem _)).1
  · simp only [hg r hr, hg s hs]
    rw [List.pairwise_iff_getElem] at hfar
    rcases Nat.lt_or_ge r s with h | h
    · exact hfar r s (by omega) (by omega) h
    · rcases hfar s r (by omega) (by omega) (by omega) with h1 | h1
      · by_cases h2 : blk (l[r]'(by omega)).1 = none
        · exact .inl h2
        · exact .inr (fun e => h2 (e.trans h1))
      · exact .inr (fun e => h1 e.symm)
  · simp only [hg r hr]
    exact (hown _ (List.getElem_mem _)).2
/-- Blocks that are one above the other are apart. -/
theorem far_of {w w' : World} {b b' : Nat} {A A' : Option Addr} {n n' c c' : Nat} {xs ys : List UInt8} (h : OwnB w b A n c xs) (h' : OwnB w' b' A' n' c' ys) (hlt : w.heap.size ≤ b') : blk A = none ∨ blk A ≠ blk A' := by
  cases e : blk A with
  | none => exact .inl rfl
  | some g =>
    right
    intro e2
    have h1 := (h.blk_lt e).2
    have h2 := (h'.blk_lt e2.symm).1
    omega
theorem far_symm {A A' : Option Addr} (h : blk A = none ∨ blk A ≠ blk A') : blk A' = none ∨ blk A' ≠ blk A := by
  rcases h with h1 | h1
  · by_cases h2 : blk A' = none
    · exact .inl h2
    · exact .inr (fun e => h2 (e.trans h1))
  · exact .inr (fun e => h1 e.symm)
end Go.Proofs.Ytomolfdcdmncoaa
namespace Go.Proofs.Ytomolfdcdmncoaa
open Go.RowKit Go
set_option linter.unusedVariables false
/-- WHAT A LAW's WALK IS TOLD OF A LIST OF BYTES THAT CAME IN: row r is the slice X r, and reads as bss r. -/
structure IsRows (w : World) (A : Option Addr) (n c : Nat) (X : Nat → Option Addr × Nat × Nat) (bss : Nat → List UInt8) : Prop where
  le : n ≤ c
  max : c ≤ maxLen
  rows : 0 < n → ∃ b off, A = some ⟨b, off, none⟩ ∧ b < w.heap.size ∧ ∀ r, r < n → w.cell? ⟨b, off + r, none⟩ = some (.slice (X r).1 (X r).2.1 (X r).2.2) ∧ IsBs w (X r).1 (X r).2.1 (X r).2.2 (bss r)
theorem IsRows.lim {w : World} {A : Option Addr} {n c : Nat} {X : Nat → Option Addr × Nat × Nat} {bss : Nat → List UInt8} (h : IsRows w A n c X bss) : n ≤ 9223372036854775807 := by
  have h1 := h.le
  have h2 := h.max
  unfold maxLen at h2
  omega
section
open Go.ChangeShapes Go.WideShapes Go.ChangeAt Go.Deep
theorem open_rows {H : Type} {enc : TypeId × Value → H} {P : Program} {w : World} {t e q : TypeId} {A : Option Addr} {n c : Nat} {d : DataW H} {p : List MemPlace}
    (ht : P.underlying t = some (.slice e)) (he : P.underlying e = some (.slice q)) (hq : P.underlying q = some (.int .u8)) (ce : P.cellsOf e = 1) (cq : P.cellsOf q = 1)
    (hf : DataW.Trod enc P w 0 (fun _ => true) true t (.slice A n c) d p) : ∃ X bss, IsRows w A n c X bss := by
  obtain ⟨fuel, hf⟩ := hf
  rcases open_int_rows ht he hq ce cq hf with ⟨hcs, _⟩ | ⟨a, len, cap, AA, L, C, Z, hcs, _, hl, hm, _, hrow⟩
  · simp [Value.cells] at hcs
    obtain ⟨rfl, rfl, rfl⟩ := hcs
    exact ⟨fun _ => (none, 0, 0), fun _ => [], Nat.le_refl _, Nat.zero_le _, fun h => absurd h (by omega)⟩
  · simp [Value.cells] at hcs
    obtain ⟨rfl, rfl, rfl⟩ := hcs
    refine ⟨fun r => (AA r, L r, C r), fun r => bytesOf ((Z r).take (L r)), hl, hm, fun hn => ?_⟩
    obtain ⟨b, off, spot⟩ := a
    have h0 := (hrow 0 (by omega)).1
    have hsp : spot = none := by simpa [Addr.add] using World.cell?_spot h0
    subst hsp
    have hlt : b < w.heap.size := by
      have := World.block_lt_of_cell? w _ h0
      simpa [Addr.add] using this
    refine ⟨b, off, rfl, hlt, fun r hr => ?_⟩
    obtain ⟨hc, hLC, hCm, hZ, hwf, hnone, hcell⟩ := hrow r (by omega)
    have hadd : (⟨b, off, none⟩ : Addr).add r = ⟨b, off + r, none⟩ := by unfold Addr.add; split <;> simp_all
    rw [hadd] at hc
    refine ⟨hc, by simp [bytesOf]; omega, hLC, hCm, ?_⟩
    by_cases hz0 : 0 < (Z r).length
    · exact Bs.of_row hLC hZ (fun y hy i hi => (hcell y hy).2 i (by omega)) (fun _ => by
        cases hA : AA r with
        | none => have := hnone hA; omega
        | some y => exact ⟨y, rfl⟩) hwf (fun y hy => by
        have := World.block_lt_of_cell? w _ ((hcell y hy).2 0 (by omega))
        rwa [show (y.add 0).block = y.block by simp [Addr.add]] at this)
    · have : L r = 0 := by omega
      intro h
      exact absurd (by simp [bytesOf, this]) h
end
end Go.Proofs.Ytomolfdcdmncoaa
