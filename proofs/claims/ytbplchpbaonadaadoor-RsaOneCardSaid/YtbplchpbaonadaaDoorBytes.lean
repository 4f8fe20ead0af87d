/-
  Plain facts of this seat: what it says that a slice of bytes reads as a list of bytes.
-/
import Derived.Test.YtbplchpbaonadaaDoorProg
import Derived.WalkKit
import Derived.Below
import Derived.Laws.OwnMore
import Derived.Deep.AppendLies
import Derived.Deep.Draws
import Derived.Lib.Hide
import Derived.OpenShut
import Derived.ProofKit
namespace Go.Proofs.YtbplchpbaonadaaDoor
open Go.RowKit
set_option linter.unusedVariables false

/-- A byte as the model holds it. -/
abbrev bv (x : UInt8) : Value := .int .u8 (x.toNat : Int)

/-- The slice '.slice A bs.length c' reads as the bytes bs, below block B. -/
def Bs (w : World) (B : Nat) (A : Option Addr) (bs : List UInt8) : Prop :=
  bs ≠ [] → ∃ b off, A = some ⟨b, off, none⟩ ∧ b < B ∧ ∀ j (h : j < bs.length), w.cell? ⟨b, off + j, none⟩ = some (bv bs[j])

section
variable {w w' : World} {B B' : Nat} {A : Option Addr} {bs : List UInt8}
theorem Bs.nil : Bs w B A [] := fun h => absurd rfl h
theorem Bs.at_ {k : Nat} (h : Bs w B A bs) (hk : k < bs.length) : ∃ b off, A = some ⟨b, off, none⟩ ∧ b < B ∧ w.cell? ⟨b, off + k, none⟩ = some (.int .u8 (bs[k].toNat : Int)) := by
  obtain ⟨b, off, e, hb, hc⟩ := h (by rintro rfl; simp at hk)
  exact ⟨b, off, e, hb, hc k hk⟩
theorem Bs.keep (h : Bs w B A bs) (hk : ∀ b o, b < B → w'.cell? ⟨b, o, none⟩ = w.cell? ⟨b, o, none⟩) : Bs w' B A bs := fun hn => by
  obtain ⟨b, off, e, hb, hc⟩ := h hn
  exact ⟨b, off, e, hb, fun j hj => (hk b _ hb).trans (hc j hj)⟩
theorem Bs.more (h : Bs w B A bs) (hB : B ≤ B') : Bs w B' A bs := fun hn => by
  obtain ⟨b, off, e, hb, hc⟩ := h hn
  exact ⟨b, off, e, by omega, hc⟩
theorem Bs.below (h : Bs w B A bs) (hb : Below B w w') : Bs w' B A bs := h.keep fun b o hp => hb.cell (p := ⟨b, o, none⟩) hp
theorem Bs.below' {C : Nat} (h : Bs w B A bs) (hb : Below C w w') (hC : B ≤ C) : Bs w' B A bs := h.below (hb.mono hC)
theorem Bs.drew (h : Bs w B A bs) : Bs w.drew B A bs := h
theorem Bs.drewN (h : Bs w B A bs) (k : Nat) : Bs (w.drewN k) B A bs := h
theorem Bs.alloc (h : Bs w B A bs) (hB : B ≤ w.heap.size) (o : Obj) : Bs (w.alloc o) B A bs := h.keep fun b p hp => World.cell?_alloc_lt w o ⟨b, p, none⟩ (by show b < _; omega)
theorem Bs.setCell (h : Bs w B A bs) {p : Addr} (hB : B ≤ p.block) (u : Value) : Bs (w.setCell p u) B A bs :=
  h.keep fun b q hq => World.cell?_setCell_other w p ⟨b, q, none⟩ u (fun e => by subst e; simp at hB; omega)
theorem Bs.grown (h : Bs w B A bs) {row : Option Nat} (hg : w.grownBy w' row) (hB : B ≤ w.heap.size) (hr : ∀ g, row = some g → B ≤ g) : Bs w' B A bs :=
  h.keep fun b p hp => World.cell?_of_block (hg.block b (by omega) (fun e => by have := hr _ e.symm; omega))
/-- A piece of it, as the walk writes it: of another length's address. -/
theorem Bs.drop_ (h : Bs w B A bs) (k : Nat) : Bs w B (A.map (·.add k)) (bs.drop k) := fun hn => by
  have hk : k < bs.length := by
    rcases Nat.lt_or_ge k bs.length with h1 | h1
    · exact h1
    · exact absurd (List.drop_eq_nil_of_le h1) hn
  obtain ⟨b, off, e, hb, hc⟩ := h (by rintro rfl; simp at hn)
  subst e
  refine ⟨b, off + k, by by_cases hz : k = 0 <;> simp [Addr.add, hz], hb, fun j hj => ?_⟩
  simp only [List.length_drop] at hj
  rw [Nat.add_assoc, hc (k + j) (by omega), List.getElem_drop]
theorem Bs.take_ (h : Bs w B A bs) (k : Nat) : Bs w B A (bs.take k) := fun hn => by
  obtain ⟨b, off, e, hb, hc⟩ := h (by rintro rfl; simp at hn)
  refine ⟨b, off, e, hb, fun j hj => ?_⟩
  simp only [List.length_take] at hj
  rw [hc j (by omega), List.getElem_take]
/-- What the call owns reads as bytes. -/
theorem Bs.of_own {base : Nat} {e : TypeId} {c : Nat} {n : Nat} (h : w.ownsRow base e 1 (.slice A n c) n (bs.map bv)) : Bs w w.heap.size A bs := by
  intro hn
  have hl : bs.length = n := by simpa using h.1
  rcases h.2 with ⟨hv, rfl⟩ | ⟨g, cap, cur, hv, _, hh, _⟩
  · exact absurd (List.eq_nil_of_length_eq_zero hl) hn
  · injection hv with h1 _ _
    subst h1
    refine ⟨g, 0, rfl, (Array.getElem?_eq_some_iff.1 hh).1, fun j hj => ?_⟩
    have hcell := h.cells (g := g) rfl j (bv bs[j]) (by rw [List.getElem?_map, List.getElem?_eq_getElem hj]; rfl)
    have hadd : (⟨g, 0, none⟩ : Addr).add j = ⟨g, 0 + j, none⟩ := by unfold Addr.add; split <;> simp_all
    rwa [hadd] at hcell
end

theorem bs_new (w : World) (bs : List UInt8) (t : TypeId) (mk : Nat × Nat) (cs : Array Value) (h : cs.toList = bs.map bv) : Bs (w.alloc (.cells cs t mk)) (w.heap.size + 1) (some ⟨w.heap.size, 0, none⟩) bs := by
  intro _
  refine ⟨w.heap.size, 0, rfl, by omega, fun j hj => ?_⟩
  rw [cell_of_row _ w.heap.size (0 + j) cs t mk (heap_alloc_new w _)]
  rw [← Array.getElem?_toList, h]
  simp [hj]
/-- A slice of n bytes reads as bs. -/
def RB (w : World) (A : Option Addr) (n : Nat) (bs : List UInt8) : Prop := bs.length = n ∧ Bs w w.heap.size A bs
section
variable {w w' : World} {A : Option Addr} {n : Nat} {bs : List UInt8}
theorem RB.below (h : RB w A n bs) (hb : Below w.heap.size w w') : RB w' A n bs := ⟨h.1, (h.2.below hb).more hb.size⟩
theorem RB.below' (h : RB w A n bs) {B : Nat} (hb : Below B w w') (hB : w.heap.size ≤ B) : RB w' A n bs := h.below (hb.mono hB)
theorem RB.alloc (h : RB w A n bs) (o : Obj) : RB (w.alloc o) A n bs := ⟨h.1, (h.2.alloc (Nat.le_refl _) o).more (by simp)⟩
theorem RB.drew (h : RB w A n bs) : RB w.drew A n bs := h
theorem RB.drewN (h : RB w A n bs) (k : Nat) : RB (w.drewN k) A n bs := h
theorem RB.nil (w : World) (A : Option Addr) : RB w A 0 [] := ⟨rfl, Bs.nil⟩
theorem RB.at_ {k : Nat} (h : RB w A n bs) (hk : k < n) : ∃ b off q, A = some ⟨b, off, none⟩ ∧ b < w.heap.size ∧ bs[k]? = some q ∧ w.cell? ⟨b, off + k, none⟩ = some (.int .u8 (q.toNat : Int)) := by
  obtain ⟨rfl, hb⟩ := h
  obtain ⟨b, off, e, hlt, hc⟩ := hb.at_ hk
  exact ⟨b, off, bs[k], e, hlt, List.getElem?_eq_getElem hk, hc⟩
end

/-- The numbers that a slice of bytes was read as, as bytes. -/
def bytesOf (zs : List Int) : List UInt8 := zs.map fun z => UInt8.ofNat z.toNat
theorem byte_of_wf {z : Int} (h : (Lit.int .u8 z).wf = true) : ((UInt8.ofNat z.toNat).toNat : Int) = z := by
  have hb := bounds_u8 h
  rw [UInt8.toNat_ofNat']
  omega

/-- WHAT A ROW's READING GIVES OF A SLICE OF BYTES. -/
theorem Bs.of_row {w : World} {B : Nat} {A : Option Addr} {zs : List Int} {len cap : Nat} (hl : len ≤ cap) (hz : zs.length = cap)
    (hcell : ∀ x, A = some x → ∀ i, i < zs.length → w.cell? (x.add i) = some (.int .u8 (zs.getD i 0))) (hA : 0 < len → ∃ x, A = some x) (hwz : ∀ n ∈ zs, (Lit.int .u8 n).wf = true)
    (hlt : ∀ x, A = some x → x.block < B) :
    Bs w B A (bytesOf (zs.take len)) := by
  intro hn
  have hlen : 0 < len := by
    rcases Nat.eq_zero_or_pos len with h | h
    · subst h; simp [bytesOf] at hn
    · exact h
  obtain ⟨⟨g, off, spot⟩, rfl⟩ := hA hlen
  have hsp : spot = none := by
    have := hcell _ rfl 0 (by omega)
    simpa [Addr.add] using World.cell?_spot this
  subst hsp
  refine ⟨g, off, rfl, hlt _ rfl, fun j hj => ?_⟩
  have hj' : j < zs.length := by simp [bytesOf] at hj; omega
  have h1 := hcell _ rfl j hj'
  have hadd : (⟨g, off, none⟩ : Addr).add j = ⟨g, off + j, none⟩ := by unfold Addr.add; split <;> simp_all
  rw [hadd] at h1
  rw [h1]
  simp only [bytesOf, List.getElem_map, List.getElem_take, bv]
  rw [byte_of_wf (hwz _ (List.getElem_mem _))]
  simp [List.getD, List.getElem?_eq_getElem hj']

/-- WHAT A LAW's WALK IS TOLD OF A SLICE OF BYTES THAT CAME IN. -/
structure IsBs (w : World) (A : Option Addr) (n c : Nat) (bs : List UInt8) : Prop where
  len : bs.length = n
  le : n ≤ c
  max : c ≤ maxLen
  reads : Bs w w.heap.size A bs
theorem IsBs.rb {w : World} {A : Option Addr} {n c : Nat} {bs : List UInt8} (h : IsBs w A n c bs) : RB w A n bs := ⟨h.len, h.reads⟩
theorem IsBs.lim {w : World} {A : Option Addr} {n c : Nat} {bs : List UInt8} (h : IsBs w A n c bs) : n ≤ 9223372036854775807 := by
  have h1 := h.le
  have h2 := h.max
  unfold maxLen at h2
  omega

section
open Go.ChangeShapes Go.WideShapes Go.ChangeAt
theorem open_bs {H : Type} {enc : TypeId × Value → H} {P : Program} {w : World} {base : Nat} {held : Bool} {fuel : Nat} {t e : TypeId} {A : Option Addr} {n c : Nat} {d : DataW H} {p : List MemPlace}
    (ht : P.underlying t = some (.slice e)) (he : P.underlying e = some (.int .u8)) (hc : P.cellsOf e = 1) (hf : DataW.trod enc P w base (fun _ => true) held fuel t (Value.slice A n c).cells.toList = some (d, p)) :
    ∃ bs, IsBs w A n c bs := by
  rcases open_ints ht he hc hf with ⟨hcs, _⟩ | ⟨x, l, c', zs, hcs, _, hl, hm, hz, _, hcell, hwz⟩
  · simp [Value.cells] at hcs
    obtain ⟨rfl, rfl, rfl⟩ := hcs
    exact ⟨[], rfl, Nat.le_refl _, Nat.zero_le _, Bs.nil⟩
  · simp [Value.cells] at hcs
    obtain ⟨rfl, rfl, rfl⟩ := hcs
    have hzl : zs.length = c := by simpa using hz
    refine ⟨bytesOf (zs.take n), by simp [bytesOf]; omega, hl, hm, ?_⟩
    by_cases hz0 : 0 < zs.length
    · exact Bs.of_row hl hzl (fun y hy i hi => by cases hy; exact hcell i hi) (fun _ => ⟨_, rfl⟩) hwz (fun y hy => by
        cases hy
        have := World.block_lt_of_cell? w _ (hcell 0 hz0)
        rwa [show (x.add 0).block = x.block by simp [Addr.add]] at this)
    · have : n = 0 := by omega
      subst this
      exact fun h => absurd (by simp [bytesOf]) h
end
end Go.Proofs.YtbplchpbaonadaaDoor
