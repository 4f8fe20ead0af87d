/-
  nat: slices of limbs: what is read, what a call owns of them, whole blocks.
-/
import Derived.Test.YtbplchpbaonadaaDoorNc
import Derived.Test.YtbplchpbaonadaaDoorRow
import Derived.Test.YtbplchpbaonadaaDoorSg
import Derived.Lib.Hide
namespace Go.Proofs.YtbplchpbaonadaaDoor
open Go.RowKit Go
set_option linter.unusedVariables false
set_option linter.unusedSimpArgs false
set_option maxRecDepth 100000
abbrev v32 (x : Nat) : Value := .int .u32 (x : Int)
theorem u32_row : RowT 49 59 1 4 (.int .u32 0) := ⟨Tryd.underlying49, by kernel_rfl, rfl, by decide⟩
theorem made_u32 (n : Nat) : (madeCells (Value.int .u32 0).cells (n * 1)).toList = (List.replicate n 0).map v32 := by
  rw [Nat.mul_one, show (Value.int .u32 0).cells = #[.int .u32 0] from rfl, toList_madeCells_one, List.map_replicate]
  rfl
/-- A slice that reads as limbs. -/
structure RU (w : World) (A : Option Addr) (n : Nat) (l : List Nat) : Prop where
  len : l.length = n
  rd : ReadR w A (l.map v32)
  lim : Lim l
section
variable {w w' : World} {A : Option Addr} {n c base : Nat} {l : List Nat}
theorem RU.below (h : RU w A n l) (hb : Below w.heap.size w w') : RU w' A n l := ⟨h.len, h.rd.below hb (Nat.le_refl _), h.lim⟩
theorem RU.below' (h : RU w A n l) {B : Nat} (hb : Below B w w') (hB : w.heap.size ≤ B) : RU w' A n l := ⟨h.len, h.rd.below hb hB, h.lim⟩
theorem RU.drew (h : RU w A n l) : RU w.drew A n l := ⟨h.len, h.rd, h.lim⟩
theorem RU.drewN (h : RU w A n l) (k : Nat) : RU (w.drewN k) A n l := ⟨h.len, h.rd, h.lim⟩
theorem RU.alloc (h : RU w A n l) (o : Obj) : RU (w.alloc o) A n l := ⟨h.len, h.rd.alloc o, h.lim⟩
theorem RU.nil (w : World) : RU w none 0 [] := ⟨rfl, ReadR.nil, Lim.nil⟩
theorem RU.at_ (h : RU w A n l) {j : Nat} (hj : j < n) : ∃ b off, A = some ⟨b, off, none⟩ ∧ b < w.heap.size ∧ w.cell? ⟨b, off + j, none⟩ = some (.int .u32 ((l.getD j 0 : Nat) : Int)) :=
  h.rd.at_ (j := j) (u := v32 (l.getD j 0)) (by rw [List.getElem?_map, getD_at (by rw [h.len]; exact hj)]; rfl)
/-- Where a slice of limbs lies, that is not empty: one address for all. -/
theorem RU.all (h : RU w A n l) (hn : 0 < n) : ∃ b off, A = some ⟨b, off, none⟩ ∧ b < w.heap.size ∧ ∀ j, j < n → w.cell? ⟨b, off + j, none⟩ = some (.int .u32 ((l.getD j 0 : Nat) : Int)) := by
  obtain ⟨b, off, e, hb, hc⟩ := h.rd (by intro e; have := h.len; rw [List.map_eq_nil_iff.1 e] at this; simp at this; omega)
  exact ⟨b, off, e, hb, fun j hj => hc j _ (by rw [List.getElem?_map, getD_at (by rw [h.len]; exact hj)]; rfl)⟩
/-- A whole block of limbs. -/
def BlkU (w : World) (g : Nat) (L : List Nat) : Prop := w.heap[g]? = some (.cells (L.map v32).toArray 59 (0, 0))
theorem BlkU.lt {g : Nat} {L : List Nat} (h : BlkU w g L) : g < w.heap.size := (Array.getElem?_eq_some_iff.1 h).1
theorem BlkU.below {g : Nat} {L : List Nat} (h : BlkU w g L) (hb : Below w.heap.size w w') : BlkU w' g L := (hb.block _ h.lt).trans h
theorem BlkU.below' {g : Nat} {L : List Nat} (h : BlkU w g L) {B : Nat} (hb : Below B w w') (hg : g < B) : BlkU w' g L := (hb.block _ hg).trans h
theorem BlkU.drew {g : Nat} {L : List Nat} (h : BlkU w g L) : BlkU w.drew g L := h
theorem BlkU.drewN {g : Nat} {L : List Nat} (h : BlkU w g L) (k : Nat) : BlkU (w.drewN k) g L := h
theorem BlkU.cell {g : Nat} {L : List Nat} (h : BlkU w g L) {j : Nat} (hj : j < L.length) : w.cell? ⟨g, j, none⟩ = some (.int .u32 ((L.getD j 0 : Nat) : Int)) := by
  rw [Lib.cell_of_heap h j]
  have : ((L.map v32).toArray)[j]? = some (v32 (L.getD j 0)) := by rw [List.getElem?_toArray, List.getElem?_map, getD_at hj]; rfl
  exact this
theorem BlkU.free {g : Nat} {L : List Nat} (h : BlkU w g L) (j : Nat) : w.frozen? ⟨g, j, none⟩ = false := Lib.frozen_of_heap h j
theorem BlkU.set {g : Nat} {L : List Nat} (h : BlkU w g L) (j x : Nat) : BlkU (w.setCell ⟨g, j, none⟩ (.int .u32 (x : Int))) g (L.set j x) := by
  have h1 := heap_set_at w g j _ _ _ (v32 x) h
  unfold BlkU
  rw [List.map_set]
  simpa using h1
theorem BlkU.far {g k j : Nat} {L : List Nat} {u : Value} (h : BlkU w g L) (hne : g ≠ k) : BlkU (w.setCell ⟨k, j, none⟩ u) g L := has_set h hne
theorem BlkU.ru {g : Nat} {L : List Nat} (h : BlkU w g L) (hl : Lim L) (off m : Nat) (hm : off + m ≤ L.length) : RU w (some ⟨g, off, none⟩) m ((L.drop off).take m) := by
  refine ⟨by rw [List.length_take, List.length_drop]; omega, fun _ => ⟨g, off, rfl, h.lt, fun j u hu => ?_⟩, (hl.drop _).take _⟩
  rw [List.getElem?_map, List.getElem?_take] at hu
  by_cases hj : j < m
  · rw [if_pos hj, List.getElem?_drop, getD_at (show off + j < L.length by omega)] at hu
    rw [h.cell (show off + j < L.length by omega)]
    exact hu
  · rw [if_neg hj] at hu
    cases hu
theorem BlkU.of_own {g : Nat} {L : List Nat} (h : OwnR w base 59 1 (some ⟨g, 0, none⟩) n n (L.map v32)) : BlkU w g L ∧ base ≤ g ∧ L.length = n := by
  have hl := h.1
  rcases h.2 with ⟨hv, _⟩ | ⟨g', cap, cur, hv, hb, hh, h1, h2, h3, h4⟩
  · cases hv
  · injection hv with e1 e2 e3
    injection e1 with e1
    injection e1 with e1
    subst e1; subst e3
    refine ⟨?_, hb, by simpa using hl⟩
    rw [List.take_of_length_le (by rw [Array.length_toList, h3]; omega)] at h4
    unfold BlkU
    rw [hh, ← h4]
/-- Limbs in a block of the call's own, or none. -/
def NumS (w : World) (base : Nat) (A : Option Addr) (n : Nat) (l : List Nat) : Prop :=
  l.length = n ∧ Lim l ∧ ((A = none ∧ l = []) ∨ ∃ g L, A = some ⟨g, 0, none⟩ ∧ base ≤ g ∧ BlkU w g L ∧ L.take n = l)
theorem NumS.nil (w : World) (base : Nat) : NumS w base none 0 [] := ⟨rfl, Lim.nil, .inl ⟨rfl, rfl⟩⟩
theorem NumS.of {g : Nat} {L : List Nat} (h : BlkU w g L) (hb : base ≤ g) (hl : Lim L) {m : Nat} (hm : m ≤ L.length) {r : List Nat} (hr : L.take m = r) : NumS w base (some ⟨g, 0, none⟩) m r := by
  subst hr
  exact ⟨by rw [List.length_take]; omega, hl.take _, .inr ⟨g, L, rfl, hb, h, rfl⟩⟩
theorem NumS.below (h : NumS w base A n l) (hb : Below w.heap.size w w') : NumS w' base A n l := by
  obtain ⟨h1, h2, h3⟩ := h
  refine ⟨h1, h2, ?_⟩
  rcases h3 with h3 | ⟨g, L, e, h4, h5, h6⟩
  · exact .inl h3
  · exact .inr ⟨g, L, e, h4, h5.below hb, h6⟩
theorem NumS.lower (h : NumS w base A n l) {base' : Nat} (hb : base' ≤ base) : NumS w base' A n l := by
  obtain ⟨h1, h2, h3⟩ := h
  refine ⟨h1, h2, ?_⟩
  rcases h3 with h3 | ⟨g, L, e, h4, h5, h6⟩
  · exact .inl h3
  · exact .inr ⟨g, L, e, by omega, h5, h6⟩
theorem NumS.ru (h : NumS w base A n l) : RU w A n l := by
  obtain ⟨h1, h2, h3⟩ := h
  rcases h3 with ⟨rfl, rfl⟩ | ⟨g, L, rfl, h4, h5, h6⟩
  · subst h1; exact RU.nil w
  · have hn : n ≤ L.length := by
      rw [← h1, ← h6, List.length_take]; omega
    refine ⟨h1, fun _ => ⟨g, 0, rfl, h5.lt, fun j u hu => ?_⟩, h2⟩
    rw [List.getElem?_map] at hu
    have hj : j < l.length := by
      rcases Nat.lt_or_ge j l.length with h7 | h7
      · exact h7
      · rw [List.getElem?_eq_none h7] at hu; cases hu
    rw [Nat.zero_add, h5.cell (show j < L.length by omega)]
    rw [← h6, List.getElem?_take, if_pos (by omega), getD_at (show j < L.length by omega)] at hu
    exact hu
end
/-- WHAT A LAW's WALK IS TOLD OF A SLICE OF LIMBS THAT CAME IN. -/
structure IsUs (w : World) (A : Option Addr) (n c : Nat) (l : List Nat) : Prop where
  ru : RU w A n l
  le : n ≤ c
  max : c ≤ maxLen
section
open Go.ChangeShapes Go.WideShapes Go.ChangeAt
theorem open_us {H : Type} {enc : TypeId × Value → H} {P : Program} {w : World} {base : Nat} {held : Bool} {fuel : Nat} {t e : TypeId} {A : Option Addr} {n c : Nat} {d : DataW H} {p : List MemPlace}
    (ht : P.underlying t = some (.slice e)) (he : P.underlying e = some (.int .u32)) (hc : P.cellsOf e = 1) (hf : DataW.trod enc P w base (fun _ => true) held fuel t (Value.slice A n c).cells.toList = some (d, p)) :
    ∃ xs, IsUs w A n c xs := by
  rcases open_ints ht he hc hf with ⟨hcs, _⟩ | ⟨x, l, c', zs, hcs, _, hl, hm, hz, _, hcell, hwz⟩
  · simp [Value.cells] at hcs
    obtain ⟨rfl, rfl, rfl⟩ := hcs
    exact ⟨[], RU.nil w, Nat.le_refl _, Nat.zero_le _⟩
  · simp [Value.cells] at hcs
    obtain ⟨rfl, rfl, rfl⟩ := hcs
    have hzl : zs.length = c := by simpa using hz
    have hnat : ∀ (j : Nat) (h : j < zs.length), ((zs[j].toNat : Nat) : Int) = zs[j] ∧ zs[j].toNat < 4294967296 := fun j h => by
      have h2 := bounds_u32 (hwz _ (List.getElem_mem h))
      omega
    refine ⟨(zs.take n).map Int.toNat, ⟨by simp; omega, ?_, ?_⟩, hl, hm⟩
    · intro hne
      have hz0 : 0 < zs.length := by
        rcases Nat.eq_zero_or_pos zs.length with h | h
        · exfalso
          apply hne
          rw [List.eq_nil_of_length_eq_zero h]; simp
        · exact h
      obtain ⟨g, off, spot⟩ := x
      have h0 := hcell 0 hz0
      have hsp : spot = none := by simpa [Addr.add] using World.cell?_spot h0
      subst hsp
      refine ⟨g, off, rfl, by have := World.block_lt_of_cell? w _ h0; simpa [Addr.add] using this, fun j u hu => ?_⟩
      rw [List.getElem?_map, List.getElem?_map, List.getElem?_take] at hu
      have hj : j < n := by
        rcases Nat.lt_or_ge j n with h | h
        · exact h
        · rw [if_neg (by omega)] at hu; simp at hu
      have hj2 : j < zs.length := by omega
      rw [if_pos hj, List.getElem?_eq_getElem hj2] at hu
      simp at hu
      have h1 := hcell j hj2
      have hadd : (⟨g, off, none⟩ : Addr).add j = ⟨g, off + j, none⟩ := by unfold Addr.add; split <;> simp_all
      rw [hadd, List.getD_eq_getElem?_getD, List.getElem?_eq_getElem hj2] at h1
      rw [h1, ← hu]
      show some (Value.int IntKind.u32 (zs[j])) = some (Value.int IntKind.u32 ((zs[j].toNat : Nat) : Int))
      rw [(hnat j hj2).1]
    · intro x hx
      obtain ⟨y, hy, rfl⟩ := List.mem_map.1 hx
      obtain ⟨j, hj, he⟩ := List.getElem_of_mem (List.mem_of_mem_take hy)
      rw [← he]
      exact (hnat j hj).2
theorem open_s49 {H : Type} {enc : TypeId × Value → H} {w : World} {A : Option Addr} {n c : Nat} {d : DataW H} {p : List MemPlace} (h : DataW.Trod enc Tryd.prog w 0 (fun _ => true) true 49 (.slice A n c) d p) : ∃ xs, IsUs w A n c xs := by
  obtain ⟨fuel, hf⟩ := h
  exact open_us Tryd.underlying49 Tryd.underlying59 (by kernel_rfl) hf
end
end Go.Proofs.YtbplchpbaonadaaDoor
