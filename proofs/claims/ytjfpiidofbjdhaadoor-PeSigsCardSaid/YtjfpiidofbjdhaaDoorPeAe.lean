/-
  pe: signatures that are made, one by one
-/
import Derived.Test.YtjfpiidofbjdhaaDoorPeY
namespace Go.Proofs.YtjfpiidofbjdhaaDoor
open Go.RowKit Go
set_option linter.unusedVariables false
set_option linter.unusedSimpArgs false
set_option maxRecDepth 100000
/-- The same shape with other signatures. -/
def Shp.withG (y : Shp) (V : Option Addr) (m c : Nat) (xs : List Own1) : Shp := ⟨y.plus, y.sA, y.sn, y.sc, y.stub, y.fA, y.fn, y.fc, y.fill, y.bA, y.bn, y.bc, y.bod, y.oA, y.on, y.oc, y.ord, y.hA, y.hn, y.hc, y.beh, V, m, c, xs⟩
/-- The loop that makes signatures: the shape's block g, all older than W2 stays. -/
structure SG (W2 : World) (y : Shp) (sig : List UInt8) (i : Nat) (V : Option Addr) (m c : Nat) (xs : List Own1) (W : World) : Prop where
  x : W.heap[W2.heap.size]? = some (.cells (y.withG V m c xs).cells 39)
  b : Below W2.heap.size W2 W
  row : OwnR W (W2.heap.size + 1) 22 1 V m c (xs.map Own1.val)
  so : SigsOwn (W2.heap.size + 1) xs W
  ml : m = i
  xl : xs.length = i
  by_ : xs.map (fun x => x.2.2.2) = (List.range i).map fun j => UInt8.ofNat j :: sig
theorem SG.below {W2 : World} {y : Shp} {sig : List UInt8} {i : Nat} {V : Option Addr} {m c : Nat} {xs : List Own1} {W W' : World} (h : SG W2 y sig i V m c xs W) (hb : Below W.heap.size W W') : SG W2 y sig i V m c xs W' :=
  ⟨has_below h.x hb, h.b.trans (hb.mono h.b.size), h.row.below hb (Nat.le_refl _), h.so.below hb, h.ml, h.xl, h.by_⟩
theorem SG.step {W2 : World} {y : Shp} {sig : List UInt8} {i : Nat} {V : Option Addr} {m c : Nat} {xs : List Own1} {W W4 : World} (h : SG W2 y sig i V m c xs W) {A9 : Option Addr} {k9 c9 : Nat} (ho9 : OwnB W (W2.heap.size + 1) A9 k9 c9 (UInt8.ofNat i :: sig)) (hk9 : k9 ≤ 16777216)
    (hf : ∀ x ∈ xs, ∀ g, blk x.1 = some g → ∀ g', blk A9 = some g' → g < g') {V' : Option Addr} {c' : Nat} (ho4 : OwnR W4 (W2.heap.size + 1) 22 1 V' (m + 1) c' (xs.map Own1.val ++ [.slice A9 k9 c9])) {o : Obj} (hg4 : (W.alloc o).grownBy W4 (blk V)) (hl4 : blk V' = blk V ∨ blk V' = some (W.alloc o).heap.size) (hWs : W2.heap.size + 1 ≤ W.heap.size) :
    SG W2 y sig (i + 1) V' (m + 1) c' (xs ++ [(A9, k9, c9, UInt8.ofNat i :: sig)]) (W4.setCell ⟨W2.heap.size, 6, none⟩ (.slice V' (m + 1) c')) ∧ W4.heap[W2.heap.size]? = some (.cells (y.withG V m c xs).cells 39) := by
  have hVb : ∀ g, blk V = some g → W2.heap.size + 1 ≤ g := fun g hg => (h.row.blk_lt hg).1
  have hV'b : ∀ g, blk V' = some g → W2.heap.size + 1 ≤ g := fun g hg => (ho4.blk_lt hg).1
  have ha : Below W.heap.size W (W.alloc o) := kp_alloc (Below.refl _ _) _
  have h1 := h.below ha
  have hx4 : W4.heap[W2.heap.size]? = some (.cells (y.withG V m c xs).cells 39) := (hg4.block _ (block_lt h1.x) (fun e => by have := hVb _ e.symm; omega)).trans h1.x
  have hs : (W4.setCell ⟨W2.heap.size, 6, none⟩ (.slice V' (m + 1) c')).heap[W2.heap.size]? = some (.cells ((y.withG V m c xs).cells.setIfInBounds 6 (.slice V' (m + 1) c')) 39) := heap_set_at _ _ 6 _ _ _ _ hx4
  have hg5 : W4.grownBy (W4.setCell ⟨W2.heap.size, 6, none⟩ (.slice V' (m + 1) c')) (some W2.heap.size) := grown_one W4 W2.heap.size 6 _
  have hso4 : SigsOwn (W2.heap.size + 1) xs W4 := h1.so.row h1.row hg4
  have ho94 : OwnB W4 (W2.heap.size + 1) A9 k9 c9 (UInt8.ofNat i :: sig) := (ho9.below ha (Nat.le_refl _)).kept hg4 (OwnR.ne (ho9.below ha (Nat.le_refl _)).row h1.row (by decide))
  have hlen : (xs.map Own1.val ++ [Value.slice A9 k9 c9]) = ((xs ++ [(A9, k9, c9, UInt8.ofNat i :: sig)]).map Own1.val) := by rw [List.map_append]; rfl
  refine ⟨⟨hs, ?_, ?_, ?_, by rw [h.ml], by simp [h.xl], ?_⟩, hx4⟩
  · have hb4 : Below W2.heap.size W2 W4 := h1.b.grown hg4 h1.b.size (fun q hq => by have := hVb q hq; omega)
    exact hb4.setCell (Nat.le_refl _) _
  · rw [← hlen]
    exact ho4.kept hg5 (by
      cases hk : blk V' with
      | none => exact .inl rfl
      | some g => exact .inr (fun e => by have h7 := hV'b g hk; have h8 : g = W2.heap.size := Option.some.inj e; omega))
  · refine ⟨fun x hx => ?_, ?_⟩
    · rcases List.mem_append.1 hx with hx | hx
      · refine ⟨(hso4.own x hx).1.kept hg5 ?_, (hso4.own x hx).2⟩
        cases hk : blk x.1 with
        | none => exact .inl rfl
        | some g => exact .inr (fun e => by have h7 := ((hso4.own x hx).1.blk_lt hk).1; have h8 : g = W2.heap.size := Option.some.inj e; omega)
      · rw [List.mem_singleton.1 hx]
        refine ⟨ho94.kept hg5 ?_, hk9⟩
        cases hk : blk A9 with
        | none => exact .inl rfl
        | some g => exact .inr (fun e => by have h7 := (ho94.blk_lt hk).1; have h8 : g = W2.heap.size := Option.some.inj e; omega)
    · rw [List.pairwise_append]
      refine ⟨h.so.far, List.pairwise_singleton _ _, fun x hx z hz => ?_⟩
      rw [List.mem_singleton.1 hz]
      cases hk : blk x.1 with
      | none => exact .inl rfl
      | some g => exact .inr (fun e => by
          have := hf x hx g hk g e.symm
          omega)
  · rw [List.map_append, h.by_, List.range_succ, List.map_append]
    rfl
theorem SG.shp {W2 : World} {y : Shp} {sig : List UInt8} {i : Nat} {V : Option Addr} {m c : Nat} {xs : List Own1} {W : World} (h : SG W2 y sig i V m c xs W) (hy : y.R W2) (hB : Brd y) (hi : i ≤ 20) (hs : sig.length ≤ 200) : (y.withG V m c xs).R W ∧ Brd0 (y.withG V m c xs) := by
  have hR := hy.below h.b
  have hlen : ∀ s ∈ xs.map (fun x => x.2.2.2), s.length = sig.length + 1 := by
    intro s hs
    rw [h.by_] at hs
    obtain ⟨j, _, rfl⟩ := List.mem_map.1 hs
    rfl
  obtain ⟨a1, a2, a3, a4, a5, a6⟩ := hB.s1
  refine ⟨⟨hR.s, hR.f, hR.b, hR.ol, hR.o, hR.h, ⟨h.xl.trans h.ml.symm, h.row.reads, fun x hx => (h.so.own x hx).1.rb⟩⟩, ⟨⟨a1, a2, a3, a4, a5, ?_⟩, hB.s2, fun z hz => ?_, hB.s4, ⟨hB.bd.s, hB.bd.f, hB.bd.n, hB.bd.b, hB.bd.h, ?_, fun s hs => ?_⟩, hB.nb, ?_, ?_⟩⟩
  · show m ≤ 20; rw [h.ml]; exact hi
  · have := hlen _ (List.mem_map_of_mem (f := fun z : Own1 => z.2.2.2) hz); omega
  · show (xs.map fun z => z.2.2.2).length ≤ 20; rw [List.length_map, h.xl]; exact hi
  · have := hlen s hs; omega
  · show m = (xs.map fun z => z.2.2.2).length; rw [List.length_map, h.xl, h.ml]
  · exact h.row.cap.1
end Go.Proofs.YtjfpiidofbjdhaaDoor
