/-
  pe: a shape that came in.
-/
import Derived.Test.YtcedojmhgmgcgaaDoorMp3
import Derived.Test.YtcedojmhgmgcgaaDoorBytes
import Derived.Test.YtcedojmhgmgcgaaDoorRows2
import Derived.Deep.Matrix
import Derived.Lib.SmallJoins
import Derived.OpenShut
import Derived.Deep.Slices
import Derived.Deep.MidRow
import Derived.Test.YtcedojmhgmgcgaaDoorMp8
import Derived.Test.YtcedojmhgmgcgaaDoorMp8
import Derived.Test.YtcedojmhgmgcgaaDoorMp6
import Derived.Test.YtcedojmhgmgcgaaDoorMp7
import Derived.Test.YtcedojmhgmgcgaaDoorRows
import Derived.MakeChecks
namespace Go.Proofs.YtcedojmhgmgcgaaDoor
open Go.RowKit Go
set_option linter.unusedVariables false
set_option linter.unusedSimpArgs false
set_option maxRecDepth 100000
/-- What a law's walk is told of a shape that came in. -/
structure IsShp (w : World) (x : Shp) : Prop where
  r : x.R w
  lc : x.sn ≤ x.sc ∧ x.fn ≤ x.fc ∧ x.hn ≤ x.hc ∧ x.on ≤ x.oc
  cc : x.sc ≤ 9223372036854775807 ∧ x.fc ≤ 9223372036854775807 ∧ x.hc ≤ 9223372036854775807 ∧ x.oc ≤ 9223372036854775807
  bc : ∀ y ∈ x.bod, y.2.1 ≤ y.2.2.1 ∧ y.2.2.1 ≤ 9223372036854775807
  gc : ∀ y ∈ x.sig, y.2.1 ≤ y.2.2.1 ∧ y.2.2.1 ≤ 9223372036854775807
  bn : x.bn ≤ 9223372036854775807 ∧ x.gn ≤ 9223372036854775807
  oi : ∀ z ∈ x.ord, -9223372036854775808 ≤ z ∧ z ≤ 9223372036854775807
def Shp.val (x : Shp) : Value := .agg x.cells
theorem rows_list {w : World} {A : Option Addr} {n c : Nat} {X : Nat → Option Addr × Nat × Nat} {bss : Nat → List UInt8} (h : IsRows w A n c X bss) :
    ∃ xs : List Own1, RowsR w A n xs ∧ ∀ y ∈ xs, y.2.1 ≤ y.2.2.1 ∧ y.2.2.1 ≤ 9223372036854775807 := by
  have H : ∀ r, r < n → IsBs w (X r).1 (X r).2.1 (X r).2.2 (bss r) := fun r hr => by
    obtain ⟨b, off, _, _, h1⟩ := h.rows (by omega)
    exact (h1 r hr).2
  refine ⟨(List.range n).map fun r => ((X r).1, (X r).2.1, (X r).2.2, bss r), ⟨by simp, ?_, ?_⟩, ?_⟩
  · intro hne
    have hn : 0 < n := by
      rcases Nat.eq_zero_or_pos n with h0 | h0
      · exfalso; apply hne; rw [h0]; rfl
      · exact h0
    obtain ⟨b, off, e, hb, h1⟩ := h.rows hn
    refine ⟨b, off, e, hb, fun j u hu => ?_⟩
    have hj : j < n := by
      rcases Nat.lt_or_ge j n with h2 | h2
      · exact h2
      · rw [List.getElem?_eq_none (by simpa using h2)] at hu; cases hu
    rw [List.getElem?_map, List.getElem?_map, List.getElem?_range hj] at hu
    have := (h1 j hj).1
    rw [this, ← hu]
    rfl
  · intro x hx
    obtain ⟨r, hr, rfl⟩ := List.mem_map.1 hx
    exact (H r (List.mem_range.1 hr)).rb
  · intro x hx
    obtain ⟨r, hr, rfl⟩ := List.mem_map.1 hx
    have h1 := H r (List.mem_range.1 hr)
    exact ⟨h1.le, by have := h1.max; unfold maxLen at this; omega⟩
section
open Go.ChangeShapes Go.WideShapes Go.ChangeAt Go.Joins
theorem slice_any {H : Type} {enc : TypeId × Value → H} {W : World} {base n : Nat} {sp : Nat → Bool} {c : Value} {t e : TypeId} {x : DataW H × List MemPlace} (ht : Tryd.prog.underlying t = some (.slice e)) (h : DataW.trod enc Tryd.prog W base sp true n t [c] = some x) : ∃ A n k, c = Value.slice A n k := by
  rcases DataW.trod_slice ht h with ⟨e, _⟩ | ⟨a, l, k, _, _, _, _, e, _⟩
  · injection e with e _; exact ⟨_, _, _, e⟩
  · injection e with e _; exact ⟨_, _, _, e⟩
theorem open_is {H : Type} {enc : TypeId × Value → H} {w : World} {base : Nat} {held : Bool} {fuel : Nat} {A : Option Addr} {n c : Nat} {d : DataW H} {p : List MemPlace}
    (hf : DataW.trod enc Tryd.prog w base (fun _ => true) held fuel 40 (Value.slice A n c).cells.toList = some (d, p)) :
    ∃ zs : List Int, zs.length = n ∧ n ≤ c ∧ c ≤ 9223372036854775807 ∧ ReadR w A (zs.map (Value.int .i64)) ∧ ∀ z ∈ zs, -9223372036854775808 ≤ z ∧ z ≤ 9223372036854775807 := by
  have hc : Tryd.prog.cellsOf 3 = 1 := by kernel_rfl
  rcases open_ints Tryd.underlying40 Tryd.underlying3 hc hf with ⟨hcs, _⟩ | ⟨x, l, c', zs, hcs, _, hl, hm, hz, _, hcell, hwz⟩
  · simp [Value.cells] at hcs
    obtain ⟨rfl, rfl, rfl⟩ := hcs
    exact ⟨[], rfl, Nat.le_refl _, by omega, fun h => absurd rfl h, fun z hz => by cases hz⟩
  · simp [Value.cells] at hcs
    obtain ⟨rfl, rfl, rfl⟩ := hcs
    have hzl : zs.length = c := by simpa using hz
    refine ⟨zs.take n, by rw [List.length_take]; omega, hl, by unfold maxLen at hm; omega, ?_, fun z hz => bounds_i64 (hwz _ (List.mem_of_mem_take hz))⟩
    intro hne
    have hz0 : 0 < zs.length := by
      rcases Nat.eq_zero_or_pos zs.length with h | h
      · exfalso
        apply hne
        rw [List.eq_nil_of_length_eq_zero h]; simp
      · exact h
    obtain ⟨g, off, spot⟩ := x
    have h0 := hcell 0 hz0
    have hsp : spot = none := by simpa [Addr.add] using World.cell?_spot h0
    subst hsp
    refine ⟨g, off, rfl, by have := World.block_lt_of_cell? w _ h0; simpa [Addr.add] using this, fun j u hu => ?_⟩
    rw [List.getElem?_map, List.getElem?_take] at hu
    have hj : j < n := by
      rcases Nat.lt_or_ge j n with h | h
      · exact h
      · rw [if_neg (by omega)] at hu; simp at hu
    have hj2 : j < zs.length := by omega
    rw [if_pos hj, List.getElem?_eq_getElem hj2] at hu
    simp at hu
    have h1 := hcell j hj2
    have hadd : (⟨g, off, none⟩ : Addr).add j = ⟨g, off + j, none⟩ := by unfold Addr.add; split <;> simp_all
    rw [hadd, List.getD_eq_getElem?_getD, List.getElem?_eq_getElem hj2] at h1
    rw [h1, ← hu]
    rfl
theorem trod_shp {H : Type} {enc : TypeId × Value → H} {W : World} {fuel : Nat} {l : List Value} {x : DataW H × List MemPlace} (hf : DataW.trod enc Tryd.prog W 0 (fun _ => true) true fuel 42 l = some x) : ∃ o : Shp, l = o.cells.toList ∧ IsShp W o := by
  obtain ⟨xs, n, _, _, hcl, hlen, hg⟩ := DataW.trod_struct Tryd.underlying42 hf
  have hsz6 : l.length = 7 := hcl.trans (by kernel_rfl)
  match l, hsz6 with
  | [c0, c1, c2, c3, c4, c5, c6], _ =>
    match xs, hlen with
    | [y0, y1, y2, y3, y4, y5, y6], _ =>
      have g0 : DataW.trod enc Tryd.prog W 0 (fun _ => true) true n 4 [c0] = some y0 := by simpa [Value.cells, show Tryd.prog.cellsOf 4 = 1 by kernel_rfl] using hg 0 _ rfl
      have g1 : DataW.trod enc Tryd.prog W 0 (fun _ => true) true n 22 [c1] = some y1 := by simpa [Value.cells, show Tryd.prog.cellsOf 22 = 1 by kernel_rfl] using hg 1 _ rfl
      have g2 : DataW.trod enc Tryd.prog W 0 (fun _ => true) true n 22 [c2] = some y2 := by simpa [Value.cells, show Tryd.prog.cellsOf 22 = 1 by kernel_rfl] using hg 2 _ rfl
      have g3 : DataW.trod enc Tryd.prog W 0 (fun _ => true) true n 31 [c3] = some y3 := by simpa [Value.cells, show Tryd.prog.cellsOf 31 = 1 by kernel_rfl] using hg 3 _ rfl
      have g4 : DataW.trod enc Tryd.prog W 0 (fun _ => true) true n 40 [c4] = some y4 := by simpa [Value.cells, show Tryd.prog.cellsOf 40 = 1 by kernel_rfl] using hg 4 _ rfl
      have g5 : DataW.trod enc Tryd.prog W 0 (fun _ => true) true n 22 [c5] = some y5 := by simpa [Value.cells, show Tryd.prog.cellsOf 22 = 1 by kernel_rfl] using hg 5 _ rfl
      have g6 : DataW.trod enc Tryd.prog W 0 (fun _ => true) true n 31 [c6] = some y6 := by simpa [Value.cells, show Tryd.prog.cellsOf 31 = 1 by kernel_rfl] using hg 6 _ rfl
      obtain ⟨z0, e0, _⟩ := DataW.trod_bool Tryd.underlying4 g0
      injection e0 with e0 _
      obtain ⟨A1, n1, k1, rfl⟩ := slice_any Tryd.underlying22 g1
      obtain ⟨A2, n2, k2, rfl⟩ := slice_any Tryd.underlying22 g2
      obtain ⟨A3, n3, k3, rfl⟩ := slice_any Tryd.underlying31 g3
      obtain ⟨A4, n4, k4, rfl⟩ := slice_any Tryd.underlying40 g4
      obtain ⟨A5, n5, k5, rfl⟩ := slice_any Tryd.underlying22 g5
      obtain ⟨A6, n6, k6, rfl⟩ := slice_any Tryd.underlying31 g6
      obtain ⟨b1, B1⟩ := open_bs Tryd.underlying22 Tryd.underlying5 (by kernel_rfl) (show DataW.trod enc Tryd.prog W 0 (fun _ => true) true n 22 (Value.slice A1 n1 k1).cells.toList = some (y1.1, y1.2) by simpa [Value.cells] using g1)
      obtain ⟨b2, B2⟩ := open_bs Tryd.underlying22 Tryd.underlying5 (by kernel_rfl) (show DataW.trod enc Tryd.prog W 0 (fun _ => true) true n 22 (Value.slice A2 n2 k2).cells.toList = some (y2.1, y2.2) by simpa [Value.cells] using g2)
      obtain ⟨b5, B5⟩ := open_bs Tryd.underlying22 Tryd.underlying5 (by kernel_rfl) (show DataW.trod enc Tryd.prog W 0 (fun _ => true) true n 22 (Value.slice A5 n5 k5).cells.toList = some (y5.1, y5.2) by simpa [Value.cells] using g5)
      obtain ⟨b4, B4l, B4c, B4m, B4r, B4i⟩ := open_is (show DataW.trod enc Tryd.prog W 0 (fun _ => true) true n 40 (Value.slice A4 n4 k4).cells.toList = some (y4.1, y4.2) by simpa [Value.cells] using g4)
      obtain ⟨X3, s3, B3⟩ := open_rows (enc := enc) (d := y3.1) (p := y3.2) Tryd.underlying31 Tryd.underlying22 Tryd.underlying5 (by kernel_rfl) (by kernel_rfl) ⟨n, by simpa [Value.cells] using g3⟩
      obtain ⟨X6, s6, B6⟩ := open_rows (enc := enc) (d := y6.1) (p := y6.2) Tryd.underlying31 Tryd.underlying22 Tryd.underlying5 (by kernel_rfl) (by kernel_rfl) ⟨n, by simpa [Value.cells] using g6⟩
      obtain ⟨b3, R3, L3⟩ := rows_list B3
      obtain ⟨b6, R6, L6⟩ := rows_list B6
      have M1 := B1.max
      have M2 := B2.max
      have M5 := B5.max
      have M3 := B3.lim
      have M6 := B6.lim
      unfold maxLen at M1 M2 M5
      refine ⟨⟨z0, A1, n1, k1, b1, A2, n2, k2, b2, A3, n3, k3, b3, A4, n4, k4, b4, A5, n5, k5, b5, A6, n6, k6, b6⟩, ?_, ?_⟩
      · unfold Shp.cells
        rw [e0]
      · exact ⟨⟨B1.rb, B2.rb, R3, B4l, B4r, B5.rb, R6⟩, ⟨B1.le, B2.le, B5.le, B4c⟩, ⟨by omega, by omega, by omega, B4m⟩, L3, L6, ⟨M3, M6⟩, B4i⟩
theorem open_p42 {H : Type} {enc : TypeId × Value → H} {W : World} {r : Reach} {b0 : Nat} {v : Value} {d : DataW H} {p : List MemPlace} (hv : Value.okWide Tryd.prog W r b0 42 v)
    (h : DataW.Trod enc Tryd.prog W 0 (fun _ => true) true 42 v d p) : ∃ x : Shp, v = x.val ∧ IsShp W x := by
  obtain ⟨cs, rfl, hsz⟩ := okWide_struct Tryd.underlying42 hv
  obtain ⟨fuel, hf⟩ := h
  obtain ⟨o, ho, hi⟩ := trod_shp (l := cs.toList) (x := (d, p)) (by simpa [Value.cells] using hf)
  refine ⟨o, ?_, hi⟩
  unfold Shp.val
  congr 1
  exact Array.toList_inj.1 ho
end
end Go.Proofs.YtcedojmhgmgcgaaDoor
namespace Go.Proofs.YtcedojmhgmgcgaaDoor
open Go.RowKit Go
set_option linter.unusedVariables false
set_option linter.unusedSimpArgs false
set_option maxRecDepth 100000
/-- WHAT THE ROWS' CONDITION GIVES THE WALKS. -/
theorem of_laid {W : World} (h : laidMetH Tryd.prog Rows.measureCoversRow.laid W) : Sizes W := by
  rw [MakeChecks.laidMetH_plain _ _ _ (by kernel_rfl)] at h
  have ht : Lib.TabIs Tryd.prog W "lintel/octet.sizes" .i64 sizesZ :=
    Lib.tabIs_of_head (rest := []) g_sizes (show (Tryd.prog.globals[0]?).map (·.type) = some 146 by kernel_rfl) Tryd.underlying146 Tryd.underlying3 (by kernel_rfl) (by kernel_rfl) h
  exact ⟨by have := World.var?_cell g_sizes ht 0; have := World.block_lt_of_cell? W _ (this.trans (show _ = some (.int .i64 1) from rfl)); exact this, ht⟩
/-- What is known of a shape of which an image is made here. -/
structure Brd0 (y : Shp) : Prop where
  s1 : y.sn ≤ 1000 ∧ y.fn ≤ 1000 ∧ y.hn ≤ 1000 ∧ y.bn ≤ 20 ∧ y.on ≤ 100 ∧ y.gn ≤ 20
  s2 : ∀ z ∈ y.bod, z.2.2.2.length ≤ 1000
  s3 : ∀ z ∈ y.sig, z.2.2.2.length ≤ 400
  s4 : ∀ z ∈ y.ord, -9223372036854775808 ≤ z ∧ z ≤ 9223372036854775807
  bd : BD y.stub y.fill (y.bod.map fun z => z.2.2.2) y.beh (y.sig.map fun z => z.2.2.2)
  nb : y.bn = (y.bod.map fun z => z.2.2.2).length
  ng : y.gn = (y.sig.map fun z => z.2.2.2).length
  gc : y.gn ≤ y.gc
/-- What is known of a shape that was brought. -/
structure Brd (y : Shp) : Prop extends Brd0 y where
  g8 : y.gn ≤ 8
theorem bringB_len (l : List (List UInt8)) : 1 ≤ (bringB l).length ∧ (bringB l).length ≤ 10 ∧ ∀ s ∈ bringB l, s.length ≤ 300 := by
  unfold bringB
  split
  · exact ⟨by decide, by decide, fun s hs => by simp at hs; subst hs; decide⟩
  · rename_i h
    have : 0 < l.length := List.length_pos_iff.2 h
    refine ⟨by simp; omega, by simp; omega, fun s hs => ?_⟩
    obtain ⟨z, _, rfl⟩ := List.mem_map.1 hs
    rw [List.length_take]; omega
theorem bringS_len (l : List (List UInt8)) : (bringS l).length ≤ 8 ∧ ∀ s ∈ bringS l, 1 ≤ s.length ∧ s.length ≤ 301 := by
  unfold bringS
  refine ⟨by simp; omega, fun s hs => ?_⟩
  obtain ⟨z, _, rfl⟩ := List.mem_map.1 hs
  rw [List.length_cons, List.length_take]; omega
theorem brd {x y : Shp} {w W : World} (hx : IsShp w x) (hy : y.R W) (hst : y.stub = x.stub.take 200) (hfi : y.fill = x.fill.take 200) (hbe : y.beh = x.beh.take 500) (hor : y.ord = x.ord.take 20)
    (hbo : y.bod.map (fun z => z.2.2.2) = bringB (x.bod.map fun z => z.2.2.2)) (hsi : y.sig.map (fun z => z.2.2.2) = bringS (x.sig.map fun z => z.2.2.2)) (hgc : y.gn ≤ y.gc) : Brd y := by
  have a1 := hy.s.1; have a2 := hy.f.1; have a3 := hy.h.1; have a4 := hy.ol; have a5 := hy.b.l; have a6 := hy.g.l
  have b1 := bringB_len (x.bod.map fun z => z.2.2.2)
  have b2 := bringS_len (x.sig.map fun z => z.2.2.2)
  rw [← hbo] at b1
  rw [← hsi] at b2
  have c1 := congrArg List.length hst; have c2 := congrArg List.length hfi; have c3 := congrArg List.length hbe; have c4 := congrArg List.length hor
  rw [List.length_take] at c1 c2 c3 c4
  have d1 := b1.1; have d2 := b1.2.1; have d3 := b2.1
  rw [List.length_map] at d1 d2 d3
  refine ⟨⟨by omega, fun z hz => ?_, fun z hz => ?_, fun z hz => ?_, ⟨by omega, by omega, ⟨by rw [List.length_map]; omega, by rw [List.length_map]; omega⟩, b1.2.2, by omega, by rw [List.length_map]; omega, b2.2⟩, by rw [List.length_map]; omega, by rw [List.length_map]; omega, hgc⟩, by omega⟩
  · have := b1.2.2 _ (List.mem_map_of_mem (f := fun z : Own1 => z.2.2.2) hz)
    omega
  · have := b2.2 _ (List.mem_map_of_mem (f := fun z : Own1 => z.2.2.2) hz)
    omega
  · rw [hor] at hz
    exact hx.oi z (List.mem_of_mem_take hz)
/-- The same shape with its first signature alone. -/
def Shp.one (y : Shp) : Shp := ⟨y.plus, y.sA, y.sn, y.sc, y.stub, y.fA, y.fn, y.fc, y.fill, y.bA, y.bn, y.bc, y.bod, y.oA, y.on, y.oc, y.ord, y.hA, y.hn, y.hc, y.beh, y.gA, 1, y.gc, y.sig.take 1⟩
theorem Shp.one_R {y : Shp} {W : World} (h : y.R W) (h1 : 1 ≤ y.gn) : y.one.R W := by
  refine ⟨h.s, h.f, h.b, h.ol, h.o, h.h, ⟨?_, ?_, fun x hx => h.g.rb x (List.mem_of_mem_take hx)⟩⟩
  · have := h.g.l
    show (y.sig.take 1).length = 1
    rw [List.length_take]; omega
  · show ReadR W y.gA ((y.sig.take 1).map Own1.val)
    rw [List.map_take]
    exact readR_take h.g.row 1
theorem Brd.one {y : Shp} (h : Brd y) (h1 : 1 ≤ y.gn) : Brd y.one := by
  have e : y.one.sig.map (fun z => z.2.2.2) = (y.sig.map fun z => z.2.2.2).take 1 := by
    show (y.sig.take 1).map _ = _
    rw [List.map_take]
  have hl : (y.one.sig.map (fun z => z.2.2.2)).length = 1 := by
    rw [e, List.length_take, ← h.ng]; omega
  obtain ⟨a1, a2, a3, a4, a5, a6⟩ := h.s1
  refine ⟨⟨⟨a1, a2, a3, a4, a5, by show 1 ≤ 20; omega⟩, h.s2, fun z hz => h.s3 z (List.mem_of_mem_take hz), h.s4, ⟨h.bd.s, h.bd.f, h.bd.n, h.bd.b, h.bd.h, by rw [hl]; omega, fun s hs => ?_⟩, h.nb, by rw [hl]; rfl, ?_⟩, by show 1 ≤ 8; omega⟩
  · rw [e] at hs
    exact h.bd.gs s (List.mem_of_mem_take hs)
  · have := h.gc
    show 1 ≤ y.gc
    omega
/-- What Parse answers, whatever it is: an image's cells, and an error. -/
theorem parse_abs {w w' : World} {bs : List UInt8} {e : Ending} (h : ParsePost w bs e w') : ∃ (hv tv lv : Nat) (pv cv dv : Value) (V : Option Addr) (m cV : Nat) (U : Option Addr) (k cU : Nat) (er : Nat), e = .returned (.tuple #[.agg #[pv, cv, dv, .int .u32 (hv : Nat), .slice V m cV, .int .u32 (tv : Nat), .int .u32 (lv : Nat), .slice U k cU], .int .i64 (er : Nat)]) ∧ Below w.heap.size w w' ∧
    pv.oneCell' = true ∧ cv.oneCell' = true ∧ dv.oneCell' = true ∧
    ((er = 0 ∧ ∃ im xs, parseQ bs = .inr im ∧ ImRd im V m cV U k cU xs w' ∧ im.hdr = hv ∧ im.table = tv ∧ im.length = lv ∧ pv = .bool im.plus ∧ cv = .int .i64 (im.check : Nat) ∧ dv = .int .i64 (im.dir : Nat)) ∨ (er ≠ 0 ∧ er ≤ 10 ∧ parseQ bs = .inl er)) := by
  obtain ⟨h1, h2⟩ := h
  cases hp : parseQ bs with
  | inl er =>
    rw [hp] at h1
    obtain rfl : e = .returned (.tuple #[.agg imZero, .int .i64 (er : Nat)]) := h1
    have her := parse_err hp
    exact ⟨0, 0, 0, .bool false, .int .i64 0, .int .i64 0, none, 0, 0, none, 0, 0, er, rfl, h2, rfl, rfl, rfl, .inr ⟨by rcases her with rfl | rfl <;> decide, by rcases her with rfl | rfl <;> decide, rfl⟩⟩
  | inr im =>
    rw [hp] at h1
    obtain ⟨V, m, cV, U, k, cU, xs, rfl, ho⟩ := h1
    exact ⟨im.hdr, im.table, im.length, .bool im.plus, .int .i64 (im.check : Nat), .int .i64 (im.dir : Nat), V, m, cV, U, k, cU, 0, rfl, h2, rfl, rfl, rfl, .inl ⟨rfl, im, xs, rfl, ho.rd, rfl, rfl, rfl, rfl, rfl, rfl⟩⟩
theorem im_one {pv cv dv : Value} (h1 : pv.oneCell' = true) (h2 : cv.oneCell' = true) (h3 : dv.oneCell' = true) (hv tv lv : Nat) (V : Option Addr) (m cV : Nat) (U : Option Addr) (k cU : Nat) :
    (#[pv, cv, dv, .int .u32 (hv : Nat), .slice V m cV, .int .u32 (tv : Nat), .int .u32 (lv : Nat), .slice U k cU] : Array Value).all Value.oneCell' = true := by
  simp
  exact ⟨h1, h2, h3, rfl, rfl, rfl, rfl, rfl⟩
theorem quiet_load {P : Program} {ops : Array Oper} {C : World → Prop} {Q : Act → Prop} {a : Act} {o : Oper} {rest : List Oper} (hw : Region.wanted o (yielded ops a.tmps) = true) (ty : TypeId) (x : Operand) (ho : o.op = .load ty x) (g : Nat) (hx : a.eval x = .pointer (some ⟨g, 0, none⟩)) (cs : Array Value)
    (hl : ∀ w, C w → (Instr.loadAt ty (.pointer (some ⟨g, 0, none⟩))).run P w = .ok (.agg cs) w) (h : wpQuiet P ops C Q rest (a.put o.dst (.agg cs))) : wpQuiet P ops C Q (o :: rest) a :=
  wpQuiet_step fun K hK => by
    rw [if_pos hw]
    refine ⟨.agg cs, fun w hc => ?_, hK _ h⟩
    unfold Oper.quietAt execOp
    simp only [ho, Sem.run_bind, Sem.run_pure, Result.andThen_ok, hx, hl w hc]
    exact ⟨rfl, rfl⟩
theorem load_im {W1 : World} {g : Nat} {cs : Array Value} {t : TypeId} {fr : Nat × Nat} (hg : W1.heap[g]? = some (.cells cs t fr)) (hi : (Tryd.prog.info? 33).map (·.size) = some cs.size) : ∀ W, (∃ x : Up W1, W = x.w) → (Instr.loadAt 33 (.pointer (some ⟨g, 0, none⟩))).run Tryd.prog W = .ok (.agg cs) W := by
  rintro W ⟨x, rfl⟩
  simp only [Instr.loadAt, Instr.sureAddr, Sem.run_bind, Sem.run_pure, Result.andThen_ok]
  exact run_loadVar_row _ g t 33 cs fr _ (x.heap hg) Tryd.underlying33 rfl hi
theorem wpList_load_rowG {P : Program} {ops : Array Oper} {rest : List Oper} {o : Oper} {a : Act} {w : World} {Q : Exit → Act → World → Prop} (hw : Region.wanted o (yielded ops a.tmps) = true) (ty : TypeId) (x : Operand) (ho : o.op = .load ty x)
    (g : Nat) (hx : a.eval x = .pointer (some ⟨g, 0, none⟩)) (t : TypeId) (cs : Array Value) (fr : Nat × Nat) (d : TypeDesc) (hg : w.heap[g]? = some (.cells cs t fr))
    (hu : P.underlying ty = some d) (hd : (match d with | .struct _ | .array _ _ => true | _ => false) = true) (hi : (P.info? ty).map (·.size) = some cs.size)
    (h : wpList P ops Q rest (a.put o.dst (.agg cs)) w) : wpList P ops Q (o :: rest) a w :=
  wpList_step fun K hK => by
    rw [if_pos hw]
    exact wp_load_row ty x ho g hx t cs fr d hg hu hd hi (hK _ _ h)
theorem Below.up {W : World} (x : Up W) {B : Nat} {w : World} (h : Below B w W) (hB : B ≤ W.heap.size) : Below B w x.w := h.trans (x.b.mono hB)
/-- The state of a law once it has made an image and read it: the shape in block gx, the image in block gi, the bytes in a row of their own. -/
structure St16 (w : World) (y : Shp) (gx gi : Nat) (A : Option Addr) (n c : Nat) (bs : List UInt8) (im : Im) (V : Option Addr) (m cV : Nat) (U : Option Addr) (k cU : Nat) (xs : List Own1) (W : World) : Prop where
  x : W.heap[gx]? = some (.cells y.cells 42)
  i : W.heap[gi]? = some (.cells (imVal im V m cV U k cU) 33)
  o : OwnB W w.heap.size A n c bs
  r : ImRd im V m cV U k cU xs W
  y : y.R W
  b : Below w.heap.size w W
theorem St16.below {w : World} {y : Shp} {gx gi : Nat} {A : Option Addr} {n c : Nat} {bs : List UInt8} {im : Im} {V : Option Addr} {m cV : Nat} {U : Option Addr} {k cU : Nat} {xs : List Own1} {W W' : World} (h : St16 w y gx gi A n c bs im V m cV U k cU xs W) (hb : Below W.heap.size W W') : St16 w y gx gi A n c bs im V m cV U k cU xs W' :=
  ⟨has_below h.x hb, has_below h.i hb, h.o.below hb (Nat.le_refl _), h.r.below hb, h.y.below hb, kp_call h.b hb⟩
theorem St16.drewN {w : World} {y : Shp} {gx gi : Nat} {A : Option Addr} {n c : Nat} {bs : List UInt8} {im : Im} {V : Option Addr} {m cV : Nat} {U : Option Addr} {k cU : Nat} {xs : List Own1} {W : World} (h : St16 w y gx gi A n c bs im V m cV U k cU xs W) (q : Nat) : St16 w y gx gi A n c bs im V m cV U k cU xs (W.drewN q) :=
  h.below (kp_drewN (Below.refl _ _) q)
theorem St16.drew {w : World} {y : Shp} {gx gi : Nat} {A : Option Addr} {n c : Nat} {bs : List UInt8} {im : Im} {V : Option Addr} {m cV : Nat} {U : Option Addr} {k cU : Nat} {xs : List Own1} {W : World} (h : St16 w y gx gi A n c bs im V m cV U k cU xs W) : St16 w y gx gi A n c bs im V m cV U k cU xs W.drew :=
  h.below (kp_drew (Below.refl _ _))
theorem St16.call {w : World} {y : Shp} {gx gi : Nat} {A : Option Addr} {n c : Nat} {bs : List UInt8} {im : Im} {V : Option Addr} {m cV : Nat} {U : Option Addr} {k cU : Nat} {xs : List Own1} {W W' : World} (h : St16 w y gx gi A n c bs im V m cV U k cU xs W) (hb : Below W.heap.size W W') : St16 w y gx gi A n c bs im V m cV U k cU xs W' := h.below hb
/-- A law's number of bytes read as it was laid. -/
theorem num_put4_other {b : List UInt8} {a x c : Nat} (h : a + 4 ≤ b.length) (hd : c + 4 ≤ a ∨ a + 4 ≤ c) : numQ (putL b a x 4) c 4 = numQ b c 4 := num_other h (by omega) hd
end Go.Proofs.YtcedojmhgmgcgaaDoor
