/-
  pe: a shape that came in.
-/
import Derived.Test.YtjfpiidofbjdhaaDoorPeL
import Derived.Test.YtjfpiidofbjdhaaDoorBytes
import Derived.Test.YtjfpiidofbjdhaaDoorRows2
import Derived.Deep.Matrix
import Derived.Lib.SmallJoins
import Derived.OpenShut
import Derived.Deep.Slices
import Derived.Deep.MidRow
namespace Go.Proofs.YtjfpiidofbjdhaaDoor
open Go.RowKit Go
set_option linter.unusedVariables false
set_option linter.unusedSimpArgs false
set_option maxRecDepth 100000
/-- What a law's walk is told of a shape that came in. -/
structure IsShp (w : World) (x : Shp) : Prop where
  r : x.R w
  lc : x.sn ≤ x.sc ∧ x.fn ≤ x.fc ∧ x.hn ≤ x.hc ∧ x.on ≤ x.oc
  cc : x.sc ≤ 9223372036854775807 ∧ x.fc ≤ 9223372036854775807 ∧ x.hc ≤ 9223372036854775807 ∧ x.oc ≤ 9223372036854775807
  bc : ∀ y ∈ x.bod, y.2.1 ≤ y.2.2.1 ∧ y.2.2.1 ≤ 9223372036854775807
  gc : ∀ y ∈ x.sig, y.2.1 ≤ y.2.2.1 ∧ y.2.2.1 ≤ 9223372036854775807
  bn : x.bn ≤ 9223372036854775807 ∧ x.gn ≤ 9223372036854775807
  oi : ∀ z ∈ x.ord, -9223372036854775808 ≤ z ∧ z ≤ 9223372036854775807
def Shp.val (x : Shp) : Value := .agg x.cells
theorem rows_list {w : World} {A : Option Addr} {n c : Nat} {X : Nat → Option Addr × Nat × Nat} {bss : Nat → List UInt8} (h : IsRows w A n c X bss) :
    ∃ xs : List Own1, RowsR w A n xs ∧ ∀ y ∈ xs, y.2.1 ≤ y.2.2.1 ∧ y.2.2.1 ≤ 9223372036854775807 := by
  have H : ∀ r, r < n → IsBs w (X r).1 (X r).2.1 (X r).2.2 (bss r) := fun r hr => by
    obtain ⟨b, off, _, _, h1⟩ := h.rows (by omega)
    exact (h1 r hr).2
  refine ⟨(List.range n).map fun r => ((X r).1, (X r).2.1, (X r).2.2, bss r), ⟨by simp, ?_, ?_⟩, ?_⟩
  · intro hne
    have hn : 0 < n := by
      rcases Nat.eq_zero_or_pos n with h0 | h0
      · exfalso; apply hne; rw [h0]; rfl
      · exact h0
    obtain ⟨b, off, e, hb, h1⟩ := h.rows hn
    refine ⟨b, off, e, hb, fun j u hu => ?_⟩
    have hj : j < n := by
      rcases Nat.lt_or_ge j n with h2 | h2
      · exact h2
      · rw [List.getElem?_eq_none (by simpa using h2)] at hu; cases hu
    rw [List.getElem?_map, List.getElem?_map, List.getElem?_range hj] at hu
    have := (h1 j hj).1
    rw [this, ← hu]
    rfl
  · intro x hx
    obtain ⟨r, hr, rfl⟩ := List.mem_map.1 hx
    exact (H r (List.mem_range.1 hr)).rb
  · intro x hx
    obtain ⟨r, hr, rfl⟩ := List.mem_map.1 hx
    have h1 := H r (List.mem_range.1 hr)
    exact ⟨h1.le, by have := h1.max; unfold maxLen at this; omega⟩
section
open Go.ChangeShapes Go.WideShapes Go.ChangeAt Go.Joins
theorem slice_any {H : Type} {enc : TypeId × Value → H} {W : World} {base n : Nat} {sp : Nat → Bool} {c : Value} {t e : TypeId} {x : DataW H × List MemPlace} (ht : Tryd.prog.underlying t = some (.slice e)) (h : DataW.trod enc Tryd.prog W base sp true n t [c] = some x) : ∃ A n k, c = Value.slice A n k := by
  rcases DataW.trod_slice ht h with ⟨e, _⟩ | ⟨a, l, k, _, _, _, _, e, _⟩
  · injection e with e _; exact ⟨_, _, _, e⟩
  · injection e with e _; exact ⟨_, _, _, e⟩
theorem open_is {H : Type} {enc : TypeId × Value → H} {w : World} {base : Nat} {held : Bool} {fuel : Nat} {A : Option Addr} {n c : Nat} {d : DataW H} {p : List MemPlace}
    (hf : DataW.trod enc Tryd.prog w base (fun _ => true) held fuel 37 (Value.slice A n c).cells.toList = some (d, p)) :
    ∃ zs : List Int, zs.length = n ∧ n ≤ c ∧ c ≤ 9223372036854775807 ∧ ReadR w A (zs.map (Value.int .i64)) ∧ ∀ z ∈ zs, -9223372036854775808 ≤ z ∧ z ≤ 9223372036854775807 := by
  have hc : Tryd.prog.cellsOf 3 = 1 := by kernel_rfl
  rcases open_ints Tryd.underlying37 Tryd.underlying3 hc hf with ⟨hcs, _⟩ | ⟨x, l, c', zs, hcs, _, hl, hm, hz, _, hcell, hwz⟩
  · simp [Value.cells] at hcs
    obtain ⟨rfl, rfl, rfl⟩ := hcs
    exact ⟨[], rfl, Nat.le_refl _, by omega, fun h => absurd rfl h, fun z hz => by cases hz⟩
  · simp [Value.cells] at hcs
    obtain ⟨rfl, rfl, rfl⟩ := hcs
    have hzl : zs.length = c := by simpa using hz
    refine ⟨zs.take n, by rw [List.length_take]; omega, hl, by unfold maxLen at hm; omega, ?_, fun z hz => bounds_i64 (hwz _ (List.mem_of_mem_take hz))⟩
    intro hne
    have hz0 : 0 < zs.length := by
      rcases Nat.eq_zero_or_pos zs.length with h | h
      · exfalso
        apply hne
        rw [List.eq_nil_of_length_eq_zero h]; simp
      · exact h
    obtain ⟨g, off, spot⟩ := x
    have h0 := hcell 0 hz0
    have hsp : spot = none := by simpa [Addr.add] using World.cell?_spot h0
    subst hsp
    refine ⟨g, off, rfl, by have := World.block_lt_of_cell? w _ h0; simpa [Addr.add] using this, fun j u hu => ?_⟩
    rw [List.getElem?_map, List.getElem?_take] at hu
    have hj : j < n := by
      rcases Nat.lt_or_ge j n with h | h
      · exact h
      · rw [if_neg (by omega)] at hu; simp at hu
    have hj2 : j < zs.length := by omega
    rw [if_pos hj, List.getElem?_eq_getElem hj2] at hu
    simp at hu
    have h1 := hcell j hj2
    have hadd : (⟨g, off, none⟩ : Addr).add j = ⟨g, off + j, none⟩ := by unfold Addr.add; split <;> simp_all
    rw [hadd, List.getD_eq_getElem?_getD, List.getElem?_eq_getElem hj2] at h1
    rw [h1, ← hu]
    rfl
theorem trod_shp {H : Type} {enc : TypeId × Value → H} {W : World} {fuel : Nat} {l : List Value} {x : DataW H × List MemPlace} (hf : DataW.trod enc Tryd.prog W 0 (fun _ => true) true fuel 39 l = some x) : ∃ o : Shp, l = o.cells.toList ∧ IsShp W o := by
  obtain ⟨xs, n, _, _, hcl, hlen, hg⟩ := DataW.trod_struct Tryd.underlying39 hf
  have hsz6 : l.length = 7 := hcl.trans (by kernel_rfl)
  match l, hsz6 with
  | [c0, c1, c2, c3, c4, c5, c6], _ =>
    match xs, hlen with
    | [y0, y1, y2, y3, y4, y5, y6], _ =>
      have g0 : DataW.trod enc Tryd.prog W 0 (fun _ => true) true n 4 [c0] = some y0 := by simpa [Value.cells, show Tryd.prog.cellsOf 4 = 1 by kernel_rfl] using hg 0 _ rfl
      have g1 : DataW.trod enc Tryd.prog W 0 (fun _ => true) true n 22 [c1] = some y1 := by simpa [Value.cells, show Tryd.prog.cellsOf 22 = 1 by kernel_rfl] using hg 1 _ rfl
      have g2 : DataW.trod enc Tryd.prog W 0 (fun _ => true) true n 22 [c2] = some y2 := by simpa [Value.cells, show Tryd.prog.cellsOf 22 = 1 by kernel_rfl] using hg 2 _ rfl
      have g3 : DataW.trod enc Tryd.prog W 0 (fun _ => true) true n 26 [c3] = some y3 := by simpa [Value.cells, show Tryd.prog.cellsOf 26 = 1 by kernel_rfl] using hg 3 _ rfl
      have g4 : DataW.trod enc Tryd.prog W 0 (fun _ => true) true n 37 [c4] = some y4 := by simpa [Value.cells, show Tryd.prog.cellsOf 37 = 1 by kernel_rfl] using hg 4 _ rfl
      have g5 : DataW.trod enc Tryd.prog W 0 (fun _ => true) true n 22 [c5] = some y5 := by simpa [Value.cells, show Tryd.prog.cellsOf 22 = 1 by kernel_rfl] using hg 5 _ rfl
      have g6 : DataW.trod enc Tryd.prog W 0 (fun _ => true) true n 26 [c6] = some y6 := by simpa [Value.cells, show Tryd.prog.cellsOf 26 = 1 by kernel_rfl] using hg 6 _ rfl
      obtain ⟨z0, e0, _⟩ := DataW.trod_bool Tryd.underlying4 g0
      injection e0 with e0 _
      obtain ⟨A1, n1, k1, rfl⟩ := slice_any Tryd.underlying22 g1
      obtain ⟨A2, n2, k2, rfl⟩ := slice_any Tryd.underlying22 g2
      obtain ⟨A3, n3, k3, rfl⟩ := slice_any Tryd.underlying26 g3
      obtain ⟨A4, n4, k4, rfl⟩ := slice_any Tryd.underlying37 g4
      obtain ⟨A5, n5, k5, rfl⟩ := slice_any Tryd.underlying22 g5
      obtain ⟨A6, n6, k6, rfl⟩ := slice_any Tryd.underlying26 g6
      obtain ⟨b1, B1⟩ := open_bs Tryd.underlying22 Tryd.underlying5 (by kernel_rfl) (show DataW.trod enc Tryd.prog W 0 (fun _ => true) true n 22 (Value.slice A1 n1 k1).cells.toList = some (y1.1, y1.2) by simpa [Value.cells] using g1)
      obtain ⟨b2, B2⟩ := open_bs Tryd.underlying22 Tryd.underlying5 (by kernel_rfl) (show DataW.trod enc Tryd.prog W 0 (fun _ => true) true n 22 (Value.slice A2 n2 k2).cells.toList = some (y2.1, y2.2) by simpa [Value.cells] using g2)
      obtain ⟨b5, B5⟩ := open_bs Tryd.underlying22 Tryd.underlying5 (by kernel_rfl) (show DataW.trod enc Tryd.prog W 0 (fun _ => true) true n 22 (Value.slice A5 n5 k5).cells.toList = some (y5.1, y5.2) by simpa [Value.cells] using g5)
      obtain ⟨b4, B4l, B4c, B4m, B4r, B4i⟩ := open_is (show DataW.trod enc Tryd.prog W 0 (fun _ => true) true n 37 (Value.slice A4 n4 k4).cells.toList = some (y4.1, y4.2) by simpa [Value.cells] using g4)
      obtain ⟨X3, s3, B3⟩ := open_rows (enc := enc) (d := y3.1) (p := y3.2) Tryd.underlying26 Tryd.underlying22 Tryd.underlying5 (by kernel_rfl) (by kernel_rfl) ⟨n, by simpa [Value.cells] using g3⟩
      obtain ⟨X6, s6, B6⟩ := open_rows (enc := enc) (d := y6.1) (p := y6.2) Tryd.underlying26 Tryd.underlying22 Tryd.underlying5 (by kernel_rfl) (by kernel_rfl) ⟨n, by simpa [Value.cells] using g6⟩
      obtain ⟨b3, R3, L3⟩ := rows_list B3
      obtain ⟨b6, R6, L6⟩ := rows_list B6
      have M1 := B1.max
      have M2 := B2.max
      have M5 := B5.max
      have M3 := B3.lim
      have M6 := B6.lim
      unfold maxLen at M1 M2 M5
      refine ⟨⟨z0, A1, n1, k1, b1, A2, n2, k2, b2, A3, n3, k3, b3, A4, n4, k4, b4, A5, n5, k5, b5, A6, n6, k6, b6⟩, ?_, ?_⟩
      · unfold Shp.cells
        rw [e0]
      · exact ⟨⟨B1.rb, B2.rb, R3, B4l, B4r, B5.rb, R6⟩, ⟨B1.le, B2.le, B5.le, B4c⟩, ⟨by omega, by omega, by omega, B4m⟩, L3, L6, ⟨M3, M6⟩, B4i⟩
theorem open_p39 {H : Type} {enc : TypeId × Value → H} {W : World} {r : Reach} {b0 : Nat} {v : Value} {d : DataW H} {p : List MemPlace} (hv : Value.okWide Tryd.prog W r b0 39 v)
    (h : DataW.Trod enc Tryd.prog W 0 (fun _ => true) true 39 v d p) : ∃ x : Shp, v = x.val ∧ IsShp W x := by
  obtain ⟨cs, rfl, hsz⟩ := okWide_struct Tryd.underlying39 hv
  obtain ⟨fuel, hf⟩ := h
  obtain ⟨o, ho, hi⟩ := trod_shp (l := cs.toList) (x := (d, p)) (by simpa [Value.cells] using hf)
  refine ⟨o, ?_, hi⟩
  unfold Shp.val
  congr 1
  exact Array.toList_inj.1 ho
end
end Go.Proofs.YtjfpiidofbjdhaaDoor
