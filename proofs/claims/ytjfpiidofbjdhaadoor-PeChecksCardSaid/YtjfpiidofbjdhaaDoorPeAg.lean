/-
  pe: a shape with what is turned, as it came in
-/
import Derived.Test.YtjfpiidofbjdhaaDoorPeY
namespace Go.Proofs.YtjfpiidofbjdhaaDoor
open Go.RowKit Go
set_option linter.unusedVariables false
set_option linter.unusedSimpArgs false
set_option maxRecDepth 100000
/-- A shape, a checksum, and a byte behind the headers. -/
structure Tn where
  x : Shp
  ck : Int
  at_ : Int
  v : Int
def Tn.cells (t : Tn) : Array Value := #[.bool t.x.plus, .slice t.x.sA t.x.sn t.x.sc, .slice t.x.fA t.x.fn t.x.fc, .slice t.x.bA t.x.bn t.x.bc, .slice t.x.oA t.x.on t.x.oc, .slice t.x.hA t.x.hn t.x.hc, .slice t.x.gA t.x.gn t.x.gc, .int .u32 t.ck, .int .u16 t.at_, .int .u8 t.v]
def Tn.val (t : Tn) : Value := .agg t.cells
structure IsTn (w : World) (t : Tn) : Prop where
  x : IsShp w t.x
  ck : 0 ≤ t.ck ∧ t.ck ≤ 4294967295
  at_ : 0 ≤ t.at_ ∧ t.at_ ≤ 65535
  v : 0 ≤ t.v ∧ t.v ≤ 255
section
open Go.ChangeShapes Go.WideShapes Go.ChangeAt Go.Joins
theorem open_p54 {H : Type} {enc : TypeId × Value → H} {W : World} {r : Reach} {b0 : Nat} {v : Value} {d : DataW H} {p : List MemPlace} (hv : Value.okWide Tryd.prog W r b0 54 v)
    (h : DataW.Trod enc Tryd.prog W 0 (fun _ => true) true 54 v d p) : ∃ x : Tn, v = x.val ∧ IsTn W x := by
  obtain ⟨cs, rfl, hsz⟩ := okWide_struct Tryd.underlying54 hv
  obtain ⟨fuel, hf⟩ := h
  obtain ⟨xs, n, _, _, hcl, hlen, hg⟩ := DataW.trod_struct Tryd.underlying54 hf
  have hcs : (Value.agg cs).cells.toList = cs.toList := rfl
  rw [hcs] at hg hcl
  have hsz6 : cs.toList.length = 10 := hcl.trans (by kernel_rfl)
  have c7 : Tryd.prog.cellsOf 39 = 7 := by kernel_rfl
  have c1 : Tryd.prog.cellsOf 24 = 1 := by kernel_rfl
  have c2 : Tryd.prog.cellsOf 52 = 1 := by kernel_rfl
  have c3 : Tryd.prog.cellsOf 5 = 1 := by kernel_rfl
  generalize hl : cs.toList = l at *
  match l, hsz6 with
  | [a0, a1, a2, a3, a4, a5, a6, a7, a8, a9], _ =>
    match xs, hlen with
    | [y0, y1, y2, y3], _ =>
      have g0 : DataW.trod enc Tryd.prog W 0 (fun _ => true) true n 39 [a0, a1, a2, a3, a4, a5, a6] = some y0 := by
        have h9 := hg 0 _ rfl
        simpa [c7] using h9
      have g1 : DataW.trod enc Tryd.prog W 0 (fun _ => true) true n 24 [a7] = some y1 := by
        have h9 := hg 1 _ rfl
        simpa [c7, c1] using h9
      have g2 : DataW.trod enc Tryd.prog W 0 (fun _ => true) true n 52 [a8] = some y2 := by
        have h9 := hg 2 _ rfl
        simpa [c7, c1, c2] using h9
      have g3 : DataW.trod enc Tryd.prog W 0 (fun _ => true) true n 5 [a9] = some y3 := by
        have h9 := hg 3 _ rfl
        simpa [c7, c1, c2, c3] using h9
      obtain ⟨o, ho, hi⟩ := trod_shp g0
      obtain ⟨z1, e1, _, w1⟩ := DataW.trod_int Tryd.underlying24 g1
      obtain ⟨z2, e2, _, w2⟩ := DataW.trod_int Tryd.underlying52 g2
      obtain ⟨z3, e3, _, w3⟩ := DataW.trod_int Tryd.underlying5 g3
      injection e1 with e1 _
      injection e2 with e2 _
      injection e3 with e3 _
      refine ⟨⟨o, z1, z2, z3⟩, ?_, ⟨hi, bounds_u32 w1, bounds_u16 w2, bounds_u8 w3⟩⟩
      unfold Tn.val
      congr 1
      apply Array.toList_inj.1
      rw [hl, e1, e2, e3]
      unfold Shp.cells at ho
      simp only [List.cons.injEq] at ho
      obtain ⟨h0, h1, h2, h3, h4, h5, h6, _⟩ := ho
      rw [h0, h1, h2, h3, h4, h5, h6]
      rfl
end
end Go.Proofs.YtjfpiidofbjdhaaDoor
