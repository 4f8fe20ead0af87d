/-
  option: boot options as the model holds them.
-/
import Derived.Test.YtokklcfdfjgbjaaDoorOctB2
import Derived.Test.YtokklcfdfjgbjaaDoorOctC1
import Derived.Test.YtokklcfdfjgbjaaDoorOctN
import Derived.Test.YtokklcfdfjgbjaaDoorApp1
import Derived.Lib.SmallJoins
namespace Go.Proofs.YtokklcfdfjgbjaaDoor
open Go.RowKit Go
set_option linter.unusedVariables false
set_option maxRecDepth 100000
/-- An option: its attributes, its label, and the slices of its path and data. -/
structure Opt where
  a : Nat
  l : ByteArray
  P : Option Addr
  pn : Nat
  pc : Nat
  pb : List UInt8
  D : Option Addr
  dn : Nat
  dc : Nat
  db : List UInt8
def Opt.cells (o : Opt) : Array Value := #[.int .u32 (o.a : Int), .string o.l, .slice o.P o.pn o.pc, .slice o.D o.dn o.dc]
def opV (o : Opt) : Value := .agg o.cells
structure IsOpt (w : World) (o : Opt) : Prop where
  a : o.a < 4294967296
  l : o.l.size ≤ maxLen
  p : IsBs w o.P o.pn o.pc o.pb
  d : IsBs w o.D o.dn o.dc o.db
section
open Go.ChangeShapes Go.WideShapes Go.ChangeAt Go.Joins
theorem slice_of {H : Type} {enc : TypeId × Value → H} {W : World} {base n : Nat} {sp : Nat → Bool} {c : Value} {x : DataW H × List MemPlace} (h : DataW.trod enc Tryd.prog W base sp true n 23 [c] = some x) : ∃ A n k, c = Value.slice A n k := by
  rcases DataW.trod_slice Tryd.underlying23 h with ⟨e, _⟩ | ⟨a, l, k, _, _, _, _, e, _⟩
  · injection e with e _; exact ⟨_, _, _, e⟩
  · injection e with e _; exact ⟨_, _, _, e⟩
theorem open_p25 {H : Type} {enc : TypeId × Value → H} {W : World} {r : Reach} {b0 : Nat} {v : Value} {d : DataW H} {p : List MemPlace} (hv : Value.okWide Tryd.prog W r b0 25 v)
    (h : DataW.Trod enc Tryd.prog W 0 (fun _ => true) true 25 v d p) : ∃ x, v = opV x ∧ IsOpt W x := by
  obtain ⟨cs, rfl, hsz⟩ := okWide_struct Tryd.underlying25 hv
  have hsz6 : cs.size = 4 := hsz.trans (by kernel_rfl)
  obtain ⟨l⟩ := cs
  obtain ⟨fuel, hf⟩ := h
  obtain ⟨xs, n, _, _, _, hlen, hg⟩ := DataW.trod_struct Tryd.underlying25 hf
  match l, hsz6 with
  | [c0, c1, c2, c3], _ =>
    match xs, hlen with
    | [x0, x1, x2, x3], _ =>
      have cu : Tryd.prog.cellsOf 22 = 1 := by kernel_rfl
      have cs : Tryd.prog.cellsOf 9 = 1 := by kernel_rfl
      have cb : Tryd.prog.cellsOf 23 = 1 := by kernel_rfl
      have g0 : DataW.trod enc Tryd.prog W 0 (fun _ => true) true n 22 [c0] = some x0 := by simpa [Value.cells, cu] using hg 0 _ rfl
      have g1 : DataW.trod enc Tryd.prog W 0 (fun _ => true) true n 9 [c1] = some x1 := by simpa [Value.cells, cs] using hg 1 _ rfl
      have g2 : DataW.trod enc Tryd.prog W 0 (fun _ => true) true n 23 [c2] = some x2 := by simpa [Value.cells, cb] using hg 2 _ rfl
      have g3 : DataW.trod enc Tryd.prog W 0 (fun _ => true) true n 23 [c3] = some x3 := by simpa [Value.cells, cb] using hg 3 _ rfl
      obtain ⟨z0, e0, _, w0⟩ := DataW.trod_int Tryd.underlying22 g0
      injection e0 with e0 _
      subst e0
      obtain ⟨sv, e1, _, w1⟩ := DataW.trod_string Tryd.underlying9 g1
      injection e1 with e1 _
      subst e1
      obtain ⟨A2, n2, k2, rfl⟩ : ∃ A n k, c2 = Value.slice A n k := slice_of g2
      obtain ⟨A3, n3, k3, rfl⟩ : ∃ A n k, c3 = Value.slice A n k := slice_of g3
      obtain ⟨b2, B2⟩ := open_bs Tryd.underlying23 Tryd.underlying5 (by kernel_rfl) (show DataW.trod enc Tryd.prog W 0 (fun _ => true) true n 23 (Value.slice A2 n2 k2).cells.toList = some (x2.1, x2.2) by simpa [Value.cells] using g2)
      obtain ⟨b3, B3⟩ := open_bs Tryd.underlying23 Tryd.underlying5 (by kernel_rfl) (show DataW.trod enc Tryd.prog W 0 (fun _ => true) true n 23 (Value.slice A3 n3 k3).cells.toList = some (x3.1, x3.2) by simpa [Value.cells] using g3)
      have bd := bounds_u32 w0
      have y0 : ((z0.toNat : Nat) : Int) = z0 := by omega
      refine ⟨⟨z0.toNat, sv, A2, n2, k2, b2, A3, n3, k3, b3⟩, ?_, ?_⟩
      · unfold opV Opt.cells
        simp only [y0]
      · exact ⟨by show z0.toNat < 4294967296; omega, w1, B2, B3⟩
end
end Go.Proofs.YtokklcfdfjgbjaaDoor
