/-
  bank: things done, as they come in.
-/
import Derived.Test.YtkajlbdiofobcaaDoorBnS
import Derived.Lib.SmallJoins
import Derived.OpenShut
import Derived.Deep.Slices
import Derived.Deep.MidRow
import Derived.LaidMore
import Derived.Stop.LaidErr
namespace Go.Proofs.YtkajlbdiofobcaaDoor
open Go.RowKit Go
set_option linter.unusedVariables false
set_option linter.unusedSimpArgs false
set_option maxRecDepth 100000
def BOp.cells (o : BOp) : Array Value := #[.int .i64 o.kd, .int .i64 o.np, .int .i64 o.pt, .slice o.K o.kn o.kc, .slice o.V o.vn o.vc]
def BOp.value (o : BOp) : Value := .agg o.cells
structure IsBOp (w : World) (o : BOp) : Prop where
  kd : -9223372036854775808 ≤ o.kd ∧ o.kd ≤ 9223372036854775807
  np : -9223372036854775808 ≤ o.np ∧ o.np ≤ 9223372036854775807
  pt : -9223372036854775808 ≤ o.pt ∧ o.pt ≤ 9223372036854775807
  key : IsBs w o.K o.kn o.kc o.key
  val : IsBs w o.V o.vn o.vc o.val
section
open Go.ChangeShapes Go.WideShapes Go.ChangeAt Go.Joins
theorem open_p24 {H : Type} {enc : TypeId × Value → H} {W : World} {r : Reach} {b0 : Nat} {v : Value} {d : DataW H} {p : List MemPlace} (hv : Value.okWide Tryd.prog W r b0 24 v)
    (h : DataW.Trod enc Tryd.prog W 0 (fun _ => true) true 24 v d p) : ∃ x : BOp, v = x.value ∧ IsBOp W x := by
  obtain ⟨cs, rfl, hsz⟩ := okWide_struct Tryd.underlying24 hv
  have hsz6 : cs.size = 5 := hsz.trans (by kernel_rfl)
  obtain ⟨l⟩ := cs
  obtain ⟨fuel, hf⟩ := h
  obtain ⟨xs, n, _, _, _, hlen, hg⟩ := DataW.trod_struct Tryd.underlying24 hf
  match l, hsz6 with
  | [c0, c1, c2, c3, c4], _ =>
    match xs, hlen with
    | [y0, y1, y2, y3, y4], _ =>
      have g0 : DataW.trod enc Tryd.prog W 0 (fun _ => true) true n 3 [c0] = some y0 := by simpa [Value.cells, show Tryd.prog.cellsOf 3 = 1 by kernel_rfl] using hg 0 _ rfl
      obtain ⟨z0, e0, _, w0⟩ := DataW.trod_int Tryd.underlying3 g0
      injection e0 with e0 _
      subst e0
      have g1 : DataW.trod enc Tryd.prog W 0 (fun _ => true) true n 3 [c1] = some y1 := by simpa [Value.cells, show Tryd.prog.cellsOf 3 = 1 by kernel_rfl] using hg 1 _ rfl
      obtain ⟨z1, e1, _, w1⟩ := DataW.trod_int Tryd.underlying3 g1
      injection e1 with e1 _
      subst e1
      have g2 : DataW.trod enc Tryd.prog W 0 (fun _ => true) true n 3 [c2] = some y2 := by simpa [Value.cells, show Tryd.prog.cellsOf 3 = 1 by kernel_rfl] using hg 2 _ rfl
      obtain ⟨z2, e2, _, w2⟩ := DataW.trod_int Tryd.underlying3 g2
      injection e2 with e2 _
      subst e2
      have g3 : DataW.trod enc Tryd.prog W 0 (fun _ => true) true n 22 [c3] = some y3 := by simpa [Value.cells, show Tryd.prog.cellsOf 22 = 1 by kernel_rfl] using hg 3 _ rfl
      obtain ⟨A3, n3, k3, rfl⟩ : ∃ A n k, c3 = Value.slice A n k := slice_of g3
      obtain ⟨b3, B3⟩ := open_bs Tryd.underlying22 Tryd.underlying5 (by kernel_rfl) (show DataW.trod enc Tryd.prog W 0 (fun _ => true) true n 22 (Value.slice A3 n3 k3).cells.toList = some (y3.1, y3.2) by simpa [Value.cells] using g3)
      have g4 : DataW.trod enc Tryd.prog W 0 (fun _ => true) true n 22 [c4] = some y4 := by simpa [Value.cells, show Tryd.prog.cellsOf 22 = 1 by kernel_rfl] using hg 4 _ rfl
      obtain ⟨A4, n4, k4, rfl⟩ : ∃ A n k, c4 = Value.slice A n k := slice_of g4
      obtain ⟨b4, B4⟩ := open_bs Tryd.underlying22 Tryd.underlying5 (by kernel_rfl) (show DataW.trod enc Tryd.prog W 0 (fun _ => true) true n 22 (Value.slice A4 n4 k4).cells.toList = some (y4.1, y4.2) by simpa [Value.cells] using g4)
      refine ⟨⟨z0, z1, z2, A3, n3, k3, A4, n4, k4, b3, b4⟩, ?_, ?_⟩
      · rfl
      · exact ⟨bounds_i64 w0, bounds_i64 w1, bounds_i64 w2, B3, B4⟩
end
section
open Go.ChangeShapes Go.WideShapes Go.ChangeAt Go.Joins
theorem trod_BOp {H : Type} {enc : TypeId × Value → H} {W : World} {fuel : Nat} {l : List Value} {x : DataW H × List MemPlace} (hf : DataW.trod enc Tryd.prog W 0 (fun _ => true) true fuel 24 l = some x) : ∃ o : BOp, l = o.cells.toList ∧ IsBOp W o := by
  obtain ⟨xs, n, _, _, hcl, hlen, hg⟩ := DataW.trod_struct Tryd.underlying24 hf
  have hsz6 : l.length = 5 := hcl.trans (by kernel_rfl)
  match l, hsz6 with
  | [c0, c1, c2, c3, c4], _ =>
    match xs, hlen with
    | [y0, y1, y2, y3, y4], _ =>
      have g0 : DataW.trod enc Tryd.prog W 0 (fun _ => true) true n 3 [c0] = some y0 := by simpa [Value.cells, show Tryd.prog.cellsOf 3 = 1 by kernel_rfl] using hg 0 _ rfl
      obtain ⟨z0, e0, _, w0⟩ := DataW.trod_int Tryd.underlying3 g0
      injection e0 with e0 _
      subst e0
      have g1 : DataW.trod enc Tryd.prog W 0 (fun _ => true) true n 3 [c1] = some y1 := by simpa [Value.cells, show Tryd.prog.cellsOf 3 = 1 by kernel_rfl] using hg 1 _ rfl
      obtain ⟨z1, e1, _, w1⟩ := DataW.trod_int Tryd.underlying3 g1
      injection e1 with e1 _
      subst e1
      have g2 : DataW.trod enc Tryd.prog W 0 (fun _ => true) true n 3 [c2] = some y2 := by simpa [Value.cells, show Tryd.prog.cellsOf 3 = 1 by kernel_rfl] using hg 2 _ rfl
      obtain ⟨z2, e2, _, w2⟩ := DataW.trod_int Tryd.underlying3 g2
      injection e2 with e2 _
      subst e2
      have g3 : DataW.trod enc Tryd.prog W 0 (fun _ => true) true n 22 [c3] = some y3 := by simpa [Value.cells, show Tryd.prog.cellsOf 22 = 1 by kernel_rfl] using hg 3 _ rfl
      obtain ⟨A3, n3, k3, rfl⟩ : ∃ A n k, c3 = Value.slice A n k := slice_of g3
      obtain ⟨b3, B3⟩ := open_bs Tryd.underlying22 Tryd.underlying5 (by kernel_rfl) (show DataW.trod enc Tryd.prog W 0 (fun _ => true) true n 22 (Value.slice A3 n3 k3).cells.toList = some (y3.1, y3.2) by simpa [Value.cells] using g3)
      have g4 : DataW.trod enc Tryd.prog W 0 (fun _ => true) true n 22 [c4] = some y4 := by simpa [Value.cells, show Tryd.prog.cellsOf 22 = 1 by kernel_rfl] using hg 4 _ rfl
      obtain ⟨A4, n4, k4, rfl⟩ : ∃ A n k, c4 = Value.slice A n k := slice_of g4
      obtain ⟨b4, B4⟩ := open_bs Tryd.underlying22 Tryd.underlying5 (by kernel_rfl) (show DataW.trod enc Tryd.prog W 0 (fun _ => true) true n 22 (Value.slice A4 n4 k4).cells.toList = some (y4.1, y4.2) by simpa [Value.cells] using g4)
      refine ⟨⟨z0, z1, z2, A3, n3, k3, A4, n4, k4, b3, b4⟩, ?_, ?_⟩
      · rfl
      · exact ⟨bounds_i64 w0, bounds_i64 w1, bounds_i64 w2, B3, B4⟩
end
/-- What a law's walk is told of a slice of these that came in. -/
structure IsBOps (w : World) (A : Option Addr) (n c : Nat) (os : Nat → BOp) : Prop where
  le : n ≤ c
  max : c ≤ maxLen
  rows : ∀ r, r < n → ∃ b off, A = some ⟨b, off, none⟩ ∧ b < w.heap.size ∧ IsBOp w (os r) ∧ ∀ (j : Nat) (u : Value), (os r).cells.toList[j]? = some u → w.cell? ⟨b, off + r * 5 + j, none⟩ = some u
section
open Go.ChangeShapes Go.WideShapes Go.ChangeAt Go.Deep
theorem open_s28 {H : Type} {enc : TypeId × Value → H} {w : World} {A : Option Addr} {n c : Nat} {d : DataW H} {p : List MemPlace} (h : DataW.Trod enc Tryd.prog w 0 (fun _ => true) true 28 (.slice A n c) d p) : ∃ os, IsBOps w A n c os := by
  obtain ⟨fuel, hf⟩ := h
  have ce : Tryd.prog.cellsOf 24 = 5 := by kernel_rfl
  rcases open_slice Tryd.underlying28 hf with ⟨hcs, _⟩ | ⟨a, len, cap, m, q, D, Pl, hcs, _, hl, hm, hmm, _, hx⟩
  · simp [Value.cells] at hcs
    obtain ⟨rfl, rfl, rfl⟩ := hcs
    refine ⟨fun _ => ⟨0, 0, 0, none, 0, 0, none, 0, 0, [], []⟩, Nat.le_refl _, Nat.zero_le _, fun r hr => absurd hr (by omega)⟩
  · simp [Value.cells] at hcs
    obtain ⟨rfl, rfl, rfl⟩ := hcs
    have hmc : m = c := by rw [hmm]; rfl
    subst hmc
    rw [ce] at hx
    have hrow : ∀ r, r < m → ∃ o : BOp, IsBOp w o ∧ ∀ (j : Nat) (u : Value), o.cells.toList[j]? = some u → w.cell? (a.add (r * 5 + j)) = some u := by
      intro r hr
      obtain ⟨cs', h1, h2⟩ := hx r hr
      obtain ⟨_, hlen, hcell⟩ := World.cells?_some h1
      obtain ⟨o, ho, hi⟩ := trod_BOp h2
      refine ⟨o, hi, fun j u hu => ?_⟩
      rw [← ho] at hu
      have hj : j < cs'.length := (List.getElem?_eq_some_iff.1 hu).1
      have h3 := hcell j (by omega)
      rw [add_add, hu] at h3
      exact h3
    haveI : Inhabited BOp := ⟨⟨0, 0, 0, none, 0, 0, none, 0, 0, [], []⟩⟩
    obtain ⟨os, hos⟩ := choose_lt hrow
    refine ⟨os, hl, hm, fun r hr => ?_⟩
    obtain ⟨hi, hc⟩ := hos r (by omega)
    obtain ⟨b, off, spot⟩ := a
    have hb : b < w.heap.size := by
      have h0 := (hos 0 (by omega)).2 0 _ rfl
      have := World.block_lt_of_cell? w _ h0
      simpa [Addr.add] using this
    have hsp : spot = none := by
      have h9 := (hos 0 (by omega)).2 0 _ rfl
      have h1 := World.cell?_spot h9
      simpa [Addr.add] using h1
    subst hsp
    refine ⟨b, off, rfl, hb, hi, fun j u hu => ?_⟩
    have h3 := hc j u hu
    rw [Addr.add_mid, ← Nat.add_assoc] at h3
    exact h3
end
end Go.Proofs.YtkajlbdiofobcaaDoor
