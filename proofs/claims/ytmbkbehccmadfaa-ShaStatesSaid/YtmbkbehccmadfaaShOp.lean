/-
  sha: a list of things done.
-/
import Derived.Test.YtmbkbehccmadfaaShTw
import Derived.Lib.SmallJoins
import Derived.OpenShut
import Derived.Deep.Slices
import Derived.Deep.MidRow
namespace Go.Proofs.Ytmbkbehccmadfaa
open Go.RowKit Go
set_option linter.unusedVariables false
set_option linter.unusedSimpArgs false
set_option maxRecDepth 100000
section
open Go.ChangeShapes Go.WideShapes Go.ChangeAt Go.Joins
theorem slice_of {H : Type} {enc : TypeId × Value → H} {W : World} {base n : Nat} {sp : Nat → Bool} {c : Value} {x : DataW H × List MemPlace} (h : DataW.trod enc Try.prog W base sp true n 22 [c] = some x) : ∃ A n k, c = Value.slice A n k := by
  rcases DataW.trod_slice Try.underlying22 h with ⟨e, _⟩ | ⟨a, l, k, _, _, _, _, e, _⟩
  · injection e with e _; exact ⟨_, _, _, e⟩
  · injection e with e _; exact ⟨_, _, _, e⟩
end
/-- lintellaw03.Op, as the model holds it. -/
structure OpP where
  which : Int
  sum : Bool
  Xb : Option Addr
  nb : Nat
  cb : Nat
  bb : List UInt8
def OpP.cells (o : OpP) : Array Value := #[.int .i64 o.which, .bool o.sum, .slice o.Xb o.nb o.cb]
def OpP.val (o : OpP) : Value := .agg o.cells
structure IsOpP (w : World) (o : OpP) : Prop where
  which : -9223372036854775808 ≤ o.which ∧ o.which ≤ 9223372036854775807
  sum : True
  b : IsBs w o.Xb o.nb o.cb o.bb
section
open Go.ChangeShapes Go.WideShapes Go.ChangeAt Go.Joins
theorem trod_OpP {H : Type} {enc : TypeId × Value → H} {W : World} {fuel : Nat} {l : List Value} {x : DataW H × List MemPlace} (hf : DataW.trod enc Try.prog W 0 (fun _ => true) true fuel 43 l = some x) : ∃ o : OpP, l = o.cells.toList ∧ IsOpP W o := by
  obtain ⟨xs, n, _, _, hcl, hlen, hg⟩ := DataW.trod_struct Try.underlying43 hf
  have hsz6 : l.length = 3 := hcl.trans (by kernel_rfl)
  match l, hsz6 with
  | [c0, c1, c2], _ =>
    match xs, hlen with
    | [y0, y1, y2], _ =>
      have g0 : DataW.trod enc Try.prog W 0 (fun _ => true) true n 3 [c0] = some y0 := by simpa [Value.cells, show Try.prog.cellsOf 3 = 1 by kernel_rfl] using hg 0 _ rfl
      obtain ⟨z0, e0, _, w0⟩ := DataW.trod_int Try.underlying3 g0
      injection e0 with e0 _
      subst e0
      have g1 : DataW.trod enc Try.prog W 0 (fun _ => true) true n 4 [c1] = some y1 := by simpa [Value.cells, show Try.prog.cellsOf 4 = 1 by kernel_rfl] using hg 1 _ rfl
      obtain ⟨z1, e1, _⟩ := DataW.trod_bool Try.underlying4 g1
      injection e1 with e1 _
      subst e1
      have g2 : DataW.trod enc Try.prog W 0 (fun _ => true) true n 22 [c2] = some y2 := by simpa [Value.cells, show Try.prog.cellsOf 22 = 1 by kernel_rfl] using hg 2 _ rfl
      obtain ⟨A2, n2, k2, rfl⟩ : ∃ A n k, c2 = Value.slice A n k := slice_of g2
      obtain ⟨b2, B2⟩ := open_bs Try.underlying22 Try.underlying5 (by kernel_rfl) (show DataW.trod enc Try.prog W 0 (fun _ => true) true n 22 (Value.slice A2 n2 k2).cells.toList = some (y2.1, y2.2) by simpa [Value.cells] using g2)
      refine ⟨⟨z0, z1, A2, n2, k2, b2⟩, ?_, ?_⟩
      · rfl
      · exact ⟨bounds_i64 w0, trivial, B2⟩
end
/-- What a law's walk is told of a slice of these that came in. -/
structure IsOpPs (w : World) (A : Option Addr) (n c : Nat) (os : Nat → OpP) : Prop where
  le : n ≤ c
  max : c ≤ maxLen
  rows : ∀ r, r < n → ∃ b off, A = some ⟨b, off, none⟩ ∧ b < w.heap.size ∧ IsOpP w (os r) ∧ ∀ (j : Nat) (u : Value), (os r).cells.toList[j]? = some u → w.cell? ⟨b, off + r * 3 + j, none⟩ = some u
section
open Go.ChangeShapes Go.WideShapes Go.ChangeAt Go.Deep
theorem open_s29 {H : Type} {enc : TypeId × Value → H} {w : World} {A : Option Addr} {n c : Nat} {d : DataW H} {p : List MemPlace} (h : DataW.Trod enc Try.prog w 0 (fun _ => true) true 29 (.slice A n c) d p) : ∃ os, IsOpPs w A n c os := by
  obtain ⟨fuel, hf⟩ := h
  have ce : Try.prog.cellsOf 43 = 3 := by kernel_rfl
  rcases open_slice Try.underlying29 hf with ⟨hcs, _⟩ | ⟨a, len, cap, m, q, D, Pl, hcs, _, hl, hm, hmm, _, hx⟩
  · simp [Value.cells] at hcs
    obtain ⟨rfl, rfl, rfl⟩ := hcs
    refine ⟨fun _ => ⟨0, false, none, 0, 0, []⟩, Nat.le_refl _, Nat.zero_le _, fun r hr => absurd hr (by omega)⟩
  · simp [Value.cells] at hcs
    obtain ⟨rfl, rfl, rfl⟩ := hcs
    have hmc : m = c := by rw [hmm]; rfl
    subst hmc
    rw [ce] at hx
    have hrow : ∀ r, r < m → ∃ o : OpP, IsOpP w o ∧ ∀ (j : Nat) (u : Value), o.cells.toList[j]? = some u → w.cell? (a.add (r * 3 + j)) = some u := by
      intro r hr
      obtain ⟨cs', h1, h2⟩ := hx r hr
      obtain ⟨_, hlen, hcell⟩ := World.cells?_some h1
      obtain ⟨o, ho, hi⟩ := trod_OpP h2
      refine ⟨o, hi, fun j u hu => ?_⟩
      rw [← ho] at hu
      have hj : j < cs'.length := (List.getElem?_eq_some_iff.1 hu).1
      have h3 := hcell j (by omega)
      rw [add_add, hu] at h3
      exact h3
    haveI : Inhabited OpP := ⟨⟨0, false, none, 0, 0, []⟩⟩
    obtain ⟨os, hos⟩ := choose_lt hrow
    refine ⟨os, hl, hm, fun r hr => ?_⟩
    obtain ⟨hi, hc⟩ := hos r (by omega)
    obtain ⟨b, off, spot⟩ := a
    have hb : b < w.heap.size := by
      have h0 := (hos 0 (by omega)).2 0 _ rfl
      have := World.block_lt_of_cell? w _ h0
      simpa [Addr.add] using this
    have hsp : spot = none := by
      have h9 := (hos 0 (by omega)).2 0 _ rfl
      have h1 := World.cell?_spot h9
      simpa [Addr.add] using h1
    subst hsp
    refine ⟨b, off, rfl, hb, hi, fun j u hu => ?_⟩
    have h3 := hc j u hu
    rw [Addr.add_mid, ← Nat.add_assoc] at h3
    exact h3
end
end Go.Proofs.Ytmbkbehccmadfaa
