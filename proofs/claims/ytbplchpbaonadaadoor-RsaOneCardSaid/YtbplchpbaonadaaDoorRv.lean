/-
  rsa: what a law's walk is told of a digest and of a key; the statement RsaKeys.
-/
import Derived.Test.YtbplchpbaonadaaDoorR2
import Derived.Test.YtbplchpbaonadaaDoorR2
import Derived.Test.YtbplchpbaonadaaDoorRows
import Derived.Lib.SmallJoins
import Derived.OpenShut
import Derived.MakeChecks
import Derived.Deep.Slices
import Derived.Deep.MidRow
namespace Go.Proofs.YtbplchpbaonadaaDoor
open Go.RowKit Go
set_option linter.unusedVariables false
set_option linter.unusedSimpArgs false
set_option maxRecDepth 100000
set_option exponentiation.threshold 10000
section
open Go.ChangeShapes Go.WideShapes Go.ChangeAt Go.Joins
theorem slice_of {H : Type} {enc : TypeId × Value → H} {W : World} {base n : Nat} {sp : Nat → Bool} {c : Value} {x : DataW H × List MemPlace} (h : DataW.trod enc Tryd.prog W base sp true n 23 [c] = some x) : ∃ A n k, c = Value.slice A n k := by
  rcases DataW.trod_slice Tryd.underlying23 h with ⟨e, _⟩ | ⟨a, l, k, _, _, _, _, e, _⟩
  · injection e with e _; exact ⟨_, _, _, e⟩
  · injection e with e _; exact ⟨_, _, _, e⟩
end
section
open Go.ChangeShapes Go.WideShapes Go.ChangeAt Go.Joins
theorem bytes_of_vals : ∀ l : List Value, (∀ i, i < l.length → ∃ z : Int, l[i]? = some (.int .u8 z) ∧ (Lit.int .u8 z).wf = true) → ∃ gb : List UInt8, l = gb.map bv
  | [], _ => ⟨[], rfl⟩
  | v :: l, h => by
    obtain ⟨z, h1, h2⟩ := h 0 (by simp)
    obtain ⟨gb, hg⟩ := bytes_of_vals l (fun i hi => by
      have := h (i + 1) (by simpa using hi)
      simpa using this)
    have hv : v = .int .u8 z := by simpa using h1
    refine ⟨UInt8.ofNat z.toNat :: gb, ?_⟩
    rw [List.map_cons, hv, hg]
    congr 1
    show Value.int .u8 z = .int .u8 ((UInt8.ofNat z.toNat).toNat : Int)
    rw [byte_of_wf h2]
/-- A digest, as the model holds it. -/
def dgV (l : List UInt8) : Value := .agg (dgA l)
def IsD (_w : World) (l : List UInt8) : Prop := l.length = 32
theorem open_p22 {H : Type} {enc : TypeId × Value → H} {W : World} {r : Reach} {b0 : Nat} {v : Value} {d : DataW H} {p : List MemPlace} (hv : Value.okWide Tryd.prog W r b0 22 v)
    (h : DataW.Trod enc Tryd.prog W 0 (fun _ => true) true 22 v d p) : ∃ x, v = dgV x ∧ IsD W x := by
  simp only [Value.okWide, Tryd.underlying22] at hv
  obtain ⟨cs, rfl, hsz, _⟩ := hv
  have hsz16 : cs.size = 32 := hsz.trans (by kernel_rfl)
  obtain ⟨fuel, hf⟩ := h
  obtain ⟨xs, m, _, _, _, hlen, hg⟩ := DataW.trod_array Tryd.underlying22 hf
  have c1 : Tryd.prog.cellsOf 5 = 1 := by kernel_rfl
  have hcs : (Value.agg cs).cells.toList = cs.toList := rfl
  obtain ⟨gb, hgb⟩ := bytes_of_vals cs.toList (fun i hi => by
    have hi16 : i < 32 := by rw [← hsz16]; simpa using hi
    have h1 := hg i hi16
    rw [c1, Nat.mul_one, hcs] at h1
    have hx : i < xs.length := by omega
    rw [List.getElem?_eq_getElem hx] at h1
    have hd : (cs.toList.drop i).take 1 = [cs.toList[i]] := by
      rw [List.drop_eq_getElem_cons hi]
      rfl
    rw [hd] at h1
    obtain ⟨z, e0, _, w0⟩ := DataW.trod_int Tryd.underlying5 h1
    injection e0 with e0 _
    exact ⟨z, by rw [List.getElem?_eq_getElem hi, e0], w0⟩)
  refine ⟨gb, ?_, ?_⟩
  · unfold dgV dgA
    rw [← hgb]
  · show gb.length = 32
    have := congrArg List.length hgb
    simp at this
    omega
end
/-- api.Key, as the model holds it. -/
structure KeyV where
  XN : Option Addr
  nN : Nat
  cN : Nat
  bN : List UInt8
  E : Nat
def KeyV.cells (o : KeyV) : Array Value := #[.slice o.XN o.nN o.cN, .int .u64 (o.E : Int)]
def KeyV.val (o : KeyV) : Value := .agg o.cells
structure IsKeyV (w : World) (o : KeyV) : Prop where
  N : IsBs w o.XN o.nN o.cN o.bN
  E : o.E < 18446744073709551616
section
open Go.ChangeShapes Go.WideShapes Go.ChangeAt Go.Joins
theorem open_p26 {H : Type} {enc : TypeId × Value → H} {W : World} {r : Reach} {b0 : Nat} {v : Value} {d : DataW H} {p : List MemPlace} (hv : Value.okWide Tryd.prog W r b0 26 v)
    (h : DataW.Trod enc Tryd.prog W 0 (fun _ => true) true 26 v d p) : ∃ x : KeyV, v = x.val ∧ IsKeyV W x := by
  obtain ⟨cs, rfl, hsz⟩ := okWide_struct Tryd.underlying26 hv
  have hsz6 : cs.size = 2 := hsz.trans (by kernel_rfl)
  obtain ⟨l⟩ := cs
  obtain ⟨fuel, hf⟩ := h
  obtain ⟨xs, n, _, _, _, hlen, hg⟩ := DataW.trod_struct Tryd.underlying26 hf
  match l, hsz6 with
  | [c0, c1], _ =>
    match xs, hlen with
    | [y0, y1], _ =>
      have g0 : DataW.trod enc Tryd.prog W 0 (fun _ => true) true n 23 [c0] = some y0 := by simpa [Value.cells, show Tryd.prog.cellsOf 23 = 1 by kernel_rfl] using hg 0 _ rfl
      obtain ⟨A0, n0, k0, rfl⟩ : ∃ A n k, c0 = Value.slice A n k := slice_of g0
      obtain ⟨b0, B0⟩ := open_bs Tryd.underlying23 Tryd.underlying5 (by kernel_rfl) (show DataW.trod enc Tryd.prog W 0 (fun _ => true) true n 23 (Value.slice A0 n0 k0).cells.toList = some (y0.1, y0.2) by simpa [Value.cells] using g0)
      have g1 : DataW.trod enc Tryd.prog W 0 (fun _ => true) true n 24 [c1] = some y1 := by simpa [Value.cells, show Tryd.prog.cellsOf 24 = 1 by kernel_rfl] using hg 1 _ rfl
      obtain ⟨z1, e1, _, w1⟩ := DataW.trod_int Tryd.underlying24 g1
      injection e1 with e1 _
      subst e1
      have bd1 := bounds_u64 w1
      have v1 : ((z1.toNat : Nat) : Int) = z1 := by omega
      refine ⟨⟨A0, n0, k0, b0, z1.toNat⟩, ?_, ?_⟩
      · unfold KeyV.val KeyV.cells; simp only [v1]
      · exact ⟨B0, by show z1.toNat < 18446744073709551616; omega⟩
end
/-- Loading an array, whatever world it is. -/
theorem up_load {P : Program} {W : World} {ops : Array Oper} {Q : Act → Prop} {a : Act} {o : Oper} {rest : List Oper} (hw : Region.wanted o (yielded ops a.tmps) = true) (ty : TypeId) (x : Operand) (ho : o.op = .load ty x)
    (g : Nat) (hx : a.eval x = .pointer (some ⟨g, 0, none⟩)) (t : TypeId) (cs : Array Value) (fr : Nat × Nat) (d : TypeDesc) (hg : W.heap[g]? = some (.cells cs t fr))
    (hu : P.underlying ty = some d) (hd : (match d with | .struct _ | .array _ _ => true | _ => false) = true) (hi : (P.info? ty).map (·.size) = some cs.size)
    (h : wpQuiet P ops (fun w' => ∃ x : Up W, w' = x.w) Q rest (a.put o.dst (.agg cs))) : wpQuiet P ops (fun w' => ∃ x : Up W, w' = x.w) Q (o :: rest) a := by
  refine wpQuiet_step fun K hK => ?_
  rw [if_pos hw]
  refine ⟨.agg cs, fun w hw => ?_, hK _ h⟩
  obtain ⟨y, rfl⟩ := hw
  unfold Oper.quietAt execOp
  simp only [ho, hx, Instr.loadAt, Instr.sureAddr, Sem.run_bind, Sem.run_pure, Result.andThen_ok, run_loadVar_row y.w g t ty cs fr d (y.heap hg) hu hd hi]
  exact ⟨rfl, rfl⟩
theorem rb_sub6 {w : World} {g o n : Nat} {bs : List UInt8} (h : RB w (some ⟨g, o, none⟩) n bs) (a k : Nat) (hk : a + k ≤ n) : RB w (some ⟨g, o + a, none⟩) k ((bs.drop a).take k) := by
  have h1 := (h.2.drop_ a).take_ k
  refine ⟨by rw [List.length_take, List.length_drop, h.1]; omega, ?_⟩
  have h2 : (some (⟨g, o, none⟩ : Addr)).map (·.add a) = some ⟨g, o + a, none⟩ := by simp [Addr.add]
  rw [h2] at h1
  exact h1
theorem of_laid {W : World} (h : laidMetH Tryd.prog Rows.rsaKeysRow.laid W) : Lens W := by
  rw [MakeChecks.laidMetH_plain _ _ _ (by kernel_rfl)] at h
  have ht : Lib.TabIs Tryd.prog W "lintel/rsa.lengths" .i64 lensZ :=
    Lib.tabIs_of_head (rest := []) g_lens (show (Tryd.prog.globals[0]?).map (·.type) = some 48 by kernel_rfl) Tryd.underlying48 Tryd.underlying3 (by kernel_rfl) (by kernel_rfl) h
  exact ⟨by have := World.var?_cell g_lens ht 0; have := World.block_lt_of_cell? W _ (this.trans (show _ = some (.int .i64 256) from rfl)); exact this, ht⟩
end Go.Proofs.YtbplchpbaonadaaDoor
