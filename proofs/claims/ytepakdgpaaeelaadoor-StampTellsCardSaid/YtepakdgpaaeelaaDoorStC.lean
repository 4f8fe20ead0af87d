/-
  stamp: the moment of parts; the years of two digits and of four.
-/
import Derived.Test.YtepakdgpaaeelaaDoorStB
import Derived.Lib.Builder
import Derived.Laws.ResultCell
import Derived.Laws.Rows
namespace Go.Proofs.YtepakdgpaaeelaaDoor
open Go.RowKit Go
set_option linter.unusedVariables false
set_option maxRecDepth 100000
def partsV (t : Tm) : Value := .agg #[.int .i64 (t.y : Int), .int .i64 (t.mo.toNat : Int), .int .i64 (t.d.toNat : Int), .int .i64 (t.h.toNat : Int), .int .i64 (t.mi.toNat : Int), .int .i64 (t.s.toNat : Int)]
def optV (r : Option Tm) : Value := .tuple #[tmV (r.getD Tm.zero), .bool r.isSome]
def rightO (t : Tm) : Option Tm := if rightB t then some t else none
theorem alloc3_2 (w : World) (a b c : Obj) : (((w.alloc a).alloc b).alloc c).heap[w.heap.size + 1 + 1]? = some c := by
  have := heap_alloc_new ((w.alloc a).alloc b) c
  simpa using this
theorem alloc3_1 (w : World) (a b c : Obj) : (((w.alloc a).alloc b).alloc c).heap[w.heap.size + 1]? = some b := by
  rw [heap_alloc_old _ _ (by simp)]
  have := heap_alloc_new (w.alloc a) b
  simpa using this
theorem heap_set_here (w : World) (g j : Nat) (cs : Array Value) (t : TypeId) (fr : Nat × Nat) (u : Value) (hg : w.heap[g]? = some (.cells cs t fr)) : (w.setCell ⟨g, j, none⟩ u).heap[g]? = some (.cells (cs.setIfInBounds j u) t fr) := by
  have hlt := (Array.getElem?_eq_some_iff.1 hg).1
  simp [World.setCell, Array.getElem?_modify, hg]
/-- A moment that is stored whole. -/
theorem heap_set_tm (w : World) (g : Nat) (t t0 : Tm) (hg : w.heap[g]? = some (.cells t0.cells 25)) :
    ((((((w.setCell ⟨g, 0, none⟩ (.int .u16 (t.y : Int))).setCell ⟨g, 1, none⟩ (.int .u8 (t.mo.toNat : Int))).setCell ⟨g, 2, none⟩ (.int .u8 (t.d.toNat : Int))).setCell ⟨g, 3, none⟩ (.int .u8 (t.h.toNat : Int))).setCell ⟨g, 4, none⟩ (.int .u8 (t.mi.toNat : Int))).setCell ⟨g, 5, none⟩ (.int .u8 (t.s.toNat : Int))).heap[g]? = some (.cells t.cells 25) :=
  heap_set_here _ _ _ _ _ _ _ (heap_set_here _ _ _ _ _ _ _ (heap_set_here _ _ _ _ _ _ _ (heap_set_here _ _ _ _ _ _ _ (heap_set_here _ _ _ _ _ _ _ (heap_set_here _ _ _ _ _ _ _ hg)))))
theorem results_tm {fn : Func} {p u : Tmp} (h : fn.results = #[.cell p 25, .tmp u]) (tmps : Array Value) (w : World) (g : Nat) (t : Tm) (hp : tmps.getD p undef = .pointer (some ⟨g, 0, none⟩)) (hg : w.heap[g]? = some (.cells t.cells 25)) :
    (results fn tmps).run Tryd.prog w = .ok (.tuple #[tmV t, tmps.getD u undef]) w := by
  rw [results_cell_tmp h, hp]
  simp [asAddr, run_loadVar_row w g _ 25 t.cells _ _ hg Tryd.underlying25 rfl (by kernel_rfl), Result.andThen, tmV]
theorem time_any (t : Tm) (w : World) (hy : t.y < 65536) : Calls Tryd.prog 45 #[partsV t] w fun e w' => e = .returned (optV (rightO t)) ∧ Below w.heap.size w w' := by
  have R := Lib.hid (fun W => right_any t W hy)
  have HO : ∀ b, rightB t = b → rightO t = if b then some t else none := fun b h => by unfold rightO; rw [h]
  have HO := Lib.hid HO
  have h1 := t.mo.toNat_lt
  have h2 := t.d.toNat_lt
  have h3 := t.h.toNat_lt
  have h4 := t.mi.toNat_lt
  have h5 := t.s.toNat_lt
  unfold partsV
  obtain ⟨y, mo, d, h, mi, s⟩ := t
  simp only at hy h1 h2 h3 h4 h5 ⊢
  cases hb : rightB ⟨y, mo, d, h, mi, s⟩ with
  | true =>
    rw [HO.out _ hb]
    rw [hb] at R
    clear hb HO
    go_enter Tryd.func45, Tryd.ntmps45
    go_wp2_with fail
    refine (R.out _).mono ?_
    intro e w3 hw3
    obtain ⟨rfl, hb3⟩ := hw3
    have k2 := (hb3.block (w.heap.size + 1 + 1) (by simp)).trans (alloc3_2 w _ _ _)
    have k1 := (hb3.block (w.heap.size + 1) (by simp)).trans (alloc3_1 w _ _ _)
    have hbw : Below w.heap.size w w3 := ((((Below.refl _ _).alloc (Nat.le_refl _) _).alloc (by simp) _).alloc (by simp; omega) _).trans (hb3.mono (by simp; omega))
    have l0 : w3.cell? ⟨w.heap.size + 1 + 1, 0, none⟩ = some (.int .u16 (y : Int)) := Lib.cell_of_heap k2 0
    have z0 : w3.cell? ⟨w.heap.size + 1, 0, none⟩ = some (.int .u16 0) := Lib.cell_of_heap k1 0
    have f0 : w3.frozen? ⟨w.heap.size + 1, 0, none⟩ = false := Lib.frozen_of_heap k1 0
    have l1 : w3.cell? ⟨w.heap.size + 1 + 1, 1, none⟩ = some (.int .u8 (mo.toNat : Int)) := Lib.cell_of_heap k2 1
    have z1 : w3.cell? ⟨w.heap.size + 1, 1, none⟩ = some (.int .u8 0) := Lib.cell_of_heap k1 1
    have f1 : w3.frozen? ⟨w.heap.size + 1, 1, none⟩ = false := Lib.frozen_of_heap k1 1
    have l2 : w3.cell? ⟨w.heap.size + 1 + 1, 2, none⟩ = some (.int .u8 (d.toNat : Int)) := Lib.cell_of_heap k2 2
    have z2 : w3.cell? ⟨w.heap.size + 1, 2, none⟩ = some (.int .u8 0) := Lib.cell_of_heap k1 2
    have f2 : w3.frozen? ⟨w.heap.size + 1, 2, none⟩ = false := Lib.frozen_of_heap k1 2
    have l3 : w3.cell? ⟨w.heap.size + 1 + 1, 3, none⟩ = some (.int .u8 (h.toNat : Int)) := Lib.cell_of_heap k2 3
    have z3 : w3.cell? ⟨w.heap.size + 1, 3, none⟩ = some (.int .u8 0) := Lib.cell_of_heap k1 3
    have f3 : w3.frozen? ⟨w.heap.size + 1, 3, none⟩ = false := Lib.frozen_of_heap k1 3
    have l4 : w3.cell? ⟨w.heap.size + 1 + 1, 4, none⟩ = some (.int .u8 (mi.toNat : Int)) := Lib.cell_of_heap k2 4
    have z4 : w3.cell? ⟨w.heap.size + 1, 4, none⟩ = some (.int .u8 0) := Lib.cell_of_heap k1 4
    have f4 : w3.frozen? ⟨w.heap.size + 1, 4, none⟩ = false := Lib.frozen_of_heap k1 4
    have l5 : w3.cell? ⟨w.heap.size + 1 + 1, 5, none⟩ = some (.int .u8 (s.toNat : Int)) := Lib.cell_of_heap k2 5
    have z5 : w3.cell? ⟨w.heap.size + 1, 5, none⟩ = some (.int .u8 0) := Lib.cell_of_heap k1 5
    have f5 : w3.frozen? ⟨w.heap.size + 1, 5, none⟩ = false := Lib.frozen_of_heap k1 5
    have K1 := Lib.hid k1
    clear k1 k2
    have hs : ∀ (W : World) (j : Nat) (u : Value), Below w.heap.size w W → Below w.heap.size w (W.setCell ⟨w.heap.size + 1, j, none⟩ u) := fun W j u hW => hW.setCell (by simp) u
    go_wp2
    all_goals refine bodyPost_ret (results_tm rfl _ _ (w.heap.size + 1) ⟨y, mo, d, _, mi, s⟩ rfl (heap_set_tm _ _ ⟨y, mo, d, _, mi, s⟩ Tm.zero K1.out)) rfl ?_
    all_goals exact ⟨rfl, hs _ _ _ (hs _ _ _ (hs _ _ _ (hs _ _ _ (hs _ _ _ (hs _ _ _ hbw)))))⟩
  | false =>
    rw [HO.out _ hb]
    rw [hb] at R
    clear hb HO
    go_enter Tryd.func45, Tryd.ntmps45
    go_wp2_with fail
    refine (R.out _).mono ?_
    intro e w3 hw3
    obtain ⟨rfl, hb3⟩ := hw3
    have k2 := (hb3.block (w.heap.size + 1 + 1) (by simp)).trans (alloc3_2 w _ _ _)
    have k1 := (hb3.block (w.heap.size + 1) (by simp)).trans (alloc3_1 w _ _ _)
    have hbw : Below w.heap.size w w3 := ((((Below.refl _ _).alloc (Nat.le_refl _) _).alloc (by simp) _).alloc (by simp; omega) _).trans (hb3.mono (by simp; omega))
    have l0 : w3.cell? ⟨w.heap.size + 1 + 1, 0, none⟩ = some (.int .u16 (y : Int)) := Lib.cell_of_heap k2 0
    have z0 : w3.cell? ⟨w.heap.size + 1, 0, none⟩ = some (.int .u16 0) := Lib.cell_of_heap k1 0
    have f0 : w3.frozen? ⟨w.heap.size + 1, 0, none⟩ = false := Lib.frozen_of_heap k1 0
    have l1 : w3.cell? ⟨w.heap.size + 1 + 1, 1, none⟩ = some (.int .u8 (mo.toNat : Int)) := Lib.cell_of_heap k2 1
    have z1 : w3.cell? ⟨w.heap.size + 1, 1, none⟩ = some (.int .u8 0) := Lib.cell_of_heap k1 1
    have f1 : w3.frozen? ⟨w.heap.size + 1, 1, none⟩ = false := Lib.frozen_of_heap k1 1
    have l2 : w3.cell? ⟨w.heap.size + 1 + 1, 2, none⟩ = some (.int .u8 (d.toNat : Int)) := Lib.cell_of_heap k2 2
    have z2 : w3.cell? ⟨w.heap.size + 1, 2, none⟩ = some (.int .u8 0) := Lib.cell_of_heap k1 2
    have f2 : w3.frozen? ⟨w.heap.size + 1, 2, none⟩ = false := Lib.frozen_of_heap k1 2
    have l3 : w3.cell? ⟨w.heap.size + 1 + 1, 3, none⟩ = some (.int .u8 (h.toNat : Int)) := Lib.cell_of_heap k2 3
    have z3 : w3.cell? ⟨w.heap.size + 1, 3, none⟩ = some (.int .u8 0) := Lib.cell_of_heap k1 3
    have f3 : w3.frozen? ⟨w.heap.size + 1, 3, none⟩ = false := Lib.frozen_of_heap k1 3
    have l4 : w3.cell? ⟨w.heap.size + 1 + 1, 4, none⟩ = some (.int .u8 (mi.toNat : Int)) := Lib.cell_of_heap k2 4
    have z4 : w3.cell? ⟨w.heap.size + 1, 4, none⟩ = some (.int .u8 0) := Lib.cell_of_heap k1 4
    have f4 : w3.frozen? ⟨w.heap.size + 1, 4, none⟩ = false := Lib.frozen_of_heap k1 4
    have l5 : w3.cell? ⟨w.heap.size + 1 + 1, 5, none⟩ = some (.int .u8 (s.toNat : Int)) := Lib.cell_of_heap k2 5
    have z5 : w3.cell? ⟨w.heap.size + 1, 5, none⟩ = some (.int .u8 0) := Lib.cell_of_heap k1 5
    have f5 : w3.frozen? ⟨w.heap.size + 1, 5, none⟩ = false := Lib.frozen_of_heap k1 5
    have K1 := Lib.hid k1
    clear k1 k2
    have hs : ∀ (W : World) (j : Nat) (u : Value), Below w.heap.size w W → Below w.heap.size w (W.setCell ⟨w.heap.size + 1, j, none⟩ u) := fun W j u hW => hW.setCell (by simp) u
    go_wp2
    all_goals refine bodyPost_ret (results_tm rfl _ _ (w.heap.size + 1) Tm.zero rfl (heap_set_tm _ _ Tm.zero Tm.zero K1.out)) rfl ?_
    all_goals exact ⟨rfl, hs _ _ _ (hs _ _ _ (hs _ _ _ (hs _ _ _ (hs _ _ _ (hs _ _ _ hbw)))))⟩
def yearU (v : Int) : Int := if v < 0 then v else if v < 50 then v + 2000 else v + 1900
theorem utcYear_any (P0 P1 : Nat) (A : Option Addr) (n c : Nat) (bs : List UInt8) (w : World) (h : Next w P0 P1 A n c bs 0) (hk : 2 ≤ n) (hn : n ≤ 1000000) :
    Calls Tryd.prog 33 #[.func (Fn.func 51) #[] #[.pointer (some ⟨P0, 0, none⟩), .pointer (some ⟨P1, 0, none⟩)]] w fun e w' => e = .returned (.int .i64 (yearU (pairAt bs 0))) ∧ Next w' P0 P1 A n c bs 2 ∧ w.grownBy w' (some P1) := by
  have X := Lib.hid (next_any P0 P1 A n c bs 0 w h (by omega) hn)
  have hb := pairI_le (bs.getD 0 0) (bs.getD (0 + 1) 0)
  have hb : -1 ≤ pairAt bs 0 ∧ pairAt bs 0 ≤ 99 := hb
  generalize pairAt bs 0 = v at X hb
  obtain ⟨b1, b2⟩ := hb
  have hfin : ∀ z : Int, z = yearU v → Ending.returned (.int .i64 z) = Ending.returned (.int .i64 (yearU v)) := fun z hz => by rw [hz]
  have HF := Lib.hid hfin
  clear hfin
  go_enter Tryd.func33, Tryd.ntmps33
  go_wp2_with fail
  refine X.out.mono ?_
  rintro e w1 ⟨rfl, hN, hg⟩
  go_wp2
  all_goals go_ret
  all_goals (refine ⟨HF.out _ ?_, hN, hg⟩; unfold yearU; repeat' split)
  all_goals omega
def yearG (u v : Int) : Int := if u < 0 ∨ v < 0 then -1 else 100 * u + v
theorem genYear_any (P0 P1 : Nat) (A : Option Addr) (n c : Nat) (bs : List UInt8) (w : World) (h : Next w P0 P1 A n c bs 0) (hk : 4 ≤ n) (hn : n ≤ 1000000) :
    Calls Tryd.prog 36 #[.func (Fn.func 51) #[] #[.pointer (some ⟨P0, 0, none⟩), .pointer (some ⟨P1, 0, none⟩)]] w fun e w' => e = .returned (.int .i64 (yearG (pairAt bs 0) (pairAt bs 2))) ∧ Next w' P0 P1 A n c bs 4 ∧ w.grownBy w' (some P1) := by
  have X := Lib.hid (next_any P0 P1 A n c bs 0 w h (by omega) hn)
  have Y := Lib.hid (fun W (h : Next W P0 P1 A n c bs 2) => next_any P0 P1 A n c bs 2 W h (by omega) hn)
  have hb : -1 ≤ pairAt bs 0 ∧ pairAt bs 0 ≤ 99 := pairI_le _ _
  have hc : -1 ≤ pairAt bs 2 ∧ pairAt bs 2 ≤ 99 := pairI_le _ _
  generalize pairAt bs 0 = u at X hb
  generalize pairAt bs 2 = v at Y hc
  obtain ⟨b1, b2⟩ := hb
  obtain ⟨c1, c2⟩ := hc
  have hfin : ∀ z : Int, z = yearG u v → Ending.returned (.int .i64 z) = Ending.returned (.int .i64 (yearG u v)) := fun z hz => by rw [hz]
  have HF := Lib.hid hfin
  clear hfin
  go_enter Tryd.func36, Tryd.ntmps36
  go_wp2_with fail
  refine X.out.mono ?_
  rintro e w1 ⟨rfl, hN, hg⟩
  go_wp2_with fail
  refine (Y.out w1 hN).mono ?_
  rintro e w2 ⟨rfl, hN2, hg2⟩
  have hgg : Hid (w.grownBy w2 (some P1)) := ⟨hg2.os.trans hg.os, hg2.tape.trans hg.tape, hg2.output.trans hg.output, Nat.le_trans hg.size hg2.size, fun k hk hne => (hg2.block k (Nat.lt_of_lt_of_le hk hg.size) hne).trans (hg.block k hk hne)⟩
  go_wp2
  all_goals go_ret
  all_goals (refine ⟨HF.out _ ?_, hN2, hgg.out⟩; unfold yearG; split)
  all_goals omega
end Go.Proofs.YtepakdgpaaeelaaDoor
