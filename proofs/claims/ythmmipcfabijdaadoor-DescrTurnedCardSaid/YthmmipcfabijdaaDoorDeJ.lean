/-
  descr: the statement on bytes that are turned, and cut.
-/
import Derived.Test.YthmmipcfabijdaaDoorDeI
import Derived.Laws.BitsAllLaws
namespace Go.Proofs.YthmmipcfabijdaaDoor
open Go.RowKit Go
set_option linter.unusedVariables false
set_option maxRecDepth 100000
attribute [local go_sem ↓] Go.wp_at_zero Go.wp_at_succ
theorem u8_xor (x b : UInt8) : bits BinOp.xor IntKind.u8 (x.toNat : Int) (b.toNat : Int) = ((x ^^^ b).toNat : Int) := by
  rw [u8_xor_nat _ _ x.toNat_lt b.toNat_lt, UInt8.toNat_xor]
theorem xor_same (x b : UInt8) (h : b ≠ 0) : x ^^^ b ≠ x := fun e => h (by
  have h2 : x ^^^ (x ^^^ b) = x ^^^ x := by rw [e]
  rw [← UInt8.xor_assoc, UInt8.xor_self, UInt8.zero_xor] at h2
  exact h2)
theorem set_self {l : List UInt8} {k : Nat} {q : UInt8} (h : l[k]? = some q) : l.set k q = l := by
  apply List.ext_getElem?
  intro i
  by_cases e : k = i
  · subst e
    have hk : k < l.length := (List.getElem?_eq_some_iff.1 h).1
    rw [List.getElem?_set_self hk, h]
  · rw [List.getElem?_set_ne e]
theorem dW_mark (t : Tm) (bl da : List UInt8) (k : Nat) (hk : k < 20) : (dW t bl da)[20 + k]? = marksL[k]? := by
  have h := cut_get (dW t bl da) 20 20 k hk
  rw [dW_20] at h
  exact h.symm
set_option maxHeartbeats 16000000 in
theorem turned_no (t : Tm) (P : Option Addr) (pn pc : Nat) (pb : List UInt8) (D : Option Addr) (dn dc : Nat) (db : List UInt8) (a : Nat) (b : UInt8) (cu : Nat) (w : World) (hP : RB w P pn pb) (hD : RB w D dn db) (hdc : dn ≤ dc) (hdc2 : dc ≤ 9223372036854775807) (hy : t.y < 65536) (ha : a < 256) (hcu : cu < 65536) (hpn : pn ≤ 4096) (hdn : dn ≤ 4096) (hT : Sizes w) (hok : okW t pn = false) :
    Calls Tryd.prog 5 #[tmV t, .slice P pn pc, .slice D dn dc, .int .u8 (a : Int), .int .u8 (b.toNat : Int), .int .u16 (cu : Int)] w fun e w' => e = .returned (.bool true) ∧ Below w.heap.size w w' := by
  have WK := Lib.hid (fun W (h : Sizes W) => works_any W h)
  have d2 : decide (4096 < (pn : Int)) = false := decide_eq_false (by omega)
  have d3 : decide (4096 < (dn : Int)) = false := decide_eq_false (by omega)
  have TP := Lib.hid (fun W (h : Below w.heap.size w W) => twin_any P pn pc pb W (hP.below h) (by omega))
  have TD := Lib.hid (fun W (h : Below w.heap.size w W) => twin_any D dn dc db W (hD.below h) (by omega))
  have WT := fun A c D d W hs hA hD => dwrite_any t A pn c pb D dn d db W hs hy hA hD (by omega) (by omega)
  rw [hok] at WT
  have hme := dW_len t pb db
  have HPL := Lib.hid hP.1
  have HDL := Lib.hid hD.1
  have beq_me : ∀ xs : List UInt8, (xs == xs) = true := fun xs => by simp
  generalize dW t pb db = wl at *
  clear hme hok
  have WT := Lib.hid WT
  obtain ⟨y, mo, dd, hh, mi, ss⟩ := t
  simp only [tmV, Tm.cells] at *
  go_enter Tryd.func5, Tryd.ntmps5
  go_wp2_with fail
  refine wp_named fun w0 hw0 => ?_
  have hbw0 : Below w.heap.size w w0 := by subst hw0; exact (Below.refl _ _).alloc (Nat.le_refl _) _
  have k0 := heap_named hw0 (heap_alloc_new w _)
  clear hw0
  have KB0 : KB w w.heap.size (.cells #[.int .u16 (y : Int), .int .u8 (mo.toNat : Int), .int .u8 (dd.toNat : Int), .int .u8 (hh.toNat : Int), .int .u8 (mi.toNat : Int), .int .u8 (ss.toNat : Int)] 25) w0 := ⟨hbw0, k0⟩
  clear k0 hbw0
  have hz1 := heap_lt KB0.h
  have KK0 := Lib.hid KB0
  have KEEP : Hid (∀ W, KB w w.heap.size (.cells #[.int .u16 (y : Int), .int .u8 (mo.toNat : Int), .int .u8 (dd.toNat : Int), .int .u8 (hh.toNat : Int), .int .u8 (mi.toNat : Int), .int .u8 (ss.toNat : Int)] 25) W → (W.cell? ⟨w.heap.size, 0, none⟩ = some (.int .u16 (y : Int)) ∧ W.cell? ⟨w.heap.size, 1, none⟩ = some (.int .u8 (mo.toNat : Int)) ∧ W.cell? ⟨w.heap.size, 2, none⟩ = some (.int .u8 (dd.toNat : Int)) ∧ W.cell? ⟨w.heap.size, 3, none⟩ = some (.int .u8 (hh.toNat : Int)) ∧ W.cell? ⟨w.heap.size, 4, none⟩ = some (.int .u8 (mi.toNat : Int)) ∧ W.cell? ⟨w.heap.size, 5, none⟩ = some (.int .u8 (ss.toNat : Int))) ∧ KB w w.heap.size (.cells #[.int .u16 (y : Int), .int .u8 (mo.toNat : Int), .int .u8 (dd.toNat : Int), .int .u8 (hh.toNat : Int), .int .u8 (mi.toNat : Int), .int .u8 (ss.toNat : Int)] 25) W) := fun W h => ⟨cells6 h.h, h⟩
  go_region_held3 (fun W => (W.cell? ⟨w.heap.size, 0, none⟩ = some (.int .u16 (y : Int)) ∧ W.cell? ⟨w.heap.size, 1, none⟩ = some (.int .u8 (mo.toNat : Int)) ∧ W.cell? ⟨w.heap.size, 2, none⟩ = some (.int .u8 (dd.toNat : Int)) ∧ W.cell? ⟨w.heap.size, 3, none⟩ = some (.int .u8 (hh.toNat : Int)) ∧ W.cell? ⟨w.heap.size, 4, none⟩ = some (.int .u8 (mi.toNat : Int)) ∧ W.cell? ⟨w.heap.size, 5, none⟩ = some (.int .u8 (ss.toNat : Int))) ∧ KB w w.heap.size (.cells #[.int .u16 (y : Int), .int .u8 (mo.toNat : Int), .int .u8 (dd.toNat : Int), .int .u8 (hh.toNat : Int), .int .u8 (mi.toNat : Int), .int .u8 (ss.toNat : Int)] 25) W)
    ((apply KEEP.out; repeat (with_reducible (first | assumption | refine KB.drew ?_))))
    (first
      | (go_at_call 8; (with_reducible refine (TP.out _ (by (go_split_ands; exact KB.b (by assumption)))).mono ?_); (rintro e X3 ⟨A3, n3, c3, rfl, hown3, hb3⟩; obtain rfl : pn = n3 := HPL.out.symm.trans hown3.len; have K3 := KB.call (w := w) (g := w.heap.size) (o := .cells #[.int .u16 (y : Int), .int .u8 (mo.toNat : Int), .int .u8 (dd.toNat : Int), .int .u8 (hh.toNat : Int), .int .u8 (mi.toNat : Int), .int .u8 (ss.toNat : Int)] 25) (by (go_split_ands; assumption)) hb3; have KK3 := Lib.hid K3; have O3 := Lib.hid hown3; have hz3 : w0.heap.size ≤ X3.heap.size := hb3.size; clear hown3 hb3))
      | (go_at_call 8; (with_reducible refine (TD.out _ (by (go_split_ands; exact KB.b (by assumption)))).mono ?_); (rintro e X4 ⟨A4, n4, c4, rfl, hown4, hb4⟩; obtain rfl : dn = n4 := HDL.out.symm.trans hown4.len; have K4 := KB.call (w := w) (g := w.heap.size) (o := .cells #[.int .u16 (y : Int), .int .u8 (mo.toNat : Int), .int .u8 (dd.toNat : Int), .int .u8 (hh.toNat : Int), .int .u8 (mi.toNat : Int), .int .u8 (ss.toNat : Int)] 25) (by (go_split_ands; assumption)) hb4; have KK4 := Lib.hid K4; have O4 := Lib.hid hown4; have O34 := Lib.hid (O3.out.below hb4 (Nat.le_refl _)); have hz4 : X3.heap.size ≤ X4.heap.size := hb4.size; clear hown4 hb4))
      | (go_at_call 12; (with_reducible refine (WT.out _ _ _ _ _ (hT.below' KK4.out.b) O34.out.rb O4.out.rb).mono ?_); (rintro e X5 ⟨A5, n5, c5, rfl, hown5, hb5⟩; have K5 := KB.call (w := w) (g := w.heap.size) (o := .cells #[.int .u16 (y : Int), .int .u8 (mo.toNat : Int), .int .u8 (dd.toNat : Int), .int .u8 (hh.toNat : Int), .int .u8 (mi.toNat : Int), .int .u8 (ss.toNat : Int)] 25) KK4.out hb5; have KK5 := Lib.hid K5; have O5 := Lib.hid hown5; have hz5 : X4.heap.size ≤ X5.heap.size := hb5.size; clear hown5 hb5)))
  have hbw5 := KK5.out.b
  have hs5 := hbw5.size
  have k5 := KK5.out.h
  have hl5 : n5 = 0 := O5.out.len.symm
  subst hl5
  go_wp2_with fail
  refine (WK.out _ (hT.below' hbw5)).mono ?_
  intro e w9 hw9
  obtain ⟨rfl, hb9⟩ := hw9
  have hbw9 := hbw5.trans (hb9.mono hs5)
  clear hb9
  go_wp2
  go_ret
  exact ⟨rfl, hbw9⟩
end Go.Proofs.YthmmipcfabijdaaDoor
