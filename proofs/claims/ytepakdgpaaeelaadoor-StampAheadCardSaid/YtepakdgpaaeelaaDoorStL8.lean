/-
  stamp: the statement on which digits come first.
-/
import Derived.Test.YtepakdgpaaeelaaDoorStR
import Derived.Test.YtepakdgpaaeelaaDoorStJ
import Derived.Test.YtepakdgpaaeelaaDoorStN
import Derived.Test.YtepakdgpaaeelaaDoorStL2
namespace Go.Proofs.YtepakdgpaaeelaaDoor
open Go.RowKit Go
set_option linter.unusedVariables false
set_option maxRecDepth 100000
attribute [local go_sem ↓] Go.wp_at_zero Go.wp_at_succ
theorem LS.sizes {W w : World} (h : LS W w) (hs : Sizes W) : Sizes w := hs.below' h
theorem run_strOf' (w : World) (A : Option Addr) (n c : Nat) (bs : List UInt8) (h : RB w A n bs) : (convert 22 9 (.slice A n c)).run Tryd.prog w = .ok (.string (strOf bs)) w := by
  obtain ⟨rfl, hb⟩ := h
  exact run_strOf w _ A bs c hb
set_option maxHeartbeats 3200000 in
theorem ahead_row (t u : Tm) (w : World) (ht : IsTm w t) (hu : IsTm w u) (hT : Sizes w) :
    Calls Tryd.prog 11 #[tmV t, tmV u] w fun e w' => e = .returned (.bool true) ∧ Below w.heap.size w w' := by
  have WK := Lib.hid (fun W (h : Sizes W) => works_any W h)
  have R1 := Lib.hid (fun W => right_any t W ht)
  have R2 := Lib.hid (fun W => right_any u W hu)
  have HB0 : Hid (∀ a b : Obj, Below w.heap.size w ((w.alloc a).alloc b)) := fun a b => ((Below.refl _ _).alloc (Nat.le_refl _) _).alloc (by simp) _
  cases hr : rightB t with
  | false =>
    rw [hr] at R1
    clear hr ht hu R2
    unfold tmV Tm.cells at *
    obtain ⟨yt_, mot_, dt_, ht_, mit_, st_⟩ := t
    obtain ⟨yu_, mou_, du_, hu_, miu_, su_⟩ := u
    simp only at *
    go_enter Tryd.func11, Tryd.ntmps11
    go_wp2_with fail
    refine (R1.out _).mono ?_
    intro e w1 hw1
    obtain ⟨rfl, hb1⟩ := hw1
    have hbw1 : Below w.heap.size w w1 := (HB0.out _ _).trans (hb1.mono (by simp; omega))
    clear hb1 HB0
    go_wp2_with fail
    refine (WK.out _ (hT.below' hbw1)).mono ?_
    intro e w9 hw9
    obtain ⟨rfl, hb9⟩ := hw9
    have hbw9 := hbw1.trans (hb9.mono hbw1.size)
    clear hb9
    go_wp2
    go_ret
    exact ⟨rfl, hbw9⟩
  | true =>
    rw [hr] at R1
    cases hr2 : rightB u with
    | false =>
      rw [hr2] at R2
      clear hr hr2 ht hu
      unfold tmV Tm.cells at *
      obtain ⟨yt_, mot_, dt_, ht_, mit_, st_⟩ := t
      obtain ⟨yu_, mou_, du_, hu_, miu_, su_⟩ := u
      simp only at *
      go_enter Tryd.func11, Tryd.ntmps11
      go_wp2_with fail
      refine (R1.out _).mono ?_
      intro e w1 hw1
      obtain ⟨rfl, hb1⟩ := hw1
      have hbw1 : Below w.heap.size w w1 := (HB0.out _ _).trans (hb1.mono (by simp; omega))
      have hs1 := hbw1.size
      have k1 := (hb1.block w.heap.size (by simp; omega)).trans (heap_alloc2_old w _ _)
      have k2 := (hb1.block (w.heap.size + 1) (by simp)).trans (heap_alloc2_new w _ _)
      clear hb1 HB0
      obtain ⟨ca0, ca1, ca2, ca3, ca4, ca5⟩ := tm_cells k1
      obtain ⟨cb0, cb1, cb2, cb3, cb4, cb5⟩ := tm_cells k2
      go_wp2_with fail
      refine (R2.out _).mono ?_
      intro e w2 hw2
      obtain ⟨rfl, hb2⟩ := hw2
      have hbw2 := hbw1.trans (hb2.mono hs1)
      have hs2 := hbw2.size
      clear ca0 ca1 ca2 ca3 ca4 ca5 cb0 cb1 cb2 cb3 cb4 cb5
      clear k1 k2 hb2
      go_wp2_with fail
      refine (WK.out _ (hT.below' hbw2)).mono ?_
      intro e w9 hw9
      obtain ⟨rfl, hb9⟩ := hw9
      have hbw9 := hbw2.trans (hb9.mono hbw2.size)
      clear hb9
      go_wp2
      go_ret
      exact ⟨rfl, hbw9⟩
    | true =>
      rw [hr2] at R2
      have LX := Lib.hid (fun W => less_any t u W ht hu)
      have XT := Lib.hid (fun W => text_any t W hr)
      have XU := Lib.hid (fun W => text_any u W hr2)
      have hbl := bytes_less hr hr2
      have HL1 := Lib.hid (text_len t)
      have HL2 := Lib.hid (text_len u)
      have CT := Lib.hid (fun A n c W (h : RB W A n (textB t)) => run_strOf' W A n c (textB t) h)
      have CU := Lib.hid (fun A n c W (h : RB W A n (textB u)) => run_strOf' W A n c (textB u) h)
      have hs : Op.bytesLess (strOf (textB t)).toList (strOf (textB u)).toList = lessB t u := by rw [strOf_toList, strOf_toList]; exact hbl
      clear hbl hr hr2 ht hu
      generalize strOf (textB t) = S1 at CT hs
      generalize strOf (textB u) = S2 at CU hs
      generalize textB t = tb at XT HL1 CT
      generalize textB u = ub at XU HL2 CU
      generalize lessB t u = B at LX hs
      have HSS := Lib.hid hs
      clear hs
      unfold tmV Tm.cells at *
      obtain ⟨yt_, mot_, dt_, ht_, mit_, st_⟩ := t
      obtain ⟨yu_, mou_, du_, hu_, miu_, su_⟩ := u
      simp only at *
      go_enter Tryd.func11, Tryd.ntmps11
      go_wp2_with fail
      refine (R1.out _).mono ?_
      intro e w1 hw1
      obtain ⟨rfl, hb1⟩ := hw1
      have hbw1 : Below w.heap.size w w1 := (HB0.out _ _).trans (hb1.mono (by simp; omega))
      have hs1 := hbw1.size
      have k1 := (hb1.block w.heap.size (by simp; omega)).trans (heap_alloc2_old w _ _)
      have k2 := (hb1.block (w.heap.size + 1) (by simp)).trans (heap_alloc2_new w _ _)
      clear hb1 HB0
      obtain ⟨ca0, ca1, ca2, ca3, ca4, ca5⟩ := tm_cells k1
      obtain ⟨cb0, cb1, cb2, cb3, cb4, cb5⟩ := tm_cells k2
      go_wp2_with fail
      refine (R2.out _).mono ?_
      intro e w2 hw2
      obtain ⟨rfl, hb2⟩ := hw2
      have hbw2 := hbw1.trans (hb2.mono hs1)
      have hs2 := hbw2.size
      clear ca0 ca1 ca2 ca3 ca4 ca5 cb0 cb1 cb2 cb3 cb4 cb5
      have q1 := (hb2.block _ (heap_lt k1)).trans k1
      have q2 := (hb2.block _ (heap_lt k2)).trans k2
      have HS2 := Lib.hid (hT.below' hbw2)
      have L0 := LS.refl w2
      have KEEP : Hid (∀ W, LS w2 W → (W.cell? ⟨w.heap.size, 0, none⟩ = some (.int .u16 (yt_ : Int)) ∧ W.cell? ⟨w.heap.size, 1, none⟩ = some (.int .u8 (mot_.toNat : Int)) ∧ W.cell? ⟨w.heap.size, 2, none⟩ = some (.int .u8 (dt_.toNat : Int)) ∧ W.cell? ⟨w.heap.size, 3, none⟩ = some (.int .u8 (ht_.toNat : Int)) ∧ W.cell? ⟨w.heap.size, 4, none⟩ = some (.int .u8 (mit_.toNat : Int)) ∧ W.cell? ⟨w.heap.size, 5, none⟩ = some (.int .u8 (st_.toNat : Int))) ∧ (W.cell? ⟨w.heap.size + 1, 0, none⟩ = some (.int .u16 (yu_ : Int)) ∧ W.cell? ⟨w.heap.size + 1, 1, none⟩ = some (.int .u8 (mou_.toNat : Int)) ∧ W.cell? ⟨w.heap.size + 1, 2, none⟩ = some (.int .u8 (du_.toNat : Int)) ∧ W.cell? ⟨w.heap.size + 1, 3, none⟩ = some (.int .u8 (hu_.toNat : Int)) ∧ W.cell? ⟨w.heap.size + 1, 4, none⟩ = some (.int .u8 (miu_.toNat : Int)) ∧ W.cell? ⟨w.heap.size + 1, 5, none⟩ = some (.int .u8 (su_.toNat : Int))) ∧ LS w2 W) := fun W hW => by
        have r1 := (hW.block _ (heap_lt q1)).trans q1
        have r2 := (hW.block _ (heap_lt q2)).trans q2
        exact ⟨tm_cells r1, tm_cells r2, hW⟩
      clear k1 k2 q1 q2 hb2
      go_wp2
      have hss := HSS.out
      go_region_held (fun W => (W.cell? ⟨w.heap.size, 0, none⟩ = some (.int .u16 (yt_ : Int)) ∧ W.cell? ⟨w.heap.size, 1, none⟩ = some (.int .u8 (mot_.toNat : Int)) ∧ W.cell? ⟨w.heap.size, 2, none⟩ = some (.int .u8 (dt_.toNat : Int)) ∧ W.cell? ⟨w.heap.size, 3, none⟩ = some (.int .u8 (ht_.toNat : Int)) ∧ W.cell? ⟨w.heap.size, 4, none⟩ = some (.int .u8 (mit_.toNat : Int)) ∧ W.cell? ⟨w.heap.size, 5, none⟩ = some (.int .u8 (st_.toNat : Int))) ∧ (W.cell? ⟨w.heap.size + 1, 0, none⟩ = some (.int .u16 (yu_ : Int)) ∧ W.cell? ⟨w.heap.size + 1, 1, none⟩ = some (.int .u8 (mou_.toNat : Int)) ∧ W.cell? ⟨w.heap.size + 1, 2, none⟩ = some (.int .u8 (du_.toNat : Int)) ∧ W.cell? ⟨w.heap.size + 1, 3, none⟩ = some (.int .u8 (hu_.toNat : Int)) ∧ W.cell? ⟨w.heap.size + 1, 4, none⟩ = some (.int .u8 (miu_.toNat : Int)) ∧ W.cell? ⟨w.heap.size + 1, 5, none⟩ = some (.int .u8 (su_.toNat : Int))) ∧ LS w2 W) ((apply KEEP.out; repeat (with_reducible (first | assumption | refine LS.drew ?_ | refine LS.alloc ?_ _))))
        (first
          | ((with_reducible refine (LX.out _).mono ?_); (rintro e W' ⟨rfl, hb⟩; have hls : LS w2 W' := LS.call (by (go_split_ands; assumption)) hb))
          | (go_at_call_of 30 (Value.agg #[.int .u16 (yt_ : Int), .int .u8 (mot_.toNat : Int), .int .u8 (dt_.toNat : Int), .int .u8 (ht_.toNat : Int), .int .u8 (mit_.toNat : Int), .int .u8 (st_.toNat : Int)]); (with_reducible refine (XT.out _).mono ?_); (rintro e W3 ⟨A3, n3, c3, rfl, hown3, hb3⟩; obtain rfl : 15 = n3 := HL1.out.symm.trans hown3.len; have hls3 : LS w2 W3 := LS.call (by (go_split_ands; assumption)) hb3; have HT3 := Lib.hid hown3.rb; have cv3 := CT.out _ _ c3 _ HT3.out; clear hown3))
          | (go_at_call_of 30 (Value.agg #[.int .u16 (yu_ : Int), .int .u8 (mou_.toNat : Int), .int .u8 (du_.toNat : Int), .int .u8 (hu_.toNat : Int), .int .u8 (miu_.toNat : Int), .int .u8 (su_.toNat : Int)]); (with_reducible refine (XU.out _).mono ?_); (rintro e W4 ⟨A4, n4, c4, rfl, hown4, hb4⟩; obtain rfl : 15 = n4 := HL2.out.symm.trans hown4.len; have hls4 : LS w2 W4 := LS.call (by (go_split_ands; assumption)) hb4; have HT4 := Lib.hid hown4.rb; have cv4 := CU.out _ _ c4 _ HT4.out; have cv5 := CT.out _ _ c3 _ (HT3.out.below hb4); clear hown4))
          | ((with_reducible refine (WK.out _ (LS.sizes (by (go_split_ands; assumption)) HS2.out)).mono ?_); (rintro e W5 ⟨rfl, hb5⟩; have hls5 : LS w2 W5 := LS.call (by (go_split_ands; assumption)) hb5)))
      all_goals go_wp2
      all_goals go_ret
      all_goals exact ⟨rfl, hbw2.trans (Below.mono (B := w2.heap.size) (by assumption) hs2)⟩
end Go.Proofs.YtepakdgpaaeelaaDoor
