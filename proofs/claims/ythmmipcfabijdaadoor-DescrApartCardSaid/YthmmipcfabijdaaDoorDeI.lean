/-
  descr: the theorem of the stage.
-/
import Derived.Test.YthmmipcfabijdaaDoorDeH
import Derived.Test.YthmmipcfabijdaaDoorRows
import Derived.MakeChecks
namespace Go.Proofs.YthmmipcfabijdaaDoor
open Go.RowKit Go
set_option linter.unusedVariables false
set_option maxRecDepth 100000
attribute [local go_sem ↓] Go.wp_at_zero Go.wp_at_succ
/-- The world has grown since w, and block g is as it was. -/
structure KB (w : World) (g : Nat) (o : Obj) (W : World) : Prop where
  b : Below w.heap.size w W
  h : W.heap[g]? = some o
theorem KB.drew {w : World} {g : Nat} {o : Obj} {W : World} (h : KB w g o W) : KB w g o W.drew := ⟨h.b.drew, h.h⟩
theorem KB.call {w : World} {g : Nat} {o : Obj} {W W' : World} (h : KB w g o W) (hb : Below W.heap.size W W') : KB w g o W' := ⟨h.b.trans (hb.mono h.b.size), (hb.block _ (heap_lt h.h)).trans h.h⟩
def okW (t : Tm) (bn : Nat) : Bool := rightB t && decide (1 ≤ bn ∧ bn ≤ 65536)
def outW (ok : Bool) (bs : List UInt8) : List UInt8 := match ok with
  | true => bs
  | false => []
def erW (ok : Bool) : Int := match ok with
  | true => 0
  | false => 1
/-- What Write answers, whatever it is. -/
def DWPost (w : World) (ok : Bool) (bs : List UInt8) (e : Ending) (w' : World) : Prop :=
  ∃ A n c, e = .returned (.tuple #[.slice A n c, .int .i64 (erW ok)]) ∧ OwnB w' w.heap.size A n c (outW ok bs) ∧ Below w.heap.size w w'
theorem dwrite_any (t : Tm) (A : Option Addr) (bn bc : Nat) (bl : List UInt8) (D : Option Addr) (dn dc : Nat) (da : List UInt8) (w : World) (hT : Sizes w) (hy : t.y < 65536) (hB : RB w A bn bl) (hD : RB w D dn da) (hbn : bn ≤ 1000000) (hdn : dn ≤ 1000000) :
    Calls Tryd.prog 12 #[tmV t, .slice A bn bc, .slice D dn dc] w (DWPost w (okW t bn) (dW t bl da)) := by
  have hno : okW t bn = false → ∀ e w', (e = .returned (.tuple #[.slice none 0 0, .int .i64 1]) ∧ Below w.heap.size w w') → DWPost w (okW t bn) (dW t bl da) e w' := fun h e w' hp => by
    rw [h]
    exact ⟨none, 0, 0, hp.1, OwnB.nil _ _, hp.2⟩
  by_cases hr : rightB t = true
  · by_cases hf : 1 ≤ bn ∧ bn ≤ 65536
    · have hok : okW t bn = true := by unfold okW; rw [hr, decide_eq_true hf]; rfl
      rw [hok]
      exact dwrite_yes t A bn bc bl D dn dc da w hT hy hB hD hbn hdn hr hf.1 hf.2
    · exact (dwrite_no2 t A bn bc bl D dn dc da w hT hy hB hD hbn hdn hr hf).mono (hno (by unfold okW; rw [decide_eq_false hf]; simp))
  · exact (dwrite_no1 t A bn bc bl D dn dc da w hT hy hB hD hbn hdn (by simpa using hr)).mono (hno (by unfold okW; rw [show rightB t = false by simpa using hr]; rfl))
theorem okW_true {t : Tm} {bn : Nat} (h : okW t bn = true) : rightB t = true ∧ 1 ≤ bn ∧ bn ≤ 65536 := by
  unfold okW at h
  rw [Bool.and_eq_true] at h
  exact ⟨h.1, of_decide_eq_true h.2⟩
theorem of_laid {W : World} (h : laidMetH Tryd.prog Rows.descrBackRow.laid W) : Sizes W := by
  rw [MakeChecks.laidMetH_plain _ _ _ (by kernel_rfl)] at h
  have ht : Lib.TabIs Tryd.prog W "lintel/octet.sizes" .i64 sizesZ :=
    Lib.tabIs_of_head (rest := []) g_sizes (show (Tryd.prog.globals[0]?).map (·.type) = some 68 by kernel_rfl) Tryd.underlying68 Tryd.underlying3 (by kernel_rfl) (by kernel_rfl) h
  exact ⟨by have := World.var?_cell g_sizes ht 0; have := World.block_lt_of_cell? W _ (this.trans (show _ = some (.int .i64 1) from rfl)); exact this, ht⟩
set_option maxHeartbeats 16000000 in
theorem back_yes (A : Option Addr) (n c : Nat) (bs : List UInt8) (t : Tm) (P : Option Addr) (pn pc : Nat) (pb : List UInt8) (D : Option Addr) (dn dc : Nat) (db : List UInt8) (w : World) (hR : RB w A n bs) (hP : RB w P pn pb) (hD : RB w D dn db) (hy : t.y < 65536) (hn : n ≤ 262144) (hpn : pn ≤ 262144) (hdn : dn ≤ 262144) (hT : Sizes w) (hok : okW t pn = true) :
    Calls Tryd.prog 4 #[.slice A n c, tmV t, .slice P pn pc, .slice D dn dc] w fun e w' => e = .returned (.bool true) ∧ Below w.heap.size w w' := by
  have WK := Lib.hid (fun W (h : Sizes W) => works_any W h)
  have d1 : decide (262144 < (n : Int)) = false := decide_eq_false (by omega)
  have d2 : decide (262144 < (pn : Int)) = false := decide_eq_false (by omega)
  have d3 : decide (262144 < (dn : Int)) = false := decide_eq_false (by omega)
  have TA := Lib.hid (fun W (h : Below w.heap.size w W) => twin_any A n c bs W (hR.below h) (by omega))
  have TP := Lib.hid (fun W (h : Below w.heap.size w W) => twin_any P pn pc pb W (hP.below h) (by omega))
  have TD := Lib.hid (fun W (h : Below w.heap.size w W) => twin_any D dn dc db W (hD.below h) (by omega))
  have RDB := Lib.hid (fun A c W hR h1 h2 hs => dread_any A n c bs W hR h1 h2 (by omega) hs)
  have WT := fun A c D d W hs hA hD => dwrite_any t A pn c pb D dn d db W hs hy hA hD (by omega) (by omega)
  rw [hok] at WT
  have hme := dW_len t pb db
  have HLB := Lib.hid hR.1
  have HPL := Lib.hid hP.1
  have HDL := Lib.hid hD.1
  have hrs := Lib.hid (fun x (h : dR bs = some x) => dR_some (t := x.1) (bl := x.2.1) (da := x.2.2) h)
  have beq_me : ∀ xs : List UInt8, (xs == xs) = true := fun xs => by simp
  have HZQ : ∀ W, (Op.equalIn 10000 25 (.agg #[.int .u16 0, .int .u8 0, .int .u8 0, .int .u8 0, .int .u8 0, .int .u8 0]) (.agg #[.int .u16 0, .int .u8 0, .int .u8 0, .int .u8 0, .int .u8 0, .int .u8 0])).run Tryd.prog W = .ok true W := fun W => (tm_same Tm.zero Tm.zero W 9998).trans (by simp)
  have WU := Lib.hid (fun (u : Tm) (hu : u.y < 65536) A bn c bl D dn d da W hs hA hD hb hd => dwrite_any u A bn c bl D dn d da W hs hu hA hD hb hd)
  have SMB := Lib.hid (fun A1 A2 n1 n2 c1 c2 xs W h1 h2 => same_any A1 A2 n1 n2 c1 c2 xs xs W h1 h2)
  obtain ⟨m, hm⟩ : ∃ m, m = 40 + pn + dn := ⟨_, rfl⟩
  have hml : (dW t pb db).length = m := by rw [hme, HPL.out, HDL.out, hm]
  have hm9 : m ≤ 1000000 := by omega
  have hrc : dR (dW t pb db) = some (t, pb, db) := dR_dW db (okW_true hok).1 (by rw [HPL.out]; exact (okW_true hok).2.1) (by rw [HPL.out]; exact (okW_true hok).2.2)
  have HEQ : ∀ W, (Op.equalIn 10000 25 (.agg t.cells) (.agg t.cells)).run Tryd.prog W = .ok true W := fun W => (tm_same t t W 9998).trans (by simp)
  have SM := Lib.hid (fun A1 A2 c1 c2 n1 n2 W h1 h2 => same_any A1 A2 n1 n2 c1 c2 pb pb W h1 h2)
  have SM2 := Lib.hid (fun A1 A2 c1 c2 n1 n2 W h1 h2 => same_any A1 A2 n1 n2 c1 c2 db db W h1 h2)
  generalize dW t pb db = wl at *
  have RC := Lib.hid (fun A c W hR h1 h2 hs => dread_any A m c wl W hR h1 h2 (by omega) hs)
  have HRC := Lib.hid hrc
  have HML := Lib.hid hml
  clear hm hml hrc hme hok
  have WT := Lib.hid WT
  obtain ⟨y, mo, dd, hh, mi, ss⟩ := t
  simp only [tmV, Tm.cells] at *
  go_enter Tryd.func4, Tryd.ntmps4
  go_wp2_with fail
  refine calls_named fun w0 hw0 => ?_
  have hbw0 : Below w.heap.size w w0 := below_named hw0 ((Below.refl _ _).alloc (Nat.le_refl _) _)
  have k0 := heap_named hw0 (heap_alloc_new w _)
  have hs0 := hbw0.size
  clear hw0
  refine (TA.out w0 hbw0).mono ?_
  rintro e w1 ⟨Aa, na, ca, rfl, oa1, hb1⟩
  obtain rfl : n = na := HLB.out.symm.trans oa1.len
  have hbw1 := hbw0.trans (hb1.mono hs0)
  have hs1 := hbw1.size
  have k1 := (hb1.block _ (heap_lt k0)).trans k0
  have hz1 : w0.heap.size ≤ w1.heap.size := hb1.size
  clear hb1 k0
  have hcp := oa1.cap
  unfold maxLen at hcp
  go_wp2_with fail
  refine (RDB.out Aa ca w1 oa1.rb hcp.1 (by omega) (hT.below' hbw1)).mono ?_
  intro e w2 hp
  unfold DReadPost at hp
  cases hrq : dR bs with
  | none =>
    rw [hrq] at hp
    obtain ⟨rfl, hb2⟩ := hp
    clear hrq
    have hbw2 := hbw1.trans (hb2.mono hs1)
    have hs2 := hbw2.size
    have k2 := (hb2.block _ (heap_lt k1)).trans k1
    have hz2 : w1.heap.size ≤ w2.heap.size := hb2.size
    clear hb2 k1
    have hlk := heap_lt k2
    go_wp2_with fail
    refine wp_named fun w3 hw3 => ?_
    have hb3 : Below w2.heap.size w2 w3 := by subst hw3; exact (Below.refl _ _).alloc (Nat.le_refl _) _
    clear hw3
    have hbw3 := hbw2.trans (hb3.mono hs2)
    have hs3 := hbw3.size
    have k3 := (hb3.block _ (heap_lt k2)).trans k2
    have hz3 : w2.heap.size ≤ w3.heap.size := hb3.size
    clear hb3 k2
    have KB0 : KB w w.heap.size (.cells #[.int .u16 (y : Int), .int .u8 (mo.toNat : Int), .int .u8 (dd.toNat : Int), .int .u8 (hh.toNat : Int), .int .u8 (mi.toNat : Int), .int .u8 (ss.toNat : Int)] 25) w3 := ⟨hbw3, k3⟩
    clear k3 hbw3
    have hz1 := heap_lt KB0.h
    have KK0 := Lib.hid KB0
    have KEEP : Hid (∀ W, KB w w.heap.size (.cells #[.int .u16 (y : Int), .int .u8 (mo.toNat : Int), .int .u8 (dd.toNat : Int), .int .u8 (hh.toNat : Int), .int .u8 (mi.toNat : Int), .int .u8 (ss.toNat : Int)] 25) W → (W.cell? ⟨w.heap.size, 0, none⟩ = some (.int .u16 (y : Int)) ∧ W.cell? ⟨w.heap.size, 1, none⟩ = some (.int .u8 (mo.toNat : Int)) ∧ W.cell? ⟨w.heap.size, 2, none⟩ = some (.int .u8 (dd.toNat : Int)) ∧ W.cell? ⟨w.heap.size, 3, none⟩ = some (.int .u8 (hh.toNat : Int)) ∧ W.cell? ⟨w.heap.size, 4, none⟩ = some (.int .u8 (mi.toNat : Int)) ∧ W.cell? ⟨w.heap.size, 5, none⟩ = some (.int .u8 (ss.toNat : Int))) ∧ KB w w.heap.size (.cells #[.int .u16 (y : Int), .int .u8 (mo.toNat : Int), .int .u8 (dd.toNat : Int), .int .u8 (hh.toNat : Int), .int .u8 (mi.toNat : Int), .int .u8 (ss.toNat : Int)] 25) W) := fun W h => ⟨cells6 h.h, h⟩
    go_region_held3 (fun W => (W.cell? ⟨w.heap.size, 0, none⟩ = some (.int .u16 (y : Int)) ∧ W.cell? ⟨w.heap.size, 1, none⟩ = some (.int .u8 (mo.toNat : Int)) ∧ W.cell? ⟨w.heap.size, 2, none⟩ = some (.int .u8 (dd.toNat : Int)) ∧ W.cell? ⟨w.heap.size, 3, none⟩ = some (.int .u8 (hh.toNat : Int)) ∧ W.cell? ⟨w.heap.size, 4, none⟩ = some (.int .u8 (mi.toNat : Int)) ∧ W.cell? ⟨w.heap.size, 5, none⟩ = some (.int .u8 (ss.toNat : Int))) ∧ KB w w.heap.size (.cells #[.int .u16 (y : Int), .int .u8 (mo.toNat : Int), .int .u8 (dd.toNat : Int), .int .u8 (hh.toNat : Int), .int .u8 (mi.toNat : Int), .int .u8 (ss.toNat : Int)] 25) W)
      ((apply KEEP.out; repeat (with_reducible (first | assumption | refine KB.drew ?_))))
      (first
        | (go_at_call 8; (with_reducible refine (TP.out _ (by (go_split_ands; exact KB.b (by assumption)))).mono ?_); (rintro e X3 ⟨A3, n3, c3, rfl, hown3, hb3⟩; obtain rfl : pn = n3 := HPL.out.symm.trans hown3.len; have K3 := KB.call (w := w) (g := w.heap.size) (o := .cells #[.int .u16 (y : Int), .int .u8 (mo.toNat : Int), .int .u8 (dd.toNat : Int), .int .u8 (hh.toNat : Int), .int .u8 (mi.toNat : Int), .int .u8 (ss.toNat : Int)] 25) (by (go_split_ands; assumption)) hb3; have KK3 := Lib.hid K3; have O3 := Lib.hid hown3; have hz3 : w3.heap.size ≤ X3.heap.size := hb3.size; clear hown3 hb3))
        | (go_at_call 8; (with_reducible refine (TD.out _ (by (go_split_ands; exact KB.b (by assumption)))).mono ?_); (rintro e X4 ⟨A4, n4, c4, rfl, hown4, hb4⟩; obtain rfl : dn = n4 := HDL.out.symm.trans hown4.len; have K4 := KB.call (w := w) (g := w.heap.size) (o := .cells #[.int .u16 (y : Int), .int .u8 (mo.toNat : Int), .int .u8 (dd.toNat : Int), .int .u8 (hh.toNat : Int), .int .u8 (mi.toNat : Int), .int .u8 (ss.toNat : Int)] 25) (by (go_split_ands; assumption)) hb4; have KK4 := Lib.hid K4; have O4 := Lib.hid hown4; have O34 := Lib.hid (O3.out.below hb4 (Nat.le_refl _)); have hz4 : X3.heap.size ≤ X4.heap.size := hb4.size; clear hown4 hb4))
        | (go_at_call 12; (with_reducible refine (WT.out _ _ _ _ _ (hT.below' KK4.out.b) O34.out.rb O4.out.rb).mono ?_); (rintro e X5 ⟨A5, n5, c5, rfl, hown5, hb5⟩; have K5 := KB.call (w := w) (g := w.heap.size) (o := .cells #[.int .u16 (y : Int), .int .u8 (mo.toNat : Int), .int .u8 (dd.toNat : Int), .int .u8 (hh.toNat : Int), .int .u8 (mi.toNat : Int), .int .u8 (ss.toNat : Int)] 25) KK4.out hb5; have KK5 := Lib.hid K5; have O5 := Lib.hid hown5; have hz5 : X4.heap.size ≤ X5.heap.size := hb5.size; clear hown5 hb5)))
    have hbw5 := KK5.out.b
    have hs5 := hbw5.size
    have k5 := KK5.out.h
    have hl5 : m = n5 := HML.out.symm.trans O5.out.len
    subst hl5
    have hcap := O5.out.cap
    unfold maxLen at hcap
    go_wp2_with fail
    refine (RC.out A5 c5 _ O5.out.rb hcap.1 (by omega) (hT.below' hbw5)).mono ?_
    intro e w6 hp
    simp only [DReadPost, HRC.out, tmV, Tm.cells] at hp
    obtain ⟨Q, qn, qc, E, en, ec, rfl, oQ6, oE6, hb6⟩ := hp
    obtain rfl : pn = qn := HPL.out.symm.trans oQ6.len
    obtain rfl : dn = en := HDL.out.symm.trans oE6.len
    have hw5 : Hid (X5 = X5) := rfl
    have hbw6 := hbw5.trans (hb6.mono hs5)
    have hs6 := hbw6.size
    have k6 := (hb6.block _ (heap_lt k5)).trans k5
    clear hb6 k5 hw5
    obtain ⟨a0, a1, a2, a3, a4, a5⟩ := cells6 k6
    have hla6 := heap_lt k6
    go_wp2_with fail
    refine calls_named fun w7 hw7 => ?_
    have hb7 : Below w6.heap.size w6 w7 := by subst hw7; exact (Below.refl _ _).alloc (Nat.le_refl _) _
    clear hw7 a0 a1 a2 a3 a4 a5
    have hbw7 := hbw6.trans (hb7.mono hs6)
    have hs7 := hbw7.size
    have k7 := (hb7.block _ (heap_lt k6)).trans k6
    have oQ7 := oQ6.below hb7 (Nat.le_refl _)
    have oE7 := oE6.below hb7 (Nat.le_refl _)
    have hz7 : w6.heap.size ≤ w7.heap.size := hb7.size
    clear hb7 k6 oQ6 oE6
    refine ((SM.out _ _ _ _ _ _ w7 oQ7.rb (hP.below hbw7))).mono ?_
    rintro e w' ⟨rfl, rfl⟩
    rw [beq_me]
    go_wp2_with fail
    refine ((SM2.out _ _ _ _ _ _ w7 oE7.rb (hD.below hbw7))).mono ?_
    rintro e w' ⟨rfl, rfl⟩
    rw [beq_me]
    go_wp2_with fail
    refine (WK.out w7 (hT.below' hbw7)).mono ?_
    intro e w8 hw8
    obtain ⟨rfl, hb8⟩ := hw8
    have hbw8 := hbw7.trans (hb8.mono hs7)
    have hs8 := hbw8.size
    have k8 := (hb8.block _ (heap_lt k7)).trans k7
    have oQ8 := oQ7.below hb8 (Nat.le_refl _)
    have oE8 := oE7.below hb8 (Nat.le_refl _)
    have hz8 : w7.heap.size ≤ w8.heap.size := hb8.size
    clear hb8 k7 oQ7 oE7
    go_wp2
    go_ret
    exact ⟨rfl, hbw8⟩
  | some x =>
    rw [hrq] at hp
    simp only at hp
    obtain ⟨P2, pn2, pc2, D2, dn2, dc2, rfl, oU2, oV2, hb2⟩ := hp
    obtain ⟨xt, xb, xd⟩ := x
    obtain ⟨z1, z2, z3, z4, z5⟩ := hrs.out _ hrq
    simp only at *
    have hpl := oU2.len
    have hdl := oV2.len
    have hok2 : okW xt pn2 = true := by unfold okW; rw [z1, decide_eq_true ⟨by omega, by omega⟩]; rfl
    have WV := fun A c D d W hs hA hD => WU.out xt z5 A pn2 c xb D dn2 d xd W hs hA hD (by omega) (by have h1 := congrArg List.length z4; rw [dW_len, HLB.out] at h1; omega)
    rw [hok2, z4] at WV
    have WV := Lib.hid WV
    obtain ⟨uy, um, ud, uh, ui, us⟩ := xt
    simp only [tmV, Tm.cells] at *
    clear hrq z1 z2 z3 z4 z5 hok2
    have hbw2 := hbw1.trans (hb2.mono hs1)
    have hs2 := hbw2.size
    have k2 := (hb2.block _ (heap_lt k1)).trans k1
    have hz2 : w1.heap.size ≤ w2.heap.size := hb2.size
    clear hb2 k1
    have hlk := heap_lt k2
    go_wp2_with fail
    refine calls_named fun w3 hw3 => ?_
    have hb3 : Below w2.heap.size w2 w3 := by subst hw3; exact (Below.refl _ _).alloc (Nat.le_refl _) _
    clear hw3
    have hbw3 := hbw2.trans (hb3.mono hs2)
    have hs3 := hbw3.size
    have k3 := (hb3.block _ (heap_lt k2)).trans k2
    have oU3 := oU2.below hb3 (Nat.le_refl _)
    have oV3 := oV2.below hb3 (Nat.le_refl _)
    have hz3 : w2.heap.size ≤ w3.heap.size := hb3.size
    clear hb3 k2 oU2 oV2
    refine (WV.out _ _ _ _ _ (hT.below' hbw3) oU3.rb oV3.rb).mono ?_
    rintro e w4 ⟨Ac, nc, cc, rfl, oc4, hb4⟩
    simp only [outW] at oc4
    have hbw4 := hbw3.trans (hb4.mono hs3)
    have hs4 := hbw4.size
    have k4 := (hb4.block _ (heap_lt k3)).trans k3
    have oU4 := oU3.below hb4 (Nat.le_refl _)
    have oV4 := oV3.below hb4 (Nat.le_refl _)
    have hz4 : w3.heap.size ≤ w4.heap.size := hb4.size
    clear hb4 k3 oU3 oV3
    clear oU4
    clear oV4
    go_wp2_with fail
    refine (SMB.out _ _ _ _ _ _ _ _ oc4.rb (hR.below hbw4)).mono ?_
    rintro e w' ⟨rfl, rfl⟩
    rw [beq_me]
    clear oc4
    have hlk4 := heap_lt k4
    go_wp2_with fail
    have KB0 : KB w w.heap.size (.cells #[.int .u16 (y : Int), .int .u8 (mo.toNat : Int), .int .u8 (dd.toNat : Int), .int .u8 (hh.toNat : Int), .int .u8 (mi.toNat : Int), .int .u8 (ss.toNat : Int)] 25) w4 := ⟨hbw4, k4⟩
    clear k4 hbw4
    have hz1 := heap_lt KB0.h
    have KK0 := Lib.hid KB0
    have KEEP : Hid (∀ W, KB w w.heap.size (.cells #[.int .u16 (y : Int), .int .u8 (mo.toNat : Int), .int .u8 (dd.toNat : Int), .int .u8 (hh.toNat : Int), .int .u8 (mi.toNat : Int), .int .u8 (ss.toNat : Int)] 25) W → (W.cell? ⟨w.heap.size, 0, none⟩ = some (.int .u16 (y : Int)) ∧ W.cell? ⟨w.heap.size, 1, none⟩ = some (.int .u8 (mo.toNat : Int)) ∧ W.cell? ⟨w.heap.size, 2, none⟩ = some (.int .u8 (dd.toNat : Int)) ∧ W.cell? ⟨w.heap.size, 3, none⟩ = some (.int .u8 (hh.toNat : Int)) ∧ W.cell? ⟨w.heap.size, 4, none⟩ = some (.int .u8 (mi.toNat : Int)) ∧ W.cell? ⟨w.heap.size, 5, none⟩ = some (.int .u8 (ss.toNat : Int))) ∧ KB w w.heap.size (.cells #[.int .u16 (y : Int), .int .u8 (mo.toNat : Int), .int .u8 (dd.toNat : Int), .int .u8 (hh.toNat : Int), .int .u8 (mi.toNat : Int), .int .u8 (ss.toNat : Int)] 25) W) := fun W h => ⟨cells6 h.h, h⟩
    go_region_held3 (fun W => (W.cell? ⟨w.heap.size, 0, none⟩ = some (.int .u16 (y : Int)) ∧ W.cell? ⟨w.heap.size, 1, none⟩ = some (.int .u8 (mo.toNat : Int)) ∧ W.cell? ⟨w.heap.size, 2, none⟩ = some (.int .u8 (dd.toNat : Int)) ∧ W.cell? ⟨w.heap.size, 3, none⟩ = some (.int .u8 (hh.toNat : Int)) ∧ W.cell? ⟨w.heap.size, 4, none⟩ = some (.int .u8 (mi.toNat : Int)) ∧ W.cell? ⟨w.heap.size, 5, none⟩ = some (.int .u8 (ss.toNat : Int))) ∧ KB w w.heap.size (.cells #[.int .u16 (y : Int), .int .u8 (mo.toNat : Int), .int .u8 (dd.toNat : Int), .int .u8 (hh.toNat : Int), .int .u8 (mi.toNat : Int), .int .u8 (ss.toNat : Int)] 25) W)
      ((apply KEEP.out; repeat (with_reducible (first | assumption | refine KB.drew ?_))))
      (first
        | (go_at_call 8; (with_reducible refine (TP.out _ (by (go_split_ands; exact KB.b (by assumption)))).mono ?_); (rintro e X3 ⟨A3, n3, c3, rfl, hown3, hb3⟩; obtain rfl : pn = n3 := HPL.out.symm.trans hown3.len; have K3 := KB.call (w := w) (g := w.heap.size) (o := .cells #[.int .u16 (y : Int), .int .u8 (mo.toNat : Int), .int .u8 (dd.toNat : Int), .int .u8 (hh.toNat : Int), .int .u8 (mi.toNat : Int), .int .u8 (ss.toNat : Int)] 25) (by (go_split_ands; assumption)) hb3; have KK3 := Lib.hid K3; have O3 := Lib.hid hown3; have hz3 : w4.heap.size ≤ X3.heap.size := hb3.size; clear hown3 hb3))
        | (go_at_call 8; (with_reducible refine (TD.out _ (by (go_split_ands; exact KB.b (by assumption)))).mono ?_); (rintro e X4 ⟨A4, n4, c4, rfl, hown4, hb4⟩; obtain rfl : dn = n4 := HDL.out.symm.trans hown4.len; have K4 := KB.call (w := w) (g := w.heap.size) (o := .cells #[.int .u16 (y : Int), .int .u8 (mo.toNat : Int), .int .u8 (dd.toNat : Int), .int .u8 (hh.toNat : Int), .int .u8 (mi.toNat : Int), .int .u8 (ss.toNat : Int)] 25) (by (go_split_ands; assumption)) hb4; have KK4 := Lib.hid K4; have O4 := Lib.hid hown4; have O34 := Lib.hid (O3.out.below hb4 (Nat.le_refl _)); have hz4 : X3.heap.size ≤ X4.heap.size := hb4.size; clear hown4 hb4))
        | (go_at_call 12; (with_reducible refine (WT.out _ _ _ _ _ (hT.below' KK4.out.b) O34.out.rb O4.out.rb).mono ?_); (rintro e X5 ⟨A5, n5, c5, rfl, hown5, hb5⟩; have K5 := KB.call (w := w) (g := w.heap.size) (o := .cells #[.int .u16 (y : Int), .int .u8 (mo.toNat : Int), .int .u8 (dd.toNat : Int), .int .u8 (hh.toNat : Int), .int .u8 (mi.toNat : Int), .int .u8 (ss.toNat : Int)] 25) KK4.out hb5; have KK5 := Lib.hid K5; have O5 := Lib.hid hown5; have hz5 : X4.heap.size ≤ X5.heap.size := hb5.size; clear hown5 hb5)))
    have hbw5 := KK5.out.b
    have hs5 := hbw5.size
    have k5 := KK5.out.h
    have hl5 : m = n5 := HML.out.symm.trans O5.out.len
    subst hl5
    have hcap := O5.out.cap
    unfold maxLen at hcap
    go_wp2_with fail
    refine (RC.out A5 c5 _ O5.out.rb hcap.1 (by omega) (hT.below' hbw5)).mono ?_
    intro e w6 hp
    simp only [DReadPost, HRC.out, tmV, Tm.cells] at hp
    obtain ⟨Q, qn, qc, E, en, ec, rfl, oQ6, oE6, hb6⟩ := hp
    obtain rfl : pn = qn := HPL.out.symm.trans oQ6.len
    obtain rfl : dn = en := HDL.out.symm.trans oE6.len
    have hw5 : Hid (X5 = X5) := rfl
    have hbw6 := hbw5.trans (hb6.mono hs5)
    have hs6 := hbw6.size
    have k6 := (hb6.block _ (heap_lt k5)).trans k5
    clear hb6 k5 hw5
    obtain ⟨a0, a1, a2, a3, a4, a5⟩ := cells6 k6
    have hla6 := heap_lt k6
    go_wp2_with fail
    refine calls_named fun w7 hw7 => ?_
    have hb7 : Below w6.heap.size w6 w7 := by subst hw7; exact (Below.refl _ _).alloc (Nat.le_refl _) _
    clear hw7 a0 a1 a2 a3 a4 a5
    have hbw7 := hbw6.trans (hb7.mono hs6)
    have hs7 := hbw7.size
    have k7 := (hb7.block _ (heap_lt k6)).trans k6
    have oQ7 := oQ6.below hb7 (Nat.le_refl _)
    have oE7 := oE6.below hb7 (Nat.le_refl _)
    have hz7 : w6.heap.size ≤ w7.heap.size := hb7.size
    clear hb7 k6 oQ6 oE6
    refine ((SM.out _ _ _ _ _ _ w7 oQ7.rb (hP.below hbw7))).mono ?_
    rintro e w' ⟨rfl, rfl⟩
    rw [beq_me]
    go_wp2_with fail
    refine ((SM2.out _ _ _ _ _ _ w7 oE7.rb (hD.below hbw7))).mono ?_
    rintro e w' ⟨rfl, rfl⟩
    rw [beq_me]
    go_wp2_with fail
    refine (WK.out w7 (hT.below' hbw7)).mono ?_
    intro e w8 hw8
    obtain ⟨rfl, hb8⟩ := hw8
    have hbw8 := hbw7.trans (hb8.mono hs7)
    have hs8 := hbw8.size
    have k8 := (hb8.block _ (heap_lt k7)).trans k7
    have oQ8 := oQ7.below hb8 (Nat.le_refl _)
    have oE8 := oE7.below hb8 (Nat.le_refl _)
    have hz8 : w7.heap.size ≤ w8.heap.size := hb8.size
    clear hb8 k7 oQ7 oE7
    go_wp2
    go_ret
    exact ⟨rfl, hbw8⟩
set_option maxHeartbeats 16000000 in
theorem back_no (A : Option Addr) (n c : Nat) (bs : List UInt8) (t : Tm) (P : Option Addr) (pn pc : Nat) (pb : List UInt8) (D : Option Addr) (dn dc : Nat) (db : List UInt8) (w : World) (hR : RB w A n bs) (hP : RB w P pn pb) (hD : RB w D dn db) (hy : t.y < 65536) (hn : n ≤ 262144) (hpn : pn ≤ 262144) (hdn : dn ≤ 262144) (hT : Sizes w) (hok : okW t pn = false) :
    Calls Tryd.prog 4 #[.slice A n c, tmV t, .slice P pn pc, .slice D dn dc] w fun e w' => e = .returned (.bool true) ∧ Below w.heap.size w w' := by
  have WK := Lib.hid (fun W (h : Sizes W) => works_any W h)
  have d1 : decide (262144 < (n : Int)) = false := decide_eq_false (by omega)
  have d2 : decide (262144 < (pn : Int)) = false := decide_eq_false (by omega)
  have d3 : decide (262144 < (dn : Int)) = false := decide_eq_false (by omega)
  have TA := Lib.hid (fun W (h : Below w.heap.size w W) => twin_any A n c bs W (hR.below h) (by omega))
  have TP := Lib.hid (fun W (h : Below w.heap.size w W) => twin_any P pn pc pb W (hP.below h) (by omega))
  have TD := Lib.hid (fun W (h : Below w.heap.size w W) => twin_any D dn dc db W (hD.below h) (by omega))
  have RDB := Lib.hid (fun A c W hR h1 h2 hs => dread_any A n c bs W hR h1 h2 (by omega) hs)
  have WT := fun A c D d W hs hA hD => dwrite_any t A pn c pb D dn d db W hs hy hA hD (by omega) (by omega)
  rw [hok] at WT
  have hme := dW_len t pb db
  have HLB := Lib.hid hR.1
  have HPL := Lib.hid hP.1
  have HDL := Lib.hid hD.1
  have hrs := Lib.hid (fun x (h : dR bs = some x) => dR_some (t := x.1) (bl := x.2.1) (da := x.2.2) h)
  have beq_me : ∀ xs : List UInt8, (xs == xs) = true := fun xs => by simp
  have HZQ : ∀ W, (Op.equalIn 10000 25 (.agg #[.int .u16 0, .int .u8 0, .int .u8 0, .int .u8 0, .int .u8 0, .int .u8 0]) (.agg #[.int .u16 0, .int .u8 0, .int .u8 0, .int .u8 0, .int .u8 0, .int .u8 0])).run Tryd.prog W = .ok true W := fun W => (tm_same Tm.zero Tm.zero W 9998).trans (by simp)
  have WU := Lib.hid (fun (u : Tm) (hu : u.y < 65536) A bn c bl D dn d da W hs hA hD hb hd => dwrite_any u A bn c bl D dn d da W hs hu hA hD hb hd)
  have SMB := Lib.hid (fun A1 A2 n1 n2 c1 c2 xs W h1 h2 => same_any A1 A2 n1 n2 c1 c2 xs xs W h1 h2)
  generalize dW t pb db = wl at *
  clear hme hok
  have WT := Lib.hid WT
  obtain ⟨y, mo, dd, hh, mi, ss⟩ := t
  simp only [tmV, Tm.cells] at *
  go_enter Tryd.func4, Tryd.ntmps4
  go_wp2_with fail
  refine calls_named fun w0 hw0 => ?_
  have hbw0 : Below w.heap.size w w0 := below_named hw0 ((Below.refl _ _).alloc (Nat.le_refl _) _)
  have k0 := heap_named hw0 (heap_alloc_new w _)
  have hs0 := hbw0.size
  clear hw0
  refine (TA.out w0 hbw0).mono ?_
  rintro e w1 ⟨Aa, na, ca, rfl, oa1, hb1⟩
  obtain rfl : n = na := HLB.out.symm.trans oa1.len
  have hbw1 := hbw0.trans (hb1.mono hs0)
  have hs1 := hbw1.size
  have k1 := (hb1.block _ (heap_lt k0)).trans k0
  have hz1 : w0.heap.size ≤ w1.heap.size := hb1.size
  clear hb1 k0
  have hcp := oa1.cap
  unfold maxLen at hcp
  go_wp2_with fail
  refine (RDB.out Aa ca w1 oa1.rb hcp.1 (by omega) (hT.below' hbw1)).mono ?_
  intro e w2 hp
  unfold DReadPost at hp
  cases hrq : dR bs with
  | none =>
    rw [hrq] at hp
    obtain ⟨rfl, hb2⟩ := hp
    clear hrq
    have hbw2 := hbw1.trans (hb2.mono hs1)
    have hs2 := hbw2.size
    have k2 := (hb2.block _ (heap_lt k1)).trans k1
    have hz2 : w1.heap.size ≤ w2.heap.size := hb2.size
    clear hb2 k1
    have hlk := heap_lt k2
    go_wp2_with fail
    refine wp_named fun w3 hw3 => ?_
    have hb3 : Below w2.heap.size w2 w3 := by subst hw3; exact (Below.refl _ _).alloc (Nat.le_refl _) _
    clear hw3
    have hbw3 := hbw2.trans (hb3.mono hs2)
    have hs3 := hbw3.size
    have k3 := (hb3.block _ (heap_lt k2)).trans k2
    have hz3 : w2.heap.size ≤ w3.heap.size := hb3.size
    clear hb3 k2
    have KB0 : KB w w.heap.size (.cells #[.int .u16 (y : Int), .int .u8 (mo.toNat : Int), .int .u8 (dd.toNat : Int), .int .u8 (hh.toNat : Int), .int .u8 (mi.toNat : Int), .int .u8 (ss.toNat : Int)] 25) w3 := ⟨hbw3, k3⟩
    clear k3 hbw3
    have hz1 := heap_lt KB0.h
    have KK0 := Lib.hid KB0
    have KEEP : Hid (∀ W, KB w w.heap.size (.cells #[.int .u16 (y : Int), .int .u8 (mo.toNat : Int), .int .u8 (dd.toNat : Int), .int .u8 (hh.toNat : Int), .int .u8 (mi.toNat : Int), .int .u8 (ss.toNat : Int)] 25) W → (W.cell? ⟨w.heap.size, 0, none⟩ = some (.int .u16 (y : Int)) ∧ W.cell? ⟨w.heap.size, 1, none⟩ = some (.int .u8 (mo.toNat : Int)) ∧ W.cell? ⟨w.heap.size, 2, none⟩ = some (.int .u8 (dd.toNat : Int)) ∧ W.cell? ⟨w.heap.size, 3, none⟩ = some (.int .u8 (hh.toNat : Int)) ∧ W.cell? ⟨w.heap.size, 4, none⟩ = some (.int .u8 (mi.toNat : Int)) ∧ W.cell? ⟨w.heap.size, 5, none⟩ = some (.int .u8 (ss.toNat : Int))) ∧ KB w w.heap.size (.cells #[.int .u16 (y : Int), .int .u8 (mo.toNat : Int), .int .u8 (dd.toNat : Int), .int .u8 (hh.toNat : Int), .int .u8 (mi.toNat : Int), .int .u8 (ss.toNat : Int)] 25) W) := fun W h => ⟨cells6 h.h, h⟩
    go_region_held3 (fun W => (W.cell? ⟨w.heap.size, 0, none⟩ = some (.int .u16 (y : Int)) ∧ W.cell? ⟨w.heap.size, 1, none⟩ = some (.int .u8 (mo.toNat : Int)) ∧ W.cell? ⟨w.heap.size, 2, none⟩ = some (.int .u8 (dd.toNat : Int)) ∧ W.cell? ⟨w.heap.size, 3, none⟩ = some (.int .u8 (hh.toNat : Int)) ∧ W.cell? ⟨w.heap.size, 4, none⟩ = some (.int .u8 (mi.toNat : Int)) ∧ W.cell? ⟨w.heap.size, 5, none⟩ = some (.int .u8 (ss.toNat : Int))) ∧ KB w w.heap.size (.cells #[.int .u16 (y : Int), .int .u8 (mo.toNat : Int), .int .u8 (dd.toNat : Int), .int .u8 (hh.toNat : Int), .int .u8 (mi.toNat : Int), .int .u8 (ss.toNat : Int)] 25) W)
      ((apply KEEP.out; repeat (with_reducible (first | assumption | refine KB.drew ?_))))
      (first
        | (go_at_call 8; (with_reducible refine (TP.out _ (by (go_split_ands; exact KB.b (by assumption)))).mono ?_); (rintro e X3 ⟨A3, n3, c3, rfl, hown3, hb3⟩; obtain rfl : pn = n3 := HPL.out.symm.trans hown3.len; have K3 := KB.call (w := w) (g := w.heap.size) (o := .cells #[.int .u16 (y : Int), .int .u8 (mo.toNat : Int), .int .u8 (dd.toNat : Int), .int .u8 (hh.toNat : Int), .int .u8 (mi.toNat : Int), .int .u8 (ss.toNat : Int)] 25) (by (go_split_ands; assumption)) hb3; have KK3 := Lib.hid K3; have O3 := Lib.hid hown3; have hz3 : w3.heap.size ≤ X3.heap.size := hb3.size; clear hown3 hb3))
        | (go_at_call 8; (with_reducible refine (TD.out _ (by (go_split_ands; exact KB.b (by assumption)))).mono ?_); (rintro e X4 ⟨A4, n4, c4, rfl, hown4, hb4⟩; obtain rfl : dn = n4 := HDL.out.symm.trans hown4.len; have K4 := KB.call (w := w) (g := w.heap.size) (o := .cells #[.int .u16 (y : Int), .int .u8 (mo.toNat : Int), .int .u8 (dd.toNat : Int), .int .u8 (hh.toNat : Int), .int .u8 (mi.toNat : Int), .int .u8 (ss.toNat : Int)] 25) (by (go_split_ands; assumption)) hb4; have KK4 := Lib.hid K4; have O4 := Lib.hid hown4; have O34 := Lib.hid (O3.out.below hb4 (Nat.le_refl _)); have hz4 : X3.heap.size ≤ X4.heap.size := hb4.size; clear hown4 hb4))
        | (go_at_call 12; (with_reducible refine (WT.out _ _ _ _ _ (hT.below' KK4.out.b) O34.out.rb O4.out.rb).mono ?_); (rintro e X5 ⟨A5, n5, c5, rfl, hown5, hb5⟩; have K5 := KB.call (w := w) (g := w.heap.size) (o := .cells #[.int .u16 (y : Int), .int .u8 (mo.toNat : Int), .int .u8 (dd.toNat : Int), .int .u8 (hh.toNat : Int), .int .u8 (mi.toNat : Int), .int .u8 (ss.toNat : Int)] 25) KK4.out hb5; have KK5 := Lib.hid K5; have O5 := Lib.hid hown5; have hz5 : X4.heap.size ≤ X5.heap.size := hb5.size; clear hown5 hb5)))
    have hbw5 := KK5.out.b
    have hs5 := hbw5.size
    have k5 := KK5.out.h
    have hl5 : n5 = 0 := O5.out.len.symm
    subst hl5
    go_wp2_with fail
    refine (WK.out _ (hT.below' hbw5)).mono ?_
    intro e w9 hw9
    obtain ⟨rfl, hb9⟩ := hw9
    have hbw9 := hbw5.trans (hb9.mono hs5)
    clear hb9
    go_wp2
    go_ret
    exact ⟨rfl, hbw9⟩
  | some x =>
    rw [hrq] at hp
    simp only at hp
    obtain ⟨P2, pn2, pc2, D2, dn2, dc2, rfl, oU2, oV2, hb2⟩ := hp
    obtain ⟨xt, xb, xd⟩ := x
    obtain ⟨z1, z2, z3, z4, z5⟩ := hrs.out _ hrq
    simp only at *
    have hpl := oU2.len
    have hdl := oV2.len
    have hok2 : okW xt pn2 = true := by unfold okW; rw [z1, decide_eq_true ⟨by omega, by omega⟩]; rfl
    have WV := fun A c D d W hs hA hD => WU.out xt z5 A pn2 c xb D dn2 d xd W hs hA hD (by omega) (by have h1 := congrArg List.length z4; rw [dW_len, HLB.out] at h1; omega)
    rw [hok2, z4] at WV
    have WV := Lib.hid WV
    obtain ⟨uy, um, ud, uh, ui, us⟩ := xt
    simp only [tmV, Tm.cells] at *
    clear hrq z1 z2 z3 z4 z5 hok2
    have hbw2 := hbw1.trans (hb2.mono hs1)
    have hs2 := hbw2.size
    have k2 := (hb2.block _ (heap_lt k1)).trans k1
    have hz2 : w1.heap.size ≤ w2.heap.size := hb2.size
    clear hb2 k1
    have hlk := heap_lt k2
    go_wp2_with fail
    refine calls_named fun w3 hw3 => ?_
    have hb3 : Below w2.heap.size w2 w3 := by subst hw3; exact (Below.refl _ _).alloc (Nat.le_refl _) _
    clear hw3
    have hbw3 := hbw2.trans (hb3.mono hs2)
    have hs3 := hbw3.size
    have k3 := (hb3.block _ (heap_lt k2)).trans k2
    have oU3 := oU2.below hb3 (Nat.le_refl _)
    have oV3 := oV2.below hb3 (Nat.le_refl _)
    have hz3 : w2.heap.size ≤ w3.heap.size := hb3.size
    clear hb3 k2 oU2 oV2
    refine (WV.out _ _ _ _ _ (hT.below' hbw3) oU3.rb oV3.rb).mono ?_
    rintro e w4 ⟨Ac, nc, cc, rfl, oc4, hb4⟩
    simp only [outW] at oc4
    have hbw4 := hbw3.trans (hb4.mono hs3)
    have hs4 := hbw4.size
    have k4 := (hb4.block _ (heap_lt k3)).trans k3
    have oU4 := oU3.below hb4 (Nat.le_refl _)
    have oV4 := oV3.below hb4 (Nat.le_refl _)
    have hz4 : w3.heap.size ≤ w4.heap.size := hb4.size
    clear hb4 k3 oU3 oV3
    clear oU4
    clear oV4
    go_wp2_with fail
    refine (SMB.out _ _ _ _ _ _ _ _ oc4.rb (hR.below hbw4)).mono ?_
    rintro e w' ⟨rfl, rfl⟩
    rw [beq_me]
    clear oc4
    have hlk4 := heap_lt k4
    go_wp2_with fail
    have KB0 : KB w w.heap.size (.cells #[.int .u16 (y : Int), .int .u8 (mo.toNat : Int), .int .u8 (dd.toNat : Int), .int .u8 (hh.toNat : Int), .int .u8 (mi.toNat : Int), .int .u8 (ss.toNat : Int)] 25) w4 := ⟨hbw4, k4⟩
    clear k4 hbw4
    have hz1 := heap_lt KB0.h
    have KK0 := Lib.hid KB0
    have KEEP : Hid (∀ W, KB w w.heap.size (.cells #[.int .u16 (y : Int), .int .u8 (mo.toNat : Int), .int .u8 (dd.toNat : Int), .int .u8 (hh.toNat : Int), .int .u8 (mi.toNat : Int), .int .u8 (ss.toNat : Int)] 25) W → (W.cell? ⟨w.heap.size, 0, none⟩ = some (.int .u16 (y : Int)) ∧ W.cell? ⟨w.heap.size, 1, none⟩ = some (.int .u8 (mo.toNat : Int)) ∧ W.cell? ⟨w.heap.size, 2, none⟩ = some (.int .u8 (dd.toNat : Int)) ∧ W.cell? ⟨w.heap.size, 3, none⟩ = some (.int .u8 (hh.toNat : Int)) ∧ W.cell? ⟨w.heap.size, 4, none⟩ = some (.int .u8 (mi.toNat : Int)) ∧ W.cell? ⟨w.heap.size, 5, none⟩ = some (.int .u8 (ss.toNat : Int))) ∧ KB w w.heap.size (.cells #[.int .u16 (y : Int), .int .u8 (mo.toNat : Int), .int .u8 (dd.toNat : Int), .int .u8 (hh.toNat : Int), .int .u8 (mi.toNat : Int), .int .u8 (ss.toNat : Int)] 25) W) := fun W h => ⟨cells6 h.h, h⟩
    go_region_held3 (fun W => (W.cell? ⟨w.heap.size, 0, none⟩ = some (.int .u16 (y : Int)) ∧ W.cell? ⟨w.heap.size, 1, none⟩ = some (.int .u8 (mo.toNat : Int)) ∧ W.cell? ⟨w.heap.size, 2, none⟩ = some (.int .u8 (dd.toNat : Int)) ∧ W.cell? ⟨w.heap.size, 3, none⟩ = some (.int .u8 (hh.toNat : Int)) ∧ W.cell? ⟨w.heap.size, 4, none⟩ = some (.int .u8 (mi.toNat : Int)) ∧ W.cell? ⟨w.heap.size, 5, none⟩ = some (.int .u8 (ss.toNat : Int))) ∧ KB w w.heap.size (.cells #[.int .u16 (y : Int), .int .u8 (mo.toNat : Int), .int .u8 (dd.toNat : Int), .int .u8 (hh.toNat : Int), .int .u8 (mi.toNat : Int), .int .u8 (ss.toNat : Int)] 25) W)
      ((apply KEEP.out; repeat (with_reducible (first | assumption | refine KB.drew ?_))))
      (first
        | (go_at_call 8; (with_reducible refine (TP.out _ (by (go_split_ands; exact KB.b (by assumption)))).mono ?_); (rintro e X3 ⟨A3, n3, c3, rfl, hown3, hb3⟩; obtain rfl : pn = n3 := HPL.out.symm.trans hown3.len; have K3 := KB.call (w := w) (g := w.heap.size) (o := .cells #[.int .u16 (y : Int), .int .u8 (mo.toNat : Int), .int .u8 (dd.toNat : Int), .int .u8 (hh.toNat : Int), .int .u8 (mi.toNat : Int), .int .u8 (ss.toNat : Int)] 25) (by (go_split_ands; assumption)) hb3; have KK3 := Lib.hid K3; have O3 := Lib.hid hown3; have hz3 : w4.heap.size ≤ X3.heap.size := hb3.size; clear hown3 hb3))
        | (go_at_call 8; (with_reducible refine (TD.out _ (by (go_split_ands; exact KB.b (by assumption)))).mono ?_); (rintro e X4 ⟨A4, n4, c4, rfl, hown4, hb4⟩; obtain rfl : dn = n4 := HDL.out.symm.trans hown4.len; have K4 := KB.call (w := w) (g := w.heap.size) (o := .cells #[.int .u16 (y : Int), .int .u8 (mo.toNat : Int), .int .u8 (dd.toNat : Int), .int .u8 (hh.toNat : Int), .int .u8 (mi.toNat : Int), .int .u8 (ss.toNat : Int)] 25) (by (go_split_ands; assumption)) hb4; have KK4 := Lib.hid K4; have O4 := Lib.hid hown4; have O34 := Lib.hid (O3.out.below hb4 (Nat.le_refl _)); have hz4 : X3.heap.size ≤ X4.heap.size := hb4.size; clear hown4 hb4))
        | (go_at_call 12; (with_reducible refine (WT.out _ _ _ _ _ (hT.below' KK4.out.b) O34.out.rb O4.out.rb).mono ?_); (rintro e X5 ⟨A5, n5, c5, rfl, hown5, hb5⟩; have K5 := KB.call (w := w) (g := w.heap.size) (o := .cells #[.int .u16 (y : Int), .int .u8 (mo.toNat : Int), .int .u8 (dd.toNat : Int), .int .u8 (hh.toNat : Int), .int .u8 (mi.toNat : Int), .int .u8 (ss.toNat : Int)] 25) KK4.out hb5; have KK5 := Lib.hid K5; have O5 := Lib.hid hown5; have hz5 : X4.heap.size ≤ X5.heap.size := hb5.size; clear hown5 hb5)))
    have hbw5 := KK5.out.b
    have hs5 := hbw5.size
    have k5 := KK5.out.h
    have hl5 : n5 = 0 := O5.out.len.symm
    subst hl5
    go_wp2_with fail
    refine (WK.out _ (hT.below' hbw5)).mono ?_
    intro e w9 hw9
    obtain ⟨rfl, hb9⟩ := hw9
    have hbw9 := hbw5.trans (hb9.mono hs5)
    clear hb9
    go_wp2
    go_ret
    exact ⟨rfl, hbw9⟩
theorem back_row (A : Option Addr) (n c : Nat) (bs : List UInt8) (t : Tm) (P : Option Addr) (pn pc : Nat) (pb : List UInt8) (D : Option Addr) (dn dc : Nat) (db : List UInt8) (w : World) (hA : IsBs w A n c bs) (ht : IsTm w t) (hP : IsBs w P pn pc pb) (hD : IsBs w D dn dc db) (hT : Sizes w) :
    Calls Tryd.prog 4 #[.slice A n c, tmV t, .slice P pn pc, .slice D dn dc] w fun e w' => e = .returned (.bool true) ∧ Below w.heap.size w w' := by
  have hy : t.y < 65536 := ht
  have l1 := hA.lim
  have l2 := hP.lim
  have l3 := hD.lim
  by_cases hall : n ≤ 262144 ∧ pn ≤ 262144 ∧ dn ≤ 262144
  · obtain ⟨h1, h2, h3⟩ := hall
    cases hok : okW t pn with
    | true => exact back_yes A n c bs t P pn pc pb D dn dc db w hA.rb hP.rb hD.rb hy h1 h2 h3 hT hok
    | false => exact back_no A n c bs t P pn pc pb D dn dc db w hA.rb hP.rb hD.rb hy h1 h2 h3 hT hok
  · have WK := Lib.hid (fun W (h : Sizes W) => works_any W h)
    obtain ⟨y, mo, dd, hh, mi, ss⟩ := t
    simp only [tmV, Tm.cells] at *
    by_cases h1 : n ≤ 262144
    · have d1 : decide (262144 < (n : Int)) = false := decide_eq_false (by omega)
      by_cases h2 : pn ≤ 262144
      · have d2 : decide (262144 < (pn : Int)) = false := decide_eq_false (by omega)
        have d3 : decide (262144 < (dn : Int)) = true := decide_eq_true (by omega)
        clear hall
        go_enter Tryd.func4, Tryd.ntmps4
        go_wp2_with fail
        refine calls_named fun w0 hw0 => ?_
        have hbw0 : Below w.heap.size w w0 := below_named hw0 ((Below.refl _ _).alloc (Nat.le_refl _) _)
        have hs0 := hbw0.size
        clear hw0
        refine (WK.out w0 (hT.below' hbw0)).mono ?_
        intro e w1 hw1
        obtain ⟨rfl, hb1⟩ := hw1
        have hbw1 := hbw0.trans (hb1.mono hs0)
        have hs1 := hbw1.size
        have hz1 : w0.heap.size ≤ w1.heap.size := hb1.size
        clear hb1
        go_wp2
        go_ret
        exact ⟨rfl, hbw1⟩
      · have d2 : decide (262144 < (pn : Int)) = true := decide_eq_true (by omega)
        clear hall
        go_enter Tryd.func4, Tryd.ntmps4
        go_wp2_with fail
        refine calls_named fun w0 hw0 => ?_
        have hbw0 : Below w.heap.size w w0 := below_named hw0 ((Below.refl _ _).alloc (Nat.le_refl _) _)
        have hs0 := hbw0.size
        clear hw0
        refine (WK.out w0 (hT.below' hbw0)).mono ?_
        intro e w1 hw1
        obtain ⟨rfl, hb1⟩ := hw1
        have hbw1 := hbw0.trans (hb1.mono hs0)
        have hs1 := hbw1.size
        have hz1 : w0.heap.size ≤ w1.heap.size := hb1.size
        clear hb1
        go_wp2
        go_ret
        exact ⟨rfl, hbw1⟩
    · have d1 : decide (262144 < (n : Int)) = true := decide_eq_true (by omega)
      clear hall
      go_enter Tryd.func4, Tryd.ntmps4
      go_wp2_with fail
      refine calls_named fun w0 hw0 => ?_
      have hbw0 : Below w.heap.size w w0 := below_named hw0 ((Below.refl _ _).alloc (Nat.le_refl _) _)
      have hs0 := hbw0.size
      clear hw0
      refine (WK.out w0 (hT.below' hbw0)).mono ?_
      intro e w1 hw1
      obtain ⟨rfl, hb1⟩ := hw1
      have hbw1 := hbw0.trans (hb1.mono hs0)
      have hs1 := hbw1.size
      have hz1 : w0.heap.size ≤ w1.heap.size := hb1.size
      clear hb1
      go_wp2
      go_ret
      exact ⟨rfl, hbw1⟩
end Go.Proofs.YthmmipcfabijdaaDoor
