/-
  descr: the statement on bytes that are turned, and cut.
-/
import Derived.Test.YthmmipcfabijdaaDoorDeJ
import Derived.Laws.BitsAllLaws
namespace Go.Proofs.YthmmipcfabijdaaDoor
open Go.RowKit Go
set_option linter.unusedVariables false
set_option maxRecDepth 100000
attribute [local go_sem ↓] Go.wp_at_zero Go.wp_at_succ
set_option maxHeartbeats 16000000 in
theorem turned_xl (t : Tm) (P : Option Addr) (pn pc : Nat) (pb : List UInt8) (D : Option Addr) (dn dc : Nat) (db : List UInt8) (a : Nat) (b : UInt8) (cu : Nat) (w : World) (hP : RB w P pn pb) (hD : RB w D dn db) (hdc : dn ≤ dc) (hdc2 : dc ≤ 9223372036854775807) (hy : t.y < 65536) (ha : a < 256) (hcu : cu < 65536) (hpn : pn ≤ 4096) (hdn : dn ≤ 4096) (hT : Sizes w) (hok : okW t pn = true) (hb0 : b ≠ 0) (hsl : 40 + pn ≤ cu % (40 + pn + dn + 1)) :
    Calls Tryd.prog 5 #[tmV t, .slice P pn pc, .slice D dn dc, .int .u8 (a : Int), .int .u8 (b.toNat : Int), .int .u16 (cu : Int)] w fun e w' => e = .returned (.bool true) ∧ Below w.heap.size w w' := by
  have WK := Lib.hid (fun W (h : Sizes W) => works_any W h)
  have d2 : decide (4096 < (pn : Int)) = false := decide_eq_false (by omega)
  have d3 : decide (4096 < (dn : Int)) = false := decide_eq_false (by omega)
  have TP := Lib.hid (fun W (h : Below w.heap.size w W) => twin_any P pn pc pb W (hP.below h) (by omega))
  have TD := Lib.hid (fun W (h : Below w.heap.size w W) => twin_any D dn dc db W (hD.below h) (by omega))
  have WT := fun A c D d W hs hA hD => dwrite_any t A pn c pb D dn d db W hs hy hA hD (by omega) (by omega)
  rw [hok] at WT
  have hme := dW_len t pb db
  have HPL := Lib.hid hP.1
  have HDL := Lib.hid hD.1
  have beq_me : ∀ xs : List UInt8, (xs == xs) = true := fun xs => by simp
  obtain ⟨h1r, h2r, h3r⟩ := okW_true hok
  obtain ⟨m, hm⟩ : ∃ m, m = 40 + pn + dn := ⟨_, rfl⟩
  have hml : (dW t pb db).length = m := by rw [hme, HPL.out, HDL.out, hm]
  have hm9 : m ≤ 100000 := by omega
  have hm40 : 40 ≤ m := by omega
  have hpl := hP.1
  have hrc : dR (dW t pb db) = some (t, pb, db) := dR_dW db h1r (by omega) (by omega)
  obtain ⟨k, hk⟩ : ∃ k, k = 20 + a % 20 := ⟨_, rfl⟩
  have hk1 : 20 ≤ k := by omega
  have hk2 : k < 40 := by omega
  have HKM : (20 : Int) + (a : Int) % 20 = (k : Int) := by omega
  rw [← hm] at hsl
  obtain ⟨j, hj⟩ : ∃ j, j = cu % (m + 1) := ⟨_, rfl⟩
  have hj1 : j ≤ m := by rw [hj]; exact Nat.le_of_lt_succ (Nat.mod_lt _ (by omega))
  have HJM : (cu : Int) % ((m : Int) + 1) = (j : Int) := by rw [hj]; simp
  rw [← hj] at hsl
  have hmk : ∃ q, (dW t pb db)[k]? = some q := by
    rcases h : (dW t pb db)[k]? with _ | q
    · rw [List.getElem?_eq_none_iff] at h; omega
    · exact ⟨q, rfl⟩
  obtain ⟨q, hq⟩ := hmk
  have hxq : bits BinOp.xor IntKind.u8 (q.toNat : Int) (b.toNat : Int) = ((q ^^^ b).toNat : Int) := u8_xor q b
  have hr2 : dR ((dW t pb db).set k (q ^^^ b)) = none := by
    have h9 := dR_turned (t := t) (bl := pb) db (k - 20) (by omega) (q ^^^ b) (by
      have h8 := dW_mark t pb db (k - 20) (by omega)
      rw [show 20 + (k - 20) = k by omega, hq] at h8
      rw [← h8]
      intro e
      injection e with e
      exact xor_same q b hb0 e.symm)
    rw [show 20 + (k - 20) = k by omega] at h9
    exact h9
  have hbz : ((b.toNat : Int) == 0) = false := beq_eq_false_iff_ne.2 (fun e => hb0 (UInt8.toNat_inj.1 (by simpa using e)))
  have hr3 : dR ((dW t pb db).take j) = some (t, pb, db.take (j - 40 - pn)) := by rw [dW_take t pb db j (by omega), hpl]; exact dR_dW _ h1r (by omega) (by omega)
  have HEQ : ∀ W, (Op.equalIn 10000 25 (.agg t.cells) (.agg t.cells)).run Tryd.prog W = .ok true W := fun W => (tm_same t t W 9998).trans (by simp)
  have SM := Lib.hid (fun A1 A2 c1 c2 n1 n2 W h1 h2 => same_any A1 A2 n1 n2 c1 c2 pb pb W h1 h2)
  have SM2 := Lib.hid (fun A1 A2 c1 c2 n1 n2 W h1 h2 => same_any A1 A2 n1 n2 c1 c2 (db.take (j - 40 - pn)) (db.take (j - 40 - pn)) W h1 h2)
  have HJP : (j : Int) - 40 - (pn : Int) = ((j - 40 - pn : Nat) : Int) := by omega
  have hjd : j - 40 - pn ≤ dn := by omega
  have HTL : Hid ((db.take (j - 40 - pn)).length = j - 40 - pn) := by show _ = _; rw [List.length_take, HDL.out]; omega
  have HZQ : ∀ W, (Op.equalIn 10000 25 (.agg #[.int .u16 0, .int .u8 0, .int .u8 0, .int .u8 0, .int .u8 0, .int .u8 0]) (.agg #[.int .u16 0, .int .u8 0, .int .u8 0, .int .u8 0, .int .u8 0, .int .u8 0])).run Tryd.prog W = .ok true W := fun W => (tm_same Tm.zero Tm.zero W 9998).trans (by simp)
  generalize dW t pb db = wl at *
  have TW := Lib.hid (fun A c W h => twin_any A m c wl W h (by omega))
  have TJ := Lib.hid (fun A c W h => twin_any A j c (wl.take j) W h (by omega))
  have RC := Lib.hid (fun A c W hR h1 h2 hs => dread_any A m c (wl.set k (q ^^^ b)) W hR h1 h2 (by omega) hs)
  have RJ := Lib.hid (fun A c W hR h1 h2 hs => dread_any A j c (wl.take j) W hR h1 h2 (by omega) hs)
  have HR2 := Lib.hid hr2
  have HR3 := Lib.hid hr3
  have HML := Lib.hid hml
  have HQ := Lib.hid hq
  have HJL : Hid ((wl.take j).length = j) := by show _ = _; rw [List.length_take, hml]; omega
  have hbq := b.toNat_lt
  have hqq := q.toNat_lt
  clear hm hml hrc hme hok hk hj hq hr2 hr3 hpl hb0
  have WT := Lib.hid WT
  obtain ⟨y, mo, dd, hh, mi, ss⟩ := t
  simp only [tmV, Tm.cells] at *
  go_enter Tryd.func5, Tryd.ntmps5
  go_wp2_with fail
  refine wp_named fun w0 hw0 => ?_
  have hbw0 : Below w.heap.size w w0 := by subst hw0; exact (Below.refl _ _).alloc (Nat.le_refl _) _
  have k0 := heap_named hw0 (heap_alloc_new w _)
  clear hw0
  have KB0 : KB w w.heap.size (.cells #[.int .u16 (y : Int), .int .u8 (mo.toNat : Int), .int .u8 (dd.toNat : Int), .int .u8 (hh.toNat : Int), .int .u8 (mi.toNat : Int), .int .u8 (ss.toNat : Int)] 25) w0 := ⟨hbw0, k0⟩
  clear k0 hbw0
  have hz1 := heap_lt KB0.h
  have KK0 := Lib.hid KB0
  have KEEP : Hid (∀ W, KB w w.heap.size (.cells #[.int .u16 (y : Int), .int .u8 (mo.toNat : Int), .int .u8 (dd.toNat : Int), .int .u8 (hh.toNat : Int), .int .u8 (mi.toNat : Int), .int .u8 (ss.toNat : Int)] 25) W → (W.cell? ⟨w.heap.size, 0, none⟩ = some (.int .u16 (y : Int)) ∧ W.cell? ⟨w.heap.size, 1, none⟩ = some (.int .u8 (mo.toNat : Int)) ∧ W.cell? ⟨w.heap.size, 2, none⟩ = some (.int .u8 (dd.toNat : Int)) ∧ W.cell? ⟨w.heap.size, 3, none⟩ = some (.int .u8 (hh.toNat : Int)) ∧ W.cell? ⟨w.heap.size, 4, none⟩ = some (.int .u8 (mi.toNat : Int)) ∧ W.cell? ⟨w.heap.size, 5, none⟩ = some (.int .u8 (ss.toNat : Int))) ∧ KB w w.heap.size (.cells #[.int .u16 (y : Int), .int .u8 (mo.toNat : Int), .int .u8 (dd.toNat : Int), .int .u8 (hh.toNat : Int), .int .u8 (mi.toNat : Int), .int .u8 (ss.toNat : Int)] 25) W) := fun W h => ⟨cells6 h.h, h⟩
  go_region_held3 (fun W => (W.cell? ⟨w.heap.size, 0, none⟩ = some (.int .u16 (y : Int)) ∧ W.cell? ⟨w.heap.size, 1, none⟩ = some (.int .u8 (mo.toNat : Int)) ∧ W.cell? ⟨w.heap.size, 2, none⟩ = some (.int .u8 (dd.toNat : Int)) ∧ W.cell? ⟨w.heap.size, 3, none⟩ = some (.int .u8 (hh.toNat : Int)) ∧ W.cell? ⟨w.heap.size, 4, none⟩ = some (.int .u8 (mi.toNat : Int)) ∧ W.cell? ⟨w.heap.size, 5, none⟩ = some (.int .u8 (ss.toNat : Int))) ∧ KB w w.heap.size (.cells #[.int .u16 (y : Int), .int .u8 (mo.toNat : Int), .int .u8 (dd.toNat : Int), .int .u8 (hh.toNat : Int), .int .u8 (mi.toNat : Int), .int .u8 (ss.toNat : Int)] 25) W)
    ((apply KEEP.out; repeat (with_reducible (first | assumption | refine KB.drew ?_))))
    (first
      | (go_at_call 8; (with_reducible refine (TP.out _ (by (go_split_ands; exact KB.b (by assumption)))).mono ?_); (rintro e X3 ⟨A3, n3, c3, rfl, hown3, hb3⟩; obtain rfl : pn = n3 := HPL.out.symm.trans hown3.len; have K3 := KB.call (w := w) (g := w.heap.size) (o := .cells #[.int .u16 (y : Int), .int .u8 (mo.toNat : Int), .int .u8 (dd.toNat : Int), .int .u8 (hh.toNat : Int), .int .u8 (mi.toNat : Int), .int .u8 (ss.toNat : Int)] 25) (by (go_split_ands; assumption)) hb3; have KK3 := Lib.hid K3; have O3 := Lib.hid hown3; have hz3 : w0.heap.size ≤ X3.heap.size := hb3.size; clear hown3 hb3))
      | (go_at_call 8; (with_reducible refine (TD.out _ (by (go_split_ands; exact KB.b (by assumption)))).mono ?_); (rintro e X4 ⟨A4, n4, c4, rfl, hown4, hb4⟩; obtain rfl : dn = n4 := HDL.out.symm.trans hown4.len; have K4 := KB.call (w := w) (g := w.heap.size) (o := .cells #[.int .u16 (y : Int), .int .u8 (mo.toNat : Int), .int .u8 (dd.toNat : Int), .int .u8 (hh.toNat : Int), .int .u8 (mi.toNat : Int), .int .u8 (ss.toNat : Int)] 25) (by (go_split_ands; assumption)) hb4; have KK4 := Lib.hid K4; have O4 := Lib.hid hown4; have O34 := Lib.hid (O3.out.below hb4 (Nat.le_refl _)); have hz4 : X3.heap.size ≤ X4.heap.size := hb4.size; clear hown4 hb4))
      | (go_at_call 12; (with_reducible refine (WT.out _ _ _ _ _ (hT.below' KK4.out.b) O34.out.rb O4.out.rb).mono ?_); (rintro e X5 ⟨A5, n5, c5, rfl, hown5, hb5⟩; have K5 := KB.call (w := w) (g := w.heap.size) (o := .cells #[.int .u16 (y : Int), .int .u8 (mo.toNat : Int), .int .u8 (dd.toNat : Int), .int .u8 (hh.toNat : Int), .int .u8 (mi.toNat : Int), .int .u8 (ss.toNat : Int)] 25) KK4.out hb5; have KK5 := Lib.hid K5; have O5 := Lib.hid hown5; have hz5 : X4.heap.size ≤ X5.heap.size := hb5.size; clear hown5 hb5)))
  have hbw5 := KK5.out.b
  have hs5 := hbw5.size
  have k5 := KK5.out.h
  have hl5 : m = n5 := HML.out.symm.trans O5.out.len
  subst hl5
  have hcap := O5.out.cap
  unfold maxLen at hcap
  have ob5 := O5.out.lower (base' := w.heap.size) (by have := KK0.out.b.size; omega)
  simp only [outW] at ob5
  go_wp2_with fail
  refine (TW.out A5 c5 _ ob5.rb).mono ?_
  rintro e w6 ⟨A6, n6, c6, rfl, oc6, hb6⟩
  obtain rfl : m = n6 := HML.out.symm.trans oc6.len
  have hbw6 := hbw5.trans (hb6.mono hs5)
  have hs6 := hbw6.size
  have k6 := (hb6.block _ (heap_lt k5)).trans k5
  have ob6 := ob5.below hb6 (Nat.le_refl _)
  have hz6 := hb6.size
  clear hb6 k5 ob5
  have hcc := oc6.cap
  unfold maxLen at hcc
  obtain ⟨g6, rfl, hg6a, hg6b⟩ := oc6.shape (by omega)
  have xc := oc6.cellAt k q HQ.out
  have xf := oc6.free k
  have hst := oc6.stored k (q ^^^ b)
  have hgr := grown_put w6 g6 k (.int .u8 ((q ^^^ b).toNat : Int))
  have hbx := hbw6.grown hgr hs6 (fun g e => by injection e with e; omega)
  have kx := (hgr.block _ (heap_lt k6) (fun e => by injection e with e; have := heap_lt k6; have := KK5.out.b.size; have := heap_lt KK5.out.h; omega)).trans k6
  have obx := ob6.kept hgr (by
    rcases hA : blk A5 with _ | g
    · exact .inl rfl
    · exact .inr (fun e => by have h7 := (O5.out.blk_lt hA).2; injection e with e; omega))
  have hzx := hgr.size
  have HST := Lib.hid hst
  have HBX := Lib.hid hbx
  have KX := Lib.hid kx
  have OBX := Lib.hid obx
  clear hst hgr hbx kx obx oc6 ob6 k6
  go_wp2_with fail
  refine calls_named fun w7 hw7 => ?_
  have hbw7 : Below w.heap.size w w7 := hw7 ▸ HBX.out
  have hs7 := hbw7.size
  have k7 : w7.heap[w.heap.size]? = _ := hw7 ▸ KX.out
  have ob7 : OwnB w7 w.heap.size A5 m c5 wl := hw7 ▸ OBX.out
  have oc7 : OwnB w7 _ (some ⟨g6, 0, none⟩) m c6 (wl.set k (q ^^^ b)) := hw7 ▸ HST.out
  clear hw7 HBX KX OBX HST xc xf
  refine (RC.out _ c6 _ oc7.rb hcc.1 (by omega) (hT.below' hbw7)).mono ?_
  intro e w8 hp
  simp only [DReadPost, HR2.out] at hp
  obtain ⟨rfl, hb8⟩ := hp
  clear oc7
  have hbw8 := hbw7.trans (hb8.mono hs7)
  have hs8 := hbw8.size
  have k8 := (hb8.block _ (heap_lt k7)).trans k7
  have ob8 := ob7.below hb8 (Nat.le_refl _)
  have hz8 : w7.heap.size ≤ w8.heap.size := hb8.size
  clear hb8 k7 ob7
  have otk := ob8.rb
  have hcut : RB w8 A5 j (wl.take j) := ⟨HJL.out, otk.2.take_ j⟩
  clear otk
  go_wp2_with fail
  refine (TJ.out A5 _ _ hcut).mono ?_
  rintro e w9 ⟨A9, n9, c9, rfl, od9, hb9⟩
  obtain rfl : j = n9 := HJL.out.symm.trans od9.len
  have hc9 := od9.cap
  unfold maxLen at hc9
  clear hcut
  have hbw9 := hbw8.trans (hb9.mono hs8)
  have hs9 := hbw9.size
  have k9 := (hb9.block _ (heap_lt k8)).trans k8
  have ob9 := ob8.below hb9 (Nat.le_refl _)
  have hz9 : w8.heap.size ≤ w9.heap.size := hb9.size
  clear hb9 k8 ob8
  clear ob9
  go_wp2_with fail
  refine (RJ.out A9 c9 _ od9.rb hc9.1 (by omega) (hT.below' hbw9)).mono ?_
  intro e w10 hp
  simp only [DReadPost, HR3.out, tmV, Tm.cells] at hp
  obtain ⟨Q3, qn3, qc3, E3, en3, ec3, rfl, oQ10, oE10, hb10⟩ := hp
  obtain rfl : pn = qn3 := HPL.out.symm.trans oQ10.len
  obtain rfl : j - 40 - pn = en3 := HTL.out.symm.trans oE10.len
  have hbw10 := hbw9.trans (hb10.mono hs9)
  have hs10 := hbw10.size
  have k10 := (hb10.block _ (heap_lt k9)).trans k9
  have hz10 : w9.heap.size ≤ w10.heap.size := hb10.size
  clear hb10 k9
  clear od9
  obtain ⟨a0, a1, a2, a3, a4, a5⟩ := cells6 k10
  have hla10 := heap_lt k10
  go_wp2_with fail
  refine calls_named fun w11 hw11 => ?_
  have hb11 : Below w10.heap.size w10 w11 := by subst hw11; exact (Below.refl _ _).alloc (Nat.le_refl _) _
  clear hw11 a0 a1 a2 a3 a4 a5
  have hbw11 := hbw10.trans (hb11.mono hs10)
  have hs11 := hbw11.size
  have k11 := (hb11.block _ (heap_lt k10)).trans k10
  have oQ11 := oQ10.below hb11 (Nat.le_refl _)
  have oE11 := oE10.below hb11 (Nat.le_refl _)
  have hz11 : w10.heap.size ≤ w11.heap.size := hb11.size
  clear hb11 k10 oQ10 oE10
  refine (SM.out _ _ _ _ _ _ w11 oQ11.rb (hP.below hbw11)).mono ?_
  rintro e w' ⟨rfl, rfl⟩
  rw [beq_me]
  have hdt : RB w11 D (j - 40 - pn) (db.take (j - 40 - pn)) := ⟨HTL.out, (hD.below hbw11).2.take_ _⟩
  go_wp2_with fail
  refine (SM2.out _ _ _ _ _ _ w11 oE11.rb hdt).mono ?_
  rintro e w' ⟨rfl, rfl⟩
  rw [beq_me]
  go_wp2_with fail
  refine (WK.out w11 (hT.below' hbw11)).mono ?_
  intro e w12 hw12
  obtain ⟨rfl, hb12⟩ := hw12
  have hbw12 := hbw11.trans (hb12.mono hs11)
  have hs12 := hbw12.size
  have k12 := (hb12.block _ (heap_lt k11)).trans k11
  have oQ12 := oQ11.below hb12 (Nat.le_refl _)
  have oE12 := oE11.below hb12 (Nat.le_refl _)
  have hz12 : w11.heap.size ≤ w12.heap.size := hb12.size
  clear hb12 k11 oQ11 oE11
  go_wp2
  go_ret
  exact ⟨rfl, hbw12⟩
end Go.Proofs.YthmmipcfabijdaaDoor
