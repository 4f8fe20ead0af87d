/-
  descr: the statement on what is told.
-/
import Derived.Test.YthmmipcfabijdaaDoorDeS
import Derived.Deep.MidRow
import Derived.LoopTactic
namespace Go.Proofs.YthmmipcfabijdaaDoor
open Go.RowKit Go
set_option linter.unusedVariables false
set_option maxRecDepth 100000
attribute [local go_sem ↓] Go.wp_at_zero Go.wp_at_succ
set_option maxHeartbeats 16000000 in
theorem tells_ys (A : Option Addr) (n c : Nat) (bs : List UInt8) (t : Tm) (P : Option Addr) (pn pc : Nat) (pb : List UInt8) (D : Option Addr) (dn dc : Nat) (db : List UInt8) (s : ByteArray) (gb : List UInt8) (at_ : Nat) (w : World) (hR : RB w A n bs) (hnc : n ≤ c) (hc2 : c ≤ 9223372036854775807) (hP : RB w P pn pb) (hD : RB w D dn db) (hy : t.y < 65536) (hg : gb.length = 16) (hat : at_ < 4294967296) (hn : n ≤ 262144) (hpn : pn ≤ 262144) (hdn : dn ≤ 262144) (hs : s.size ≤ 4096) (hT : Sizes w) (ok : okW t pn = true) (z : Tm × List UInt8 × List UInt8) (hq : dR bs = some z) :
    Calls Tryd.prog 3 #[.slice A n c, tmV t, .slice P pn pc, .slice D dn dc, .string s, gV gb, .int .u32 (at_ : Int)] w fun e w' => e = .returned (.bool true) ∧ Below w.heap.size w w' := by
  have WK := Lib.hid (fun W (h : Sizes W) => works_any W h)
  have d1 : decide (262144 < (n : Int)) = false := decide_eq_false (by omega)
  have d2 : decide (262144 < (pn : Int)) = false := decide_eq_false (by omega)
  have d3 : decide (262144 < (dn : Int)) = false := decide_eq_false (by omega)
  have d4 : decide (4096 < (s.size : Int)) = false := decide_eq_false (by omega)
  have TA := Lib.hid (fun W (h : Below w.heap.size w W) => twin_any A n c bs W (hR.below h) (by omega))
  have TP := Lib.hid (fun W (h : Below w.heap.size w W) => twin_any P pn pc pb W (hP.below h) (by omega))
  have TD := Lib.hid (fun W (h : Below w.heap.size w W) => twin_any D dn dc db W (hD.below h) (by omega))
  have RDB := Lib.hid (fun A c W hR h1 h2 hs => dread_any A n c bs W hR h1 h2 (by omega) hs)
  have RRB := Lib.hid (fun W (h : Below w.heap.size w W) => rread_d A n c bs W (hR.below h) hnc hc2 (by omega))
  have WT := fun A c D d W hs hA hD => dwrite_any t A pn c pb D dn d db W hs hy hA hD (by omega) (by omega)
  have WR := fun W (h : Below w.heap.size w W) => rwrite_any t P pn pc pb D dn dc db W hy (hP.below h) (hD.below h) (by omega) (by omega)
  rw [ok] at WT WR
  have TX := Lib.hid (fun D d W hs9 hD9 => dtext_any s gb at_ t D dn d db W hs9 (by omega) hg hat hy hD9 (by omega))
  have RX := Lib.hid (fun W (h : Below w.heap.size w W) => rtext_any s gb at_ t D dn dc db W (by omega) hg hat hy (hD.below h) (by omega))
  have HLB := Lib.hid hR.1
  have HPL := Lib.hid hP.1
  have HDL := Lib.hid hD.1
  have beq_me : ∀ xs : List UInt8, (xs == xs) = true := fun xs => by simp
  have HZQ : ∀ W, (Op.equalIn 10000 25 (.agg #[.int .u16 0, .int .u8 0, .int .u8 0, .int .u8 0, .int .u8 0, .int .u8 0]) (.agg #[.int .u16 0, .int .u8 0, .int .u8 0, .int .u8 0, .int .u8 0, .int .u8 0])).run Tryd.prog W = .ok true W := fun W => (tm_same Tm.zero Tm.zero W 9998).trans (by simp)
  have SMB := Lib.hid (fun A1 A2 n1 n2 c1 c2 xs W h1 h2 => same_any A1 A2 n1 n2 c1 c2 xs xs W h1 h2)
  have HQ := Lib.hid hq
  clear hq ok
  generalize dW t pb db = wl at *
  have HWT := Lib.hid WT
  have HWR := Lib.hid WR
  clear WT WR
  generalize textL s.data.toList gb at_ t db = tl at *
  obtain ⟨y, mo, dd, hh, mi, ss⟩ := t
  simp only [tmV, Tm.cells, gV] at *
  have hsz : ((gb.map bv).toArray).toList.length = 16 := by simp [hg]
  have hone : ∀ v ∈ ((gb.map bv).toArray).toList, v.oneCell' = true := by intro v hv; simp at hv; obtain ⟨q, _, rfl⟩ := hv; rfl
  have hcs : Hid ((gb.map bv).toArray.toList = gb.map bv) := by show _ = _; simp
  generalize (gb.map bv).toArray = gc at *
  clear hg
  go_enter Tryd.func3, Tryd.ntmps3
  go_wp2_with fail
  refine calls_named fun w0 hw0 => ?_
  have hbw0 : Below w.heap.size w w0 := by subst hw0; exact ((Below.refl _ _).alloc (Nat.le_refl _) _).alloc (by simp) _
  have hs0 := hbw0.size
  have k0 : w0.heap[w.heap.size]? = some (.cells #[.int .u16 (y : Int), .int .u8 (mo.toNat : Int), .int .u8 (dd.toNat : Int), .int .u8 (hh.toNat : Int), .int .u8 (mi.toNat : Int), .int .u8 (ss.toNat : Int)] 25) := by subst hw0; exact heap_alloc2_old w _ _
  have g0 : w0.heap[w.heap.size + 1]? = some (.cells gc 27) := by subst hw0; exact heap_alloc2_new w _ _
  have HGL := Lib.hid (heap_lt g0)
  clear hw0
  refine (TA.out w0 hbw0).mono ?_
  rintro e w1 ⟨Aa, na, ca, rfl, oa1, hb1⟩
  obtain rfl : n = na := HLB.out.symm.trans oa1.len
  have hbw1 := hbw0.trans (hb1.mono hs0)
  have hs1 := hbw1.size
  have k1 := (hb1.block _ (heap_lt k0)).trans k0
  have g1 := (hb1.block _ (heap_lt g0)).trans g0
  have hz1 : w0.heap.size ≤ w1.heap.size := hb1.size
  clear hb1 k0 g0
  have hcp := oa1.cap
  unfold maxLen at hcp
  have HA1 := Lib.hid oa1
  go_wp2_with fail
  refine (RDB.out Aa ca w1 oa1.rb hcp.1 (by omega) (hT.below' hbw1)).mono ?_
  intro e w2 hp
  simp only [DReadPost, HQ.out] at hp
  obtain ⟨P2, pn2, pc2, D2, dn2, dc2, rfl, oU2, oV2, hb2⟩ := hp
  obtain ⟨zt, zb, zd⟩ := z
  simp only [tmV, Tm.cells] at *
  have FU := Lib.hid (far_of HA1.out oU2 (Nat.le_refl _))
  have FV := Lib.hid (far_of HA1.out oV2 (Nat.le_refl _))
  have hbw2 := hbw1.trans (hb2.mono hs1)
  have hs2 := hbw2.size
  have k2 := (hb2.block _ (heap_lt k1)).trans k1
  have g2 := (hb2.block _ (heap_lt g1)).trans g1
  have oa2 := oa1.below hb2 (Nat.le_refl _)
  have hz2 : w1.heap.size ≤ w2.heap.size := hb2.size
  clear hb2 k1 g1 oa1
  go_wp2_with fail
  refine calls_named fun w3 hw3 => ?_
  have hb3 : Below w2.heap.size w2 w3 := by subst hw3; exact (Below.refl _ _).alloc (Nat.le_refl _) _
  have u3 := heap_named hw3 (heap_alloc_new w2 _)
  clear hw3
  have hbw3 := hbw2.trans (hb3.mono hs2)
  have hs3 := hbw3.size
  have k3 := (hb3.block _ (heap_lt k2)).trans k2
  have g3 := (hb3.block _ (heap_lt g2)).trans g2
  have oa3 := oa2.below hb3 (Nat.le_refl _)
  have oU3 := oU2.below hb3 (Nat.le_refl _)
  have oV3 := oV2.below hb3 (Nat.le_refl _)
  have hz3 : w2.heap.size ≤ w3.heap.size := hb3.size
  clear hb3 k2 g2 oa2 oU2 oV2
  refine (RRB.out w3 hbw3).mono ?_
  intro e w4 hp
  simp only [DReadPost, HQ.out] at hp
  obtain ⟨P4, pn4, pc4, D4, dn4, dc4, rfl, oX4, oY4, hb4⟩ := hp
  simp only [tmV, Tm.cells] at *
  have FX := Lib.hid (far_of oa3 oX4 (Nat.le_refl _))
  have FY := Lib.hid (far_of oa3 oY4 (Nat.le_refl _))
  obtain ⟨zy, zmo, zdd, zhh, zmi, zss⟩ := zt
  simp only at *
  have HUQ : ∀ W, (Op.equalIn 10000 25 (.agg #[.int .u16 (zy : Int), .int .u8 (zmo.toNat : Int), .int .u8 (zdd.toNat : Int), .int .u8 (zhh.toNat : Int), .int .u8 (zmi.toNat : Int), .int .u8 (zss.toNat : Int)]) (.agg #[.int .u16 (zy : Int), .int .u8 (zmo.toNat : Int), .int .u8 (zdd.toNat : Int), .int .u8 (zhh.toNat : Int), .int .u8 (zmi.toNat : Int), .int .u8 (zss.toNat : Int)])).run Tryd.prog W = .ok true W := fun W => (tm_same ⟨zy, zmo, zdd, zhh, zmi, zss⟩ ⟨zy, zmo, zdd, zhh, zmi, zss⟩ W 9998).trans (by simp)
  have hbw4 := hbw3.trans (hb4.mono hs3)
  have hs4 := hbw4.size
  have k4 := (hb4.block _ (heap_lt k3)).trans k3
  have g4 := (hb4.block _ (heap_lt g3)).trans g3
  have u4 := (hb4.block _ (heap_lt u3)).trans u3
  have oa4 := oa3.below hb4 (Nat.le_refl _)
  have oU4 := oU3.below hb4 (Nat.le_refl _)
  have oV4 := oV3.below hb4 (Nat.le_refl _)
  have hz4 : w3.heap.size ≤ w4.heap.size := hb4.size
  clear hb4 k3 g3 u3 oa3 oU3 oV3
  obtain ⟨a0, a1, a2, a3, a4, a5⟩ := cells6 u4
  have hla4 := heap_lt u4
  go_wp2_with fail
  refine calls_named fun w5 hw5 => ?_
  have hb5 : Below w4.heap.size w4 w5 := by subst hw5; exact (Below.refl _ _).alloc (Nat.le_refl _) _
  clear hw5 a0 a1 a2 a3 a4 a5 hla4
  have hbw5 := hbw4.trans (hb5.mono hs4)
  have hs5 := hbw5.size
  have k5 := (hb5.block _ (heap_lt k4)).trans k4
  have g5 := (hb5.block _ (heap_lt g4)).trans g4
  have u5 := (hb5.block _ (heap_lt u4)).trans u4
  have oa5 := oa4.below hb5 (Nat.le_refl _)
  have oU5 := oU4.below hb5 (Nat.le_refl _)
  have oV5 := oV4.below hb5 (Nat.le_refl _)
  have oX5 := oX4.below hb5 (Nat.le_refl _)
  have oY5 := oY4.below hb5 (Nat.le_refl _)
  have hz5 : w4.heap.size ≤ w5.heap.size := hb5.size
  clear hb5 k4 g4 u4 oa4 oU4 oV4 oX4 oY4
  refine (SMB.out _ _ _ _ _ _ _ w5 oa5.rb (hR.below hbw5)).mono ?_
  rintro e w' ⟨rfl, rfl⟩
  rw [beq_me]
  clear u5
  have ko5 := World.grownBy.refl w5 (blk Aa)
  have hbl5 := HLB.out
  have oz5 : OwnB w5 w0.heap.size Aa n ca (List.replicate 0 85 ++ bs.drop 0) := by simpa using oa5
  have KO5 := Lib.hid ko5
  have OZ5 := Lib.hid oz5
  clear ko5 oz5 hbl5
  have HK5 := Lib.hid k5
  have HG5 := Lib.hid g5
  clear k5 g5
  have HoU5 := Lib.hid oU5
  clear oU5
  have HoV5 := Lib.hid oV5
  clear oV5
  have HoX5 := Lib.hid oX5
  clear oX5
  have HoY5 := Lib.hid oY5
  clear oY5
  have HB5 := Lib.hid hbw5
  clear oa5
  go_wp2
  go_loopw [24] (fun i wr => ∃ k : Nat, k ≤ n ∧ i = .int .i64 k ∧ w5.grownBy wr (blk Aa) ∧ OwnB wr w0.heap.size Aa n ca (List.replicate k 85 ++ bs.drop k)) (fun i _ => n - (intOf i).toNat)
  case atStart => exact ⟨0, Nat.zero_le _, rfl, KO5.out, OZ5.out⟩
  case round =>
    obtain ⟨k, hk, rfl, hgr, hoz⟩ := hrel
    by_cases hlt : k < n
    · have hcp2 := hoz.cap
      obtain ⟨gg, hAa, hg1, hg2⟩ := hoz.shape (by omega)
      subst hAa
      have hlen := HLB.out
      obtain ⟨qk, hqk⟩ : ∃ q, (List.replicate k (85 : UInt8) ++ bs.drop k)[k]? = some q := ⟨bs[k]'(by omega), by rw [List.getElem?_append_right (by simp), List.length_replicate, Nat.sub_self, List.getElem?_drop, Nat.add_zero, List.getElem?_eq_getElem (by omega)]⟩
      have xs := hoz.cellAt k qk hqk
      have xf := hoz.free k
      have hst := hoz.stored k 85
      rw [over_step bs k 85 (by omega)] at hst
      have hgr2 := grown_trans hgr (grown_put wr gg k (.int .u8 ((85 : UInt8).toNat : Int)))
      have HST := Lib.hid hst
      have HGR := Lib.hid hgr2
      have e85 : Hid (((85 : UInt8).toNat : Int) = 85) := rfl
      clear hst hgr hgr2 hoz hlen hqk
      go_wp2
      go_roundw
      case rel => exact ⟨k + 1, by omega, by go_num, HGR.out, HST.out⟩
      case measure => simp [intOf]; omega
    · obtain rfl : k = n := by omega
      have hfz : Hid (True) := trivial
      have hcp2 := hoz.cap
      have hbx := HB5.out.grown hgr HB5.out.size (fun g e => by have := (HA1.out.blk_lt e).1; omega)
      have kk := (hgr.block w.heap.size (heap_lt HK5.out) (fun e => by have := (HA1.out.blk_lt e.symm).1; have := HGL.out; omega)).trans HK5.out
      have gg := (hgr.block (w.heap.size + 1) (heap_lt HG5.out) (fun e => by have := (HA1.out.blk_lt e.symm).1; have := HGL.out; omega)).trans HG5.out
      have qU := HoU5.out.kept hgr (far_symm FU.out)
      have qV := HoV5.out.kept hgr (far_symm FV.out)
      have qX := HoX5.out.kept hgr (far_symm FX.out)
      have qY := HoY5.out.kept hgr (far_symm FY.out)
      clear hoz hgr
      obtain ⟨w9, rfl⟩ : ∃ w9 : World, w9 = wr := ⟨_, rfl⟩
      have hbw9 := hbx
      have hs9 := hbw9.size
      have k9 := kk
      have g9 := gg
      clear hbx kk gg
      go_wp2_with fail
      refine (SMB.out _ _ _ _ _ _ _ w9 qU.rb qX.rb).mono ?_
      rintro e w' ⟨rfl, rfl⟩
      rw [beq_me]
      go_wp2_with fail
      refine (SMB.out _ _ _ _ _ _ _ w9 qV.rb qY.rb).mono ?_
      rintro e w' ⟨rfl, rfl⟩
      rw [beq_me]
      clear qU qV qX qY
      go_wp2_with fail
      refine (TP.out w9 hbw9).mono ?_
      rintro e w10 ⟨Ax, nx, cx, rfl, ox10, hb10⟩
      obtain rfl : pn = nx := HPL.out.symm.trans ox10.len
      have hbw10 := hbw9.trans (hb10.mono hs9)
      have hs10 := hbw10.size
      have k10 := (hb10.block _ (heap_lt k9)).trans k9
      have g10 := (hb10.block _ (heap_lt g9)).trans g9
      have hz10 : w9.heap.size ≤ w10.heap.size := hb10.size
      clear hb10 k9 g9
      go_wp2_with fail
      refine (TD.out w10 hbw10).mono ?_
      rintro e w11 ⟨Ay, ny, cy, rfl, oy11, hb11⟩
      obtain rfl : dn = ny := HDL.out.symm.trans oy11.len
      have hbw11 := hbw10.trans (hb11.mono hs10)
      have hs11 := hbw11.size
      have k11 := (hb11.block _ (heap_lt k10)).trans k10
      have g11 := (hb11.block _ (heap_lt g10)).trans g10
      have ox11 := ox10.below hb11 (Nat.le_refl _)
      have hz11 : w10.heap.size ≤ w11.heap.size := hb11.size
      clear hb11 k10 g10 ox10
      obtain ⟨a0, a1, a2, a3, a4, a5⟩ := cells6 k11
      have hla11 := heap_lt k11
      go_wp2_with fail
      refine (HWT.out _ _ _ _ w11 (hT.below' hbw11) ox11.rb oy11.rb).mono ?_
      rintro e w12 ⟨Ac, nc, cc, rfl, oc12, hb12⟩
      rw [show erW true = (0 : Int) from rfl]
      clear a0 a1 a2 a3 a4 a5 hla11
      have hbw12 := hbw11.trans (hb12.mono hs11)
      have hs12 := hbw12.size
      have k12 := (hb12.block _ (heap_lt k11)).trans k11
      have g12 := (hb12.block _ (heap_lt g11)).trans g11
      have ox12 := ox11.below hb12 (Nat.le_refl _)
      have oy12 := oy11.below hb12 (Nat.le_refl _)
      have hz12 : w11.heap.size ≤ w12.heap.size := hb12.size
      clear hb12 k11 g11 ox11 oy11
      obtain ⟨a0, a1, a2, a3, a4, a5⟩ := cells6 k12
      have hla12 := heap_lt k12
      go_wp2_with fail
      refine (HWR.out w12 hbw12).mono ?_
      rintro e w13 ⟨Ad, nd, cd, rfl, od13, hb13⟩
      rw [show erW true = (0 : Int) from rfl]
      clear a0 a1 a2 a3 a4 a5 hla12
      have hbw13 := hbw12.trans (hb13.mono hs12)
      have hs13 := hbw13.size
      have k13 := (hb13.block _ (heap_lt k12)).trans k12
      have g13 := (hb13.block _ (heap_lt g12)).trans g12
      have ox13 := ox12.below hb13 (Nat.le_refl _)
      have oy13 := oy12.below hb13 (Nat.le_refl _)
      have oc13 := oc12.below hb13 (Nat.le_refl _)
      have hz13 : w12.heap.size ≤ w13.heap.size := hb13.size
      clear hb13 k12 g12 ox12 oy12 oc12
      go_wp2_with fail
      refine (SMB.out _ _ _ _ _ _ _ w13 oc13.rb od13.rb).mono ?_
      rintro e w' ⟨rfl, rfl⟩
      rw [beq_me]
      go_wp2_with fail
      refine (SMB.out _ _ _ _ _ _ _ w13 ox13.rb (hP.below hbw13)).mono ?_
      rintro e w' ⟨rfl, rfl⟩
      rw [beq_me]
      go_wp2_with fail
      refine (SMB.out _ _ _ _ _ _ _ w13 oy13.rb (hD.below hbw13)).mono ?_
      rintro e w' ⟨rfl, rfl⟩
      rw [beq_me]
      have K13 : K2 w13 w.heap.size (.cells #[.int .u16 (y : Int), .int .u8 (mo.toNat : Int), .int .u8 (dd.toNat : Int), .int .u8 (hh.toNat : Int), .int .u8 (mi.toNat : Int), .int .u8 (ss.toNat : Int)] 25) (.cells gc 27) w13 := ⟨Below.refl _ _, k13, g13⟩
      have KEEP : Hid (∀ W, K2 w13 w.heap.size (.cells #[.int .u16 (y : Int), .int .u8 (mo.toNat : Int), .int .u8 (dd.toNat : Int), .int .u8 (hh.toNat : Int), .int .u8 (mi.toNat : Int), .int .u8 (ss.toNat : Int)] 25) (.cells gc 27) W → (W.cell? ⟨w.heap.size, 0, none⟩ = some (.int .u16 (y : Int)) ∧ W.cell? ⟨w.heap.size, 1, none⟩ = some (.int .u8 (mo.toNat : Int)) ∧ W.cell? ⟨w.heap.size, 2, none⟩ = some (.int .u8 (dd.toNat : Int)) ∧ W.cell? ⟨w.heap.size, 3, none⟩ = some (.int .u8 (hh.toNat : Int)) ∧ W.cell? ⟨w.heap.size, 4, none⟩ = some (.int .u8 (mi.toNat : Int)) ∧ W.cell? ⟨w.heap.size, 5, none⟩ = some (.int .u8 (ss.toNat : Int))) ∧ W.rangeAt (w.heap.size + 1) 0 gc.toList ∧ K2 w13 w.heap.size (.cells #[.int .u16 (y : Int), .int .u8 (mo.toNat : Int), .int .u8 (dd.toNat : Int), .int .u8 (hh.toNat : Int), .int .u8 (mi.toNat : Int), .int .u8 (ss.toNat : Int)] 25) (.cells gc 27) W) := fun W h => ⟨cells6 h.h1, range16 h.h2, h⟩
      have OY := Lib.hid (fun W (h : Below w13.heap.size w13 W) => oy13.rb.below h)
      have HBW := Lib.hid (fun W (h : Below w13.heap.size w13 W) => hbw13.trans (h.mono hs13))
      have HDW := Lib.hid (fun W (h : Below w13.heap.size w13 W) => hD.below (hbw13.trans (h.mono hs13)))
      have HTW := Lib.hid (fun W (h : Below w13.heap.size w13 W) => hT.below' (hbw13.trans (h.mono hs13)))
      have hu := Tryd.underlying27
      have hi : (Tryd.prog.info? 27).map (·.size) = some gc.toList.length := by rw [hsz]; kernel_rfl
      clear ox13 oy13 oc13 od13 k13 g13 hbw13
      go_wp2
      refine wp_region_noPanic ?_
      refine wp_region_held_drew (S := fun W => (W.cell? ⟨w.heap.size, 0, none⟩ = some (.int .u16 (y : Int)) ∧ W.cell? ⟨w.heap.size, 1, none⟩ = some (.int .u8 (mo.toNat : Int)) ∧ W.cell? ⟨w.heap.size, 2, none⟩ = some (.int .u8 (dd.toNat : Int)) ∧ W.cell? ⟨w.heap.size, 3, none⟩ = some (.int .u8 (hh.toNat : Int)) ∧ W.cell? ⟨w.heap.size, 4, none⟩ = some (.int .u8 (mi.toNat : Int)) ∧ W.cell? ⟨w.heap.size, 5, none⟩ = some (.int .u8 (ss.toNat : Int))) ∧ W.rangeAt (w.heap.size + 1) 0 gc.toList ∧ K2 w13 w.heap.size (.cells #[.int .u16 (y : Int), .int .u8 (mo.toNat : Int), .int .u8 (dd.toNat : Int), .int .u8 (hh.toNat : Int), .int .u8 (mi.toNat : Int), .int .u8 (ss.toNat : Int)] 25) (.cells gc 27) W) (by kernel_rfl) (KEEP.out _ K13.drew) (fun hHeld => ?_)
      refine wpAnyH_take (i := 0) (oi := _) (v := ?_) rfl (by kernel_rfl) (by kernel_rfl) (by kernel_rfl) (fun _ _ _ h => h) (Or.inl ⟨by rfl, ?_⟩) hHeld ?_
      rotate_left
      · (intro w hSw; (try dsimp only at hSw); go_simp; (try with_reducible rfl))
      try simp only [Act.put, List.setIfInBounds_toArray]
      refine wpAnyH_take (i := 1) (oi := _) (v := _) rfl (by kernel_rfl) (by kernel_rfl) (by kernel_rfl) (fun _ _ _ h => h) (yieldsIf_load_mid (by rfl) _ _ rfl _ _ rfl gc.toList (.array 16 5) (fun w hSw => hSw.2.1) hu rfl hi) hHeld ?_
      try simp only [Act.put]
      refine wpAnyH_take (i := 2) (oi := _) (v := ?_) rfl (by kernel_rfl) (by kernel_rfl) (by kernel_rfl) (fun _ _ _ h => h) (Or.inl ⟨by rfl, ?_⟩) hHeld ?_
      rotate_left
      · (intro w hSw; (try dsimp only at hSw); go_simp; (try with_reducible rfl))
      try simp only [Act.put]
      refine wpAnyH_take (i := 3) (oi := _) (v := ?_) rfl (by kernel_rfl) (by kernel_rfl) (by kernel_rfl) (fun _ _ _ h => h) (Or.inl ⟨by rfl, ?_⟩) hHeld ?_
      rotate_left
      · (intro w hSw; (try dsimp only at hSw); go_simp; (try with_reducible rfl))
      try simp only [Act.put]
      refine wpAnyH_take (i := 4) (oi := _) (v := ?_) rfl (by kernel_rfl) (by kernel_rfl) (by kernel_rfl) (fun _ _ _ h => h) (Or.inl ⟨by rfl, ?_⟩) hHeld ?_
      rotate_left
      · (intro w hSw; (try dsimp only at hSw); go_simp; (try with_reducible rfl))
      try simp only [Act.put]
      refine wpAnyH_take (i := 6) (oi := _) (v := ?_) rfl (by kernel_rfl) (by kernel_rfl) (by kernel_rfl) (fun _ _ _ h => h) (Or.inl ⟨by rfl, ?_⟩) hHeld ?_
      rotate_left
      · (intro w hSw; (try dsimp only at hSw); go_simp; (try with_reducible rfl))
      try simp only [Act.put]
      refine wpAnyH_take (i := 7) (oi := _) (v := _) rfl (by kernel_rfl) (by kernel_rfl) (by kernel_rfl) (fun _ _ _ h => h) (yieldsIf_load_mid (by rfl) _ _ rfl _ _ rfl gc.toList (.array 16 5) (fun w hSw => hSw.2.1) hu rfl hi) hHeld ?_
      try simp only [Act.put]
      refine wpAnyH_take (i := 8) (oi := _) (v := ?_) rfl (by kernel_rfl) (by kernel_rfl) (by kernel_rfl) (fun _ _ _ h => h) (Or.inl ⟨by rfl, ?_⟩) hHeld ?_
      rotate_left
      · (intro w hSw; (try dsimp only at hSw); go_simp; (try with_reducible rfl))
      try simp only [Act.put]
      refine wpAnyH_take (i := 9) (oi := _) (v := ?_) rfl (by kernel_rfl) (by kernel_rfl) (by kernel_rfl) (fun _ _ _ h => h) (Or.inl ⟨by rfl, ?_⟩) hHeld ?_
      rotate_left
      · (intro w hSw; (try dsimp only at hSw); go_simp; (try with_reducible rfl))
      try simp only [Act.put]
      refine wpAnyH_take (i := 10) (oi := _) (v := ?_) rfl (by kernel_rfl) (by kernel_rfl) (by kernel_rfl) (fun _ _ _ h => h) (Or.inl ⟨by rfl, ?_⟩) hHeld ?_
      rotate_left
      · (intro w hSw; (try dsimp only at hSw); go_simp; (try with_reducible rfl))
      try simp only [Act.put]
      refine wpAnyH_ready (rs := [5]) (by kernel_rfl) (by simp) ?_
      refine AllReadyH.cons (o := _) rfl (fun K hK => ?_) AllReadyH.nil
      go_simp
      (with_reducible refine (TX.out _ _ _ (HTW.out _ hHeld.2.2.b) (OY.out _ hHeld.2.2.b)).mono ?_)
      rintro e X3 ⟨A3, n3, c3, rfl, hown3, hb3⟩
      have K3 := K2.call (w := w13) (g := w.heap.size) (o1 := (.cells #[.int .u16 (y : Int), .int .u8 (mo.toNat : Int), .int .u8 (dd.toNat : Int), .int .u8 (hh.toNat : Int), .int .u8 (mi.toNat : Int), .int .u8 (ss.toNat : Int)] 25)) (o2 := (.cells gc 27)) hHeld.2.2 hb3
      have O3 := Lib.hid hown3
      have KK3 := Lib.hid K3
      clear hown3 hb3 hHeld
      go_wp2_with fail
      refine hK.out _ _ ?_ (fun hHeld => ?_)
      · exact KEEP.out _ KK3.out
      clear hK K
      try simp only [Act.put, List.setIfInBounds_toArray, List.set_cons_zero, List.set_cons_succ]
      refine wpAnyH_ready (rs := [11]) (by kernel_rfl) (by simp) ?_
      refine AllReadyH.cons (o := _) rfl (fun K hK => ?_) AllReadyH.nil
      go_simp
      (with_reducible refine (RX.out _ (HBW.out _ hHeld.2.2.b)).mono ?_)
      rintro e X4 ⟨A4, n4, c4, rfl, hown4, hb4⟩
      have K4 := K2.call (w := w13) (g := w.heap.size) (o1 := (.cells #[.int .u16 (y : Int), .int .u8 (mo.toNat : Int), .int .u8 (dd.toNat : Int), .int .u8 (hh.toNat : Int), .int .u8 (mi.toNat : Int), .int .u8 (ss.toNat : Int)] 25)) (o2 := (.cells gc 27)) hHeld.2.2 hb4
      have O4 := Lib.hid hown4
      have O34 := Lib.hid (O3.out.below hb4 (Nat.le_refl _))
      have KK4 := Lib.hid K4
      clear hown4 hb4 hHeld
      go_wp2_with fail
      refine hK.out _ _ ?_ (fun hHeld => ?_)
      · exact KEEP.out _ KK4.out
      clear hK K
      try simp only [Act.put, List.setIfInBounds_toArray, List.set_cons_zero, List.set_cons_succ]
      refine wpAnyH_ready (rs := [12]) (by kernel_rfl) (by simp) ?_
      refine AllReadyH.cons (o := _) rfl (fun K hK => ?_) AllReadyH.nil
      go_simp
      (with_reducible refine (SMB.out _ _ _ _ _ _ _ _ O34.out.rb O4.out.rb).mono ?_)
      rintro e w' ⟨rfl, rfl⟩
      rw [beq_me]
      clear hHeld
      go_wp2_with fail
      refine hK.out _ _ ?_ (fun hHeld => ?_)
      · exact KEEP.out _ KK4.out
      clear hK K
      try simp only [Act.put, List.setIfInBounds_toArray, List.set_cons_zero, List.set_cons_succ]
      refine wpAnyH_take (i := 13) (oi := _) (v := ?_) rfl (by kernel_rfl) (by kernel_rfl) (by kernel_rfl) (fun _ _ _ h => h) (Or.inl ⟨by rfl, ?_⟩) hHeld ?_
      rotate_left
      · (intro w hSw; (try dsimp only at hSw); go_simp; (try with_reducible rfl))
      try simp only [Act.put, List.setIfInBounds_toArray]
      refine wpAnyH_take (i := 14) (oi := _) (v := ?_) rfl (by kernel_rfl) (by kernel_rfl) (by kernel_rfl) (fun _ _ _ h => h) (Or.inl ⟨by rfl, ?_⟩) hHeld ?_
      rotate_left
      · (intro w hSw; (try dsimp only at hSw); go_simp; (try with_reducible rfl))
      try simp only [Act.put]
      refine wpAnyH_take (i := 15) (oi := _) (v := ?_) rfl (by kernel_rfl) (by kernel_rfl) (by kernel_rfl) (fun _ _ _ h => h) (Or.inl ⟨by rfl, ?_⟩) hHeld ?_
      rotate_left
      · (intro w hSw; (try dsimp only at hSw); go_simp; (try with_reducible rfl))
      try simp only [Act.put]
      refine wpAnyH_ready (rs := [16]) (by kernel_rfl) (by simp) ?_
      refine AllReadyH.cons (o := _) rfl (fun K hK => ?_) AllReadyH.nil
      go_simp
      (with_reducible refine (SMB.out _ _ _ _ _ _ _ _ (OY.out _ KK4.out.b) (HDW.out _ KK4.out.b)).mono ?_)
      rintro e w' ⟨rfl, rfl⟩
      rw [beq_me]
      clear hHeld
      go_wp2_with fail
      refine hK.out _ _ ?_ (fun hHeld => ?_)
      · exact KEEP.out _ KK4.out
      clear hK K
      try simp only [Act.put, List.setIfInBounds_toArray, List.set_cons_zero, List.set_cons_succ]
      refine wpAnyH_take (i := 17) (oi := _) (v := ?_) rfl (by kernel_rfl) (by kernel_rfl) (by kernel_rfl) (fun _ _ _ h => h) (Or.inl ⟨by rfl, ?_⟩) hHeld ?_
      rotate_left
      · (intro w hSw; (try dsimp only at hSw); go_simp; (try with_reducible rfl))
      try simp only [Act.put, List.setIfInBounds_toArray]
      refine wpAnyH_take (i := 18) (oi := _) (v := ?_) rfl (by kernel_rfl) (by kernel_rfl) (by kernel_rfl) (fun _ _ _ h => h) (Or.inl ⟨by rfl, ?_⟩) hHeld ?_
      rotate_left
      · (intro w hSw; (try dsimp only at hSw); go_simp; (try with_reducible rfl))
      try simp only [Act.put]
      refine wpAnyH_ready (rs := [19]) (by kernel_rfl) (by simp) ?_
      refine AllReadyH.cons (o := _) rfl (fun K hK => ?_) AllReadyH.nil
      go_simp
      (with_reducible refine (WK.out _ (HTW.out _ KK4.out.b)).mono ?_)
      rintro e X5 ⟨rfl, hb5⟩
      have K5 := K2.call (w := w13) (g := w.heap.size) (o1 := (.cells #[.int .u16 (y : Int), .int .u8 (mo.toNat : Int), .int .u8 (dd.toNat : Int), .int .u8 (hh.toNat : Int), .int .u8 (mi.toNat : Int), .int .u8 (ss.toNat : Int)] 25)) (o2 := (.cells gc 27)) KK4.out hb5
      have KK5 := Lib.hid K5
      clear hb5 hHeld
      go_wp2_with fail
      refine hK.out _ _ ?_ (fun hHeld => ?_)
      · exact KEEP.out _ KK5.out
      clear hK K
      try simp only [Act.put, List.setIfInBounds_toArray, List.set_cons_zero, List.set_cons_succ]
      refine wpAnyH_take (i := 20) (oi := _) (v := ?_) rfl (by kernel_rfl) (by kernel_rfl) (by kernel_rfl) (fun _ _ _ h => h) (Or.inl ⟨by rfl, ?_⟩) hHeld ?_
      rotate_left
      · (intro w hSw; (try dsimp only at hSw); go_simp; (try with_reducible rfl))
      simp only [Act.put, List.setIfInBounds_toArray, List.set_cons_zero, List.set_cons_succ, List.getElem_toArray, List.getElem_cons_succ, List.getElem_cons_zero]

      refine wpAnyH_take (i := 21) (oi := _) (v := ?_) rfl (by kernel_rfl) (by kernel_rfl) (by kernel_rfl) (fun _ _ _ h => h) (Or.inl ⟨by rfl, ?_⟩) hHeld ?_
      rotate_left
      · (intro w hSw; (try dsimp only at hSw); go_simp; (try with_reducible rfl))
      simp only [Act.put, List.setIfInBounds_toArray, List.set_cons_zero, List.set_cons_succ, List.getElem_toArray, List.getElem_cons_succ, List.getElem_cons_zero]

      refine wpAnyH_done (by kernel_rfl) ?_ _
      refine NoPanic.normal ?_
      go_wp2
      go_ret
      exact ⟨rfl, HBW.out _ KK5.out.b⟩
end Go.Proofs.YthmmipcfabijdaaDoor
