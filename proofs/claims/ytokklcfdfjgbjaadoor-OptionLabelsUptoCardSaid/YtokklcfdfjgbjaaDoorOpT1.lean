/-
  option: the statement on labels, part 1.
-/
import Derived.Test.YtokklcfdfjgbjaaDoorOpR
import Derived.Test.YtokklcfdfjgbjaaDoorOpJ
import Derived.Test.YtokklcfdfjgbjaaDoorFam
namespace Go.Proofs.YtokklcfdfjgbjaaDoor
open Go.RowKit Go
set_option linter.unusedVariables false
set_option maxRecDepth 100000
set_option maxHeartbeats 16000000 in
theorem labels_fz (a : Nat) (l : ByteArray) (P : Option Addr) (pn pc : Nat) (pb : List UInt8) (D : Option Addr) (dn dc : Nat) (db : List UInt8) (at_ : Nat) (x : UInt8) (s : Nat) (w : World) (ha : a < 4294967296) (hP : RB w P pn pb) (hD : RB w D dn db) (hat : at_ < 65536) (hs : s < 65536) (hl2 : l.size ≤ 2000000) (hdn2 : dn ≤ 2000000) (hpn2 : pn ≤ 2000000) (hT : Sizes w) (hall : l.data.toList.all letter = true) (h1 : l.size ≤ 16384) (h2 : dn ≤ 65536) (h3 : pn ≤ 4096) (hfit : s ≤ pn + dn) (hz : l.size = 0) :
    Calls Tryd.prog 8 #[.agg #[.int .u32 (a : Int), .string l, .slice P pn pc, .slice D dn dc, .int .u16 (at_ : Int), .int .u8 (x.toNat : Int), .int .u16 (s : Int)]] w fun e w' => e = .returned (.bool true) ∧ Below w.heap.size w w' := by
  have WK := Lib.hid (fun W (h : Sizes W) => works_any W h)
  have WY := Lib.hid (fun W hs hp hd => write_yes2 a l P pn pc pb D dn dc db W hs ha hl2 hp hd (by omega) (by omega) hall)
  have hme := optB_len a l.data.toList pb db
  have HSZ := Lib.hid (data_len l)
  have HPL := Lib.hid hP.1
  have HDL := Lib.hid hD.1
  obtain ⟨m, hm⟩ : ∃ m, m = 8 + 2 * l.size + pn + dn := ⟨_, rfl⟩
  have hml : (optB a l.data.toList pb db).length = m := by rw [hme, HSZ.out, HPL.out, HDL.out, hm]
  have HML := Lib.hid hml
  have LN := Lib.hid (fun W => large_no a l P pn pc D dn dc W h1 h2)
  have d3 : decide (4096 < (pn : Int)) = false := decide_eq_false (by omega)
  have d4 : decide ((m : Int) < 6 + 2 * (l.size : Int)) = false := decide_eq_false (by omega)
  have hm8 : 8 ≤ m := by omega
  have hm9 : m ≤ 200000 := by omega
  have hlt6 : 2 * l.size + 8 ≤ m := by omega
  have hrc : readQ (((optB a l.data.toList pb db).set 4 (nb s 0)).set 5 (nb s 1)) = if s ≤ (pb ++ db).length then some (a, l.data.toList, (pb ++ db).take s, (pb ++ db).drop s) else none := by rw [optB_told]; exact readQ_gen a s _ _ ha hall hs
  rw [List.length_append, HPL.out, HDL.out] at hrc
  rw [if_pos hfit] at hrc
  have d5 : decide ((s : Int) ≤ (pn : Int) + (dn : Int)) = true := decide_eq_true (by omega)
  have HTK : Hid (((pb ++ db).take s).length = s) := by show _ = _; rw [List.length_take, List.length_append, HPL.out, HDL.out]; omega
  have hst9 : strOf l.data.toList = l := strOf_eq l
  have HST := Lib.hid hst9
  have e0 : ((nb s 0).toNat : Int) = (s : Int) % 256 := by rw [nb_num]; simp
  have e1 : ((nb s 1).toNat : Int) = (s : Int) / 256 := by rw [nb_num]; simp; omega
  have hq4 : ∃ q, (optB a l.data.toList pb db)[4]? = some q := ⟨_, List.getElem?_eq_getElem (show 4 < (optB a l.data.toList pb db).length by omega)⟩
  have hq5 : ∃ q, ((optB a l.data.toList pb db).set 4 (nb s 0))[5]? = some q := ⟨_, List.getElem?_eq_getElem (show 5 < ((optB a l.data.toList pb db).set 4 (nb s 0)).length by rw [List.length_set]; omega)⟩
  obtain ⟨q4, hq4⟩ := hq4
  obtain ⟨q5, hq5⟩ := hq5
  have d6 : ((l.size : Int) == 0) = true := beq_iff_eq.2 (by omega)
  generalize optB a l.data.toList pb db = ob at *
  have RC := Lib.hid (fun A c W hR h1 h2 hs => oread_any A m c ((ob.set 4 (nb s 0)).set 5 (nb s 1)) W hR h1 h2 (by omega) hs)
  have HRC := Lib.hid hrc
  have HE0 := Lib.hid e0
  have HE1 := Lib.hid e1
  have HQ4 := Lib.hid hq4
  have HQ5 := Lib.hid hq5
  generalize (pb ++ db).take s = t1 at *
  generalize (pb ++ db).drop s = t2 at *
  generalize l.data.toList = ll at *
  clear hrc e0 e1 hq4 hq5 hm hml hme hall hst9 hfit hz
  go_enter Tryd.func8, Tryd.ntmps8
  go_wp2_with fail
  refine calls_named fun w0 hw0 => ?_
  have hbw0 : Below w.heap.size w w0 := by subst hw0; exact ((Below.refl _ _).alloc (Nat.le_refl _) _).alloc (by simp) _
  have hs0 := hbw0.size
  have o0 : w0.heap[w.heap.size + 1]? = some (.cells #[.int .u32 (a : Int), .string l, .slice P pn pc, .slice D dn dc] 25) := by subst hw0; exact heap_alloc2_new w _ _
  have OLT := Lib.hid (heap_lt o0)
  clear hw0
  refine (WY.out w0 (hT.below' hbw0) (hP.below hbw0) (hD.below hbw0)).mono ?_
  rintro e w1 ⟨Aa, na, ca, rfl, oa1, hb1⟩
  obtain rfl : m = na := HML.out.symm.trans oa1.len
  have hbw1 := hbw0.trans (hb1.mono hs0)
  have hs1 := hbw1.size
  have o1 := (hb1.block _ (heap_lt o0)).trans o0
  have hz1 : w0.heap.size ≤ w1.heap.size := hb1.size
  clear hb1 o0
  obtain ⟨a0, a1, a2, a3⟩ := cells4 o1
  have hla1 := heap_lt o1
  go_wp2_with fail
  refine (LN.out w1).mono ?_
  intro e w2 hw2
  obtain ⟨rfl, hb2⟩ := hw2
  have hbw2 := hbw1.trans (hb2.mono hs1)
  have hs2 := hbw2.size
  have o2 := (hb2.block _ (heap_lt o1)).trans o1
  have oa2 := oa1.below hb2 (Nat.le_refl _)
  have hz2 : w1.heap.size ≤ w2.heap.size := hb2.size
  clear hb2 o1 oa1
  clear a0 a1 a2 a3
  obtain ⟨a0, a1, a2, a3⟩ := cells4 o2
  have hla2 := heap_lt o2
  go_wp2_with fail
  refine (copy_any Aa m ca ob w2 oa2.rb (by omega)).mono ?_
  have oa2' := oa2
  rintro e w3 ⟨Ac, nc, cc, rfl, oc3, hb3⟩
  obtain rfl : m = nc := HML.out.symm.trans oc3.len
  have hbw3 := hbw2.trans (hb3.mono hs2)
  have hs3 := hbw3.size
  have o3 := (hb3.block _ (heap_lt o2)).trans o2
  have oa3 := oa2.below hb3 (Nat.le_refl _)
  have hz3 : w2.heap.size ≤ w3.heap.size := hb3.size
  clear hb3 o2 oa2
  clear a0 a1 a2 a3
  have hcc := oc3.cap
  unfold maxLen at hcc
  have FAC := Lib.hid (far_of oa2' oc3 (Nat.le_refl _))
  obtain ⟨g3, rfl, hg3a, hg3b⟩ := oc3.shape (by omega)
  have x4 := oc3.cellAt 4 q4 HQ4.out
  have f4 := oc3.free 4
  have x5 := oc3.stored 4 (nb s 0)
  have x5c := x5.cellAt 5 q5 HQ5.out
  have x5f := x5.free 5
  have hst := x5.stored 5 (nb s 1)
  have hgr := grown_trans (grown_set1 w3 g3 4 (.int .u8 ((nb s 0).toNat : Int))) (grown_set1 _ g3 5 (.int .u8 ((nb s 1).toNat : Int)))
  rw [HE0.out] at x5c x5f
  rw [HE0.out, HE1.out] at hst hgr
  have hlo3 := heap_lt o3
  have hbx := hbw3.grown hgr hs3 (fun g e => by injection e with e; omega)
  have ox := (hgr.block _ (heap_lt o3) (fun e => by injection e with e; have := OLT.out; omega)).trans o3
  have oax := oa3.kept hgr (by
    rcases FAC.out with h | h
    · exact .inl h
    · exact .inr h)
  have HST9 := Lib.hid hst
  have HBX := Lib.hid hbx
  have OX := Lib.hid ox
  have OAX := Lib.hid oax
  clear hst hgr hbx ox oax x5 oc3 oa3 o3
  go_wp2_with fail
  refine calls_named fun w4 hw4 => ?_
  have hbw4 : Below w.heap.size w w4 := hw4 ▸ HBX.out
  have hs4 := hbw4.size
  have o4 : w4.heap[w.heap.size + 1]? = _ := hw4 ▸ OX.out
  have oa4 : OwnB w4 _ Aa m ca ob := hw4 ▸ OAX.out
  have oc4 : OwnB w4 _ (some ⟨g3, 0, none⟩) m cc ((ob.set 4 (nb s 0)).set 5 (nb s 1)) := hw4 ▸ HST9.out
  clear hw4 HBX OX OAX HST9 x4 f4 x5c x5f
  refine (RC.out _ cc w4 oc4.rb hcc.1 (by omega) (hT.below' hbw4)).mono ?_
  intro e w5 hp
  simp only [ReadPost, HRC.out] at hp
  obtain ⟨P5, pn5, pc5, D5, dn5, dc5, rfl, oP5, oD5, _, hb5⟩ := hp
  rw [HST.out]
  obtain rfl : s = pn5 := HTK.out.symm.trans oP5.len
  clear oP5 oD5
  clear oc4
  have hbw5 := hbw4.trans (hb5.mono hs4)
  have hs5 := hbw5.size
  have o5 := (hb5.block _ (heap_lt o4)).trans o4
  have oa5 := oa4.below hb5 (Nat.le_refl _)
  have hz5 : w4.heap.size ≤ w5.heap.size := hb5.size
  clear hb5 o4 oa4
  obtain ⟨a0, a1, a2, a3⟩ := cells4 o5
  have hla5 := heap_lt o5
  go_wp2_with fail
  refine calls_named fun w6 hw6 => ?_
  have hb6 : Below w5.heap.size w5 w6 := by subst hw6; exact (Below.refl _ _).alloc (Nat.le_refl _) _
  clear hw6
  have hbw6 := hbw5.trans (hb6.mono hs5)
  have hs6 := hbw6.size
  have o6 := (hb6.block _ (heap_lt o5)).trans o5
  have oa6 := oa5.below hb6 (Nat.le_refl _)
  have hz6 : w5.heap.size ≤ w6.heap.size := hb6.size
  clear hb6 o5 oa5
  refine (WK.out w6 (hT.below' hbw6)).mono ?_
  intro e w7 hw7
  obtain ⟨rfl, hb7⟩ := hw7
  have hbw7 := hbw6.trans (hb7.mono hs6)
  have hs7 := hbw7.size
  have o7 := (hb7.block _ (heap_lt o6)).trans o6
  have oa7 := oa6.below hb7 (Nat.le_refl _)
  have hz7 : w6.heap.size ≤ w7.heap.size := hb7.size
  clear hb7 o6 oa6
  go_wp2
  go_ret
  exact ⟨rfl, hbw7⟩
set_option maxHeartbeats 16000000 in
theorem labels_fro (a : Nat) (l : ByteArray) (P : Option Addr) (pn pc : Nat) (pb : List UInt8) (D : Option Addr) (dn dc : Nat) (db : List UInt8) (at_ : Nat) (x : UInt8) (s : Nat) (w : World) (ha : a < 4294967296) (hP : RB w P pn pb) (hD : RB w D dn db) (hat : at_ < 65536) (hs : s < 65536) (hl2 : l.size ≤ 2000000) (hdn2 : dn ≤ 2000000) (hpn2 : pn ≤ 2000000) (hT : Sizes w) (hall : l.data.toList.all letter = true) (h1 : l.size ≤ 16384) (h2 : dn ≤ 65536) (h3 : pn ≤ 4096) (hfit : s ≤ pn + dn) (hz : 0 < l.size) (hk : at_ % (2 * l.size) % 2 = 1) (hx : x.toNat ≠ 0) :
    Calls Tryd.prog 8 #[.agg #[.int .u32 (a : Int), .string l, .slice P pn pc, .slice D dn dc, .int .u16 (at_ : Int), .int .u8 (x.toNat : Int), .int .u16 (s : Int)]] w fun e w' => e = .returned (.bool true) ∧ Below w.heap.size w w' := by
  have WK := Lib.hid (fun W (h : Sizes W) => works_any W h)
  have WY := Lib.hid (fun W hs hp hd => write_yes2 a l P pn pc pb D dn dc db W hs ha hl2 hp hd (by omega) (by omega) hall)
  have hme := optB_len a l.data.toList pb db
  have HSZ := Lib.hid (data_len l)
  have HPL := Lib.hid hP.1
  have HDL := Lib.hid hD.1
  obtain ⟨m, hm⟩ : ∃ m, m = 8 + 2 * l.size + pn + dn := ⟨_, rfl⟩
  have hml : (optB a l.data.toList pb db).length = m := by rw [hme, HSZ.out, HPL.out, HDL.out, hm]
  have HML := Lib.hid hml
  have LN := Lib.hid (fun W => large_no a l P pn pc D dn dc W h1 h2)
  have d3 : decide (4096 < (pn : Int)) = false := decide_eq_false (by omega)
  have d4 : decide ((m : Int) < 6 + 2 * (l.size : Int)) = false := decide_eq_false (by omega)
  have hm8 : 8 ≤ m := by omega
  have hm9 : m ≤ 200000 := by omega
  have hlt6 : 2 * l.size + 8 ≤ m := by omega
  have hrc : readQ (((optB a l.data.toList pb db).set 4 (nb s 0)).set 5 (nb s 1)) = if s ≤ (pb ++ db).length then some (a, l.data.toList, (pb ++ db).take s, (pb ++ db).drop s) else none := by rw [optB_told]; exact readQ_gen a s _ _ ha hall hs
  rw [List.length_append, HPL.out, HDL.out] at hrc
  rw [if_pos hfit] at hrc
  have d5 : decide ((s : Int) ≤ (pn : Int) + (dn : Int)) = true := decide_eq_true (by omega)
  have HTK : Hid (((pb ++ db).take s).length = s) := by show _ = _; rw [List.length_take, List.length_append, HPL.out, HDL.out]; omega
  have hst9 : strOf l.data.toList = l := strOf_eq l
  have HST := Lib.hid hst9
  have e0 : ((nb s 0).toNat : Int) = (s : Int) % 256 := by rw [nb_num]; simp
  have e1 : ((nb s 1).toNat : Int) = (s : Int) / 256 := by rw [nb_num]; simp; omega
  have hq4 : ∃ q, (optB a l.data.toList pb db)[4]? = some q := ⟨_, List.getElem?_eq_getElem (show 4 < (optB a l.data.toList pb db).length by omega)⟩
  have hq5 : ∃ q, ((optB a l.data.toList pb db).set 4 (nb s 0))[5]? = some q := ⟨_, List.getElem?_eq_getElem (show 5 < ((optB a l.data.toList pb db).set 4 (nb s 0)).length by rw [List.length_set]; omega)⟩
  obtain ⟨q4, hq4⟩ := hq4
  obtain ⟨q5, hq5⟩ := hq5
  have d6 : ((l.size : Int) == 0) = false := beq_eq_false_iff_ne.2 (by omega)
  obtain ⟨j, hj⟩ : ∃ j, j = at_ % (2 * l.size) := ⟨_, rfl⟩
  have hj1 : j < 2 * l.size := by rw [hj]; exact Nat.mod_lt _ (by omega)
  have hjm : (at_ : Int) % (2 * (l.size : Int)) = (j : Int) := by rw [hj]; simp
  obtain ⟨k, hkk⟩ : ∃ k, k = 6 + j := ⟨_, rfl⟩
  have hkm : (6 : Int) + (j : Int) = (k : Int) := by omega
  have hk8 : k < m := by omega
  rw [← hj] at hk
  have hqk : ∃ q, (optB a l.data.toList pb db)[k]? = some q := ⟨_, List.getElem?_eq_getElem (show k < (optB a l.data.toList pb db).length by omega)⟩
  obtain ⟨qk, hqk⟩ := hqk
  have d7 : ((k : Int) % 2 == 1) = true := beq_iff_eq.2 (by omega)
  have d8 : ((k : Int) % 2 == 0) = false := beq_eq_false_iff_ne.2 (by omega)
  have d9 : ((x.toNat : Int) != 0) = true := by rw [bne, show ((x.toNat : Int) == 0) = false from beq_eq_false_iff_ne.2 (by omega)]; rfl
  have hrd : readQ ((optB a l.data.toList pb db).set k x) = none := by rw [hkk]; exact readQ_turned a _ pb db j x hall (by rw [HSZ.out]; exact hj1) (.inl ⟨hk, hx⟩)
  generalize optB a l.data.toList pb db = ob at *
  have RC := Lib.hid (fun A c W hR h1 h2 hs => oread_any A m c ((ob.set 4 (nb s 0)).set 5 (nb s 1)) W hR h1 h2 (by omega) hs)
  have HRC := Lib.hid hrc
  have HE0 := Lib.hid e0
  have HE1 := Lib.hid e1
  have HQ4 := Lib.hid hq4
  have HQ5 := Lib.hid hq5
  have RD := Lib.hid (fun A c W hR h1 h2 hs => oread_any A m c (ob.set k x) W hR h1 h2 (by omega) hs)
  have HQK := Lib.hid hqk
  have HRD := Lib.hid hrd
  generalize (pb ++ db).take s = t1 at *
  generalize (pb ++ db).drop s = t2 at *
  generalize l.data.toList = ll at *
  clear hrc e0 e1 hq4 hq5 hm hml hme hall hst9 hfit hqk hj hkk hk hrd hx
  go_enter Tryd.func8, Tryd.ntmps8
  go_wp2_with fail
  refine calls_named fun w0 hw0 => ?_
  have hbw0 : Below w.heap.size w w0 := by subst hw0; exact ((Below.refl _ _).alloc (Nat.le_refl _) _).alloc (by simp) _
  have hs0 := hbw0.size
  have o0 : w0.heap[w.heap.size + 1]? = some (.cells #[.int .u32 (a : Int), .string l, .slice P pn pc, .slice D dn dc] 25) := by subst hw0; exact heap_alloc2_new w _ _
  have OLT := Lib.hid (heap_lt o0)
  clear hw0
  refine (WY.out w0 (hT.below' hbw0) (hP.below hbw0) (hD.below hbw0)).mono ?_
  rintro e w1 ⟨Aa, na, ca, rfl, oa1, hb1⟩
  obtain rfl : m = na := HML.out.symm.trans oa1.len
  have hbw1 := hbw0.trans (hb1.mono hs0)
  have hs1 := hbw1.size
  have o1 := (hb1.block _ (heap_lt o0)).trans o0
  have hz1 : w0.heap.size ≤ w1.heap.size := hb1.size
  clear hb1 o0
  obtain ⟨a0, a1, a2, a3⟩ := cells4 o1
  have hla1 := heap_lt o1
  go_wp2_with fail
  refine (LN.out w1).mono ?_
  intro e w2 hw2
  obtain ⟨rfl, hb2⟩ := hw2
  have hbw2 := hbw1.trans (hb2.mono hs1)
  have hs2 := hbw2.size
  have o2 := (hb2.block _ (heap_lt o1)).trans o1
  have oa2 := oa1.below hb2 (Nat.le_refl _)
  have hz2 : w1.heap.size ≤ w2.heap.size := hb2.size
  clear hb2 o1 oa1
  clear a0 a1 a2 a3
  obtain ⟨a0, a1, a2, a3⟩ := cells4 o2
  have hla2 := heap_lt o2
  go_wp2_with fail
  refine (copy_any Aa m ca ob w2 oa2.rb (by omega)).mono ?_
  have oa2' := oa2
  rintro e w3 ⟨Ac, nc, cc, rfl, oc3, hb3⟩
  obtain rfl : m = nc := HML.out.symm.trans oc3.len
  have hbw3 := hbw2.trans (hb3.mono hs2)
  have hs3 := hbw3.size
  have o3 := (hb3.block _ (heap_lt o2)).trans o2
  have oa3 := oa2.below hb3 (Nat.le_refl _)
  have hz3 : w2.heap.size ≤ w3.heap.size := hb3.size
  clear hb3 o2 oa2
  clear a0 a1 a2 a3
  have hcc := oc3.cap
  unfold maxLen at hcc
  have FAC := Lib.hid (far_of oa2' oc3 (Nat.le_refl _))
  obtain ⟨g3, rfl, hg3a, hg3b⟩ := oc3.shape (by omega)
  have x4 := oc3.cellAt 4 q4 HQ4.out
  have f4 := oc3.free 4
  have x5 := oc3.stored 4 (nb s 0)
  have x5c := x5.cellAt 5 q5 HQ5.out
  have x5f := x5.free 5
  have hst := x5.stored 5 (nb s 1)
  have hgr := grown_trans (grown_set1 w3 g3 4 (.int .u8 ((nb s 0).toNat : Int))) (grown_set1 _ g3 5 (.int .u8 ((nb s 1).toNat : Int)))
  rw [HE0.out] at x5c x5f
  rw [HE0.out, HE1.out] at hst hgr
  have hlo3 := heap_lt o3
  have hbx := hbw3.grown hgr hs3 (fun g e => by injection e with e; omega)
  have ox := (hgr.block _ (heap_lt o3) (fun e => by injection e with e; have := OLT.out; omega)).trans o3
  have oax := oa3.kept hgr (by
    rcases FAC.out with h | h
    · exact .inl h
    · exact .inr h)
  have HST9 := Lib.hid hst
  have HBX := Lib.hid hbx
  have OX := Lib.hid ox
  have OAX := Lib.hid oax
  clear hst hgr hbx ox oax x5 oc3 oa3 o3
  go_wp2_with fail
  refine calls_named fun w4 hw4 => ?_
  have hbw4 : Below w.heap.size w w4 := hw4 ▸ HBX.out
  have hs4 := hbw4.size
  have o4 : w4.heap[w.heap.size + 1]? = _ := hw4 ▸ OX.out
  have oa4 : OwnB w4 _ Aa m ca ob := hw4 ▸ OAX.out
  have oc4 : OwnB w4 _ (some ⟨g3, 0, none⟩) m cc ((ob.set 4 (nb s 0)).set 5 (nb s 1)) := hw4 ▸ HST9.out
  clear hw4 HBX OX OAX HST9 x4 f4 x5c x5f
  refine (RC.out _ cc w4 oc4.rb hcc.1 (by omega) (hT.below' hbw4)).mono ?_
  intro e w5 hp
  simp only [ReadPost, HRC.out] at hp
  obtain ⟨P5, pn5, pc5, D5, dn5, dc5, rfl, oP5, oD5, _, hb5⟩ := hp
  rw [HST.out]
  obtain rfl : s = pn5 := HTK.out.symm.trans oP5.len
  clear oP5 oD5
  clear oc4
  have hbw5 := hbw4.trans (hb5.mono hs4)
  have hs5 := hbw5.size
  have o5 := (hb5.block _ (heap_lt o4)).trans o4
  have oa5 := oa4.below hb5 (Nat.le_refl _)
  have hz5 : w4.heap.size ≤ w5.heap.size := hb5.size
  clear hb5 o4 oa4
  obtain ⟨a0, a1, a2, a3⟩ := cells4 o5
  have hla5 := heap_lt o5
  go_wp2_with fail
  refine calls_named fun w6 hw6 => ?_
  have hb6 : Below w5.heap.size w5 w6 := by subst hw6; exact (Below.refl _ _).alloc (Nat.le_refl _) _
  clear hw6 a0 a1 a2 a3
  have hbw6 := hbw5.trans (hb6.mono hs5)
  have hs6 := hbw6.size
  have o6 := (hb6.block _ (heap_lt o5)).trans o5
  have oa6 := oa5.below hb6 (Nat.le_refl _)
  have hz6 : w5.heap.size ≤ w6.heap.size := hb6.size
  clear hb6 o5 oa5
  refine (copy_any Aa m ca ob w6 oa6.rb (by omega)).mono ?_
  rintro e w7 ⟨Ad, nd, cd, rfl, od7, hb7⟩
  obtain rfl : m = nd := HML.out.symm.trans od7.len
  have hbw7 := hbw6.trans (hb7.mono hs6)
  have hs7 := hbw7.size
  have o7 := (hb7.block _ (heap_lt o6)).trans o6
  have oa7 := oa6.below hb7 (Nat.le_refl _)
  have hz7 : w6.heap.size ≤ w7.heap.size := hb7.size
  clear hb7 o6 oa6
  have hcd := od7.cap
  unfold maxLen at hcd
  obtain ⟨g7, rfl, hg7a, hg7b⟩ := od7.shape (by omega)
  have x7 := od7.cellAt k qk HQK.out
  have f7 := od7.free k
  have hst := od7.stored k x
  have hgr := grown_set1 w7 g7 k (.int .u8 (x.toNat : Int))
  have hbx := hbw7.grown hgr hs7 (fun g e => by injection e with e; omega)
  have HST9 := Lib.hid hst
  have HBX := Lib.hid hbx
  clear hst hgr hbx od7 oa7 o7
  go_wp2_with fail
  refine calls_named fun w8 hw8 => ?_
  have hbw8 : Below w.heap.size w w8 := hw8 ▸ HBX.out
  have hs8 := hbw8.size
  have od8 : OwnB w8 _ (some ⟨g7, 0, none⟩) m cd (ob.set k x) := hw8 ▸ HST9.out
  clear hw8 HBX HST9 x7 f7
  refine (RD.out _ cd w8 od8.rb hcd.1 (by omega) (hT.below' hbw8)).mono ?_
  intro e w9 hp
  unfold ReadPost at hp
  rw [HRD.out] at hp
  simp only [opZ_eq] at hp
  obtain ⟨rfl, hb9⟩ := hp
  clear od8
  have hbw9 := hbw8.trans (hb9.mono hs8)
  have hs9 := hbw9.size
  have hz9 : w8.heap.size ≤ w9.heap.size := hb9.size
  clear hb9
  go_wp2_with fail
  refine calls_named fun w10 hw10 => ?_
  have hb10 : Below w9.heap.size w9 w10 := by subst hw10; exact (Below.refl _ _).alloc (Nat.le_refl _) _
  clear hw10
  have hbw10 := hbw9.trans (hb10.mono hs9)
  have hs10 := hbw10.size
  have hz10 : w9.heap.size ≤ w10.heap.size := hb10.size
  clear hb10
  refine (WK.out w10 (hT.below' hbw10)).mono ?_
  intro e w11 hw11
  obtain ⟨rfl, hb11⟩ := hw11
  have hbw11 := hbw10.trans (hb11.mono hs10)
  have hs11 := hbw11.size
  have hz11 : w10.heap.size ≤ w11.heap.size := hb11.size
  clear hb11
  go_wp2
  go_ret
  exact ⟨rfl, hbw11⟩
set_option maxHeartbeats 16000000 in
theorem labels_fre (a : Nat) (l : ByteArray) (P : Option Addr) (pn pc : Nat) (pb : List UInt8) (D : Option Addr) (dn dc : Nat) (db : List UInt8) (at_ : Nat) (x : UInt8) (s : Nat) (w : World) (ha : a < 4294967296) (hP : RB w P pn pb) (hD : RB w D dn db) (hat : at_ < 65536) (hs : s < 65536) (hl2 : l.size ≤ 2000000) (hdn2 : dn ≤ 2000000) (hpn2 : pn ≤ 2000000) (hT : Sizes w) (hall : l.data.toList.all letter = true) (h1 : l.size ≤ 16384) (h2 : dn ≤ 65536) (h3 : pn ≤ 4096) (hfit : s ≤ pn + dn) (hz : 0 < l.size) (hk : at_ % (2 * l.size) % 2 = 0) (hx : 127 < x.toNat) :
    Calls Tryd.prog 8 #[.agg #[.int .u32 (a : Int), .string l, .slice P pn pc, .slice D dn dc, .int .u16 (at_ : Int), .int .u8 (x.toNat : Int), .int .u16 (s : Int)]] w fun e w' => e = .returned (.bool true) ∧ Below w.heap.size w w' := by
  have WK := Lib.hid (fun W (h : Sizes W) => works_any W h)
  have WY := Lib.hid (fun W hs hp hd => write_yes2 a l P pn pc pb D dn dc db W hs ha hl2 hp hd (by omega) (by omega) hall)
  have hme := optB_len a l.data.toList pb db
  have HSZ := Lib.hid (data_len l)
  have HPL := Lib.hid hP.1
  have HDL := Lib.hid hD.1
  obtain ⟨m, hm⟩ : ∃ m, m = 8 + 2 * l.size + pn + dn := ⟨_, rfl⟩
  have hml : (optB a l.data.toList pb db).length = m := by rw [hme, HSZ.out, HPL.out, HDL.out, hm]
  have HML := Lib.hid hml
  have LN := Lib.hid (fun W => large_no a l P pn pc D dn dc W h1 h2)
  have d3 : decide (4096 < (pn : Int)) = false := decide_eq_false (by omega)
  have d4 : decide ((m : Int) < 6 + 2 * (l.size : Int)) = false := decide_eq_false (by omega)
  have hm8 : 8 ≤ m := by omega
  have hm9 : m ≤ 200000 := by omega
  have hlt6 : 2 * l.size + 8 ≤ m := by omega
  have hrc : readQ (((optB a l.data.toList pb db).set 4 (nb s 0)).set 5 (nb s 1)) = if s ≤ (pb ++ db).length then some (a, l.data.toList, (pb ++ db).take s, (pb ++ db).drop s) else none := by rw [optB_told]; exact readQ_gen a s _ _ ha hall hs
  rw [List.length_append, HPL.out, HDL.out] at hrc
  rw [if_pos hfit] at hrc
  have d5 : decide ((s : Int) ≤ (pn : Int) + (dn : Int)) = true := decide_eq_true (by omega)
  have HTK : Hid (((pb ++ db).take s).length = s) := by show _ = _; rw [List.length_take, List.length_append, HPL.out, HDL.out]; omega
  have hst9 : strOf l.data.toList = l := strOf_eq l
  have HST := Lib.hid hst9
  have e0 : ((nb s 0).toNat : Int) = (s : Int) % 256 := by rw [nb_num]; simp
  have e1 : ((nb s 1).toNat : Int) = (s : Int) / 256 := by rw [nb_num]; simp; omega
  have hq4 : ∃ q, (optB a l.data.toList pb db)[4]? = some q := ⟨_, List.getElem?_eq_getElem (show 4 < (optB a l.data.toList pb db).length by omega)⟩
  have hq5 : ∃ q, ((optB a l.data.toList pb db).set 4 (nb s 0))[5]? = some q := ⟨_, List.getElem?_eq_getElem (show 5 < ((optB a l.data.toList pb db).set 4 (nb s 0)).length by rw [List.length_set]; omega)⟩
  obtain ⟨q4, hq4⟩ := hq4
  obtain ⟨q5, hq5⟩ := hq5
  have d6 : ((l.size : Int) == 0) = false := beq_eq_false_iff_ne.2 (by omega)
  obtain ⟨j, hj⟩ : ∃ j, j = at_ % (2 * l.size) := ⟨_, rfl⟩
  have hj1 : j < 2 * l.size := by rw [hj]; exact Nat.mod_lt _ (by omega)
  have hjm : (at_ : Int) % (2 * (l.size : Int)) = (j : Int) := by rw [hj]; simp
  obtain ⟨k, hkk⟩ : ∃ k, k = 6 + j := ⟨_, rfl⟩
  have hkm : (6 : Int) + (j : Int) = (k : Int) := by omega
  have hk8 : k < m := by omega
  rw [← hj] at hk
  have hqk : ∃ q, (optB a l.data.toList pb db)[k]? = some q := ⟨_, List.getElem?_eq_getElem (show k < (optB a l.data.toList pb db).length by omega)⟩
  obtain ⟨qk, hqk⟩ := hqk
  have d7 : ((k : Int) % 2 == 1) = false := beq_eq_false_iff_ne.2 (by omega)
  have d8 : ((k : Int) % 2 == 0) = true := beq_iff_eq.2 (by omega)
  have d9 : decide (127 < (x.toNat : Int)) = true := decide_eq_true (by omega)
  have hrd : readQ ((optB a l.data.toList pb db).set k x) = none := by rw [hkk]; exact readQ_turned a _ pb db j x hall (by rw [HSZ.out]; exact hj1) (.inr ⟨hk, hx⟩)
  generalize optB a l.data.toList pb db = ob at *
  have RC := Lib.hid (fun A c W hR h1 h2 hs => oread_any A m c ((ob.set 4 (nb s 0)).set 5 (nb s 1)) W hR h1 h2 (by omega) hs)
  have HRC := Lib.hid hrc
  have HE0 := Lib.hid e0
  have HE1 := Lib.hid e1
  have HQ4 := Lib.hid hq4
  have HQ5 := Lib.hid hq5
  have RD := Lib.hid (fun A c W hR h1 h2 hs => oread_any A m c (ob.set k x) W hR h1 h2 (by omega) hs)
  have HQK := Lib.hid hqk
  have HRD := Lib.hid hrd
  generalize (pb ++ db).take s = t1 at *
  generalize (pb ++ db).drop s = t2 at *
  generalize l.data.toList = ll at *
  clear hrc e0 e1 hq4 hq5 hm hml hme hall hst9 hfit hqk hj hkk hk hrd hx
  go_enter Tryd.func8, Tryd.ntmps8
  go_wp2_with fail
  refine calls_named fun w0 hw0 => ?_
  have hbw0 : Below w.heap.size w w0 := by subst hw0; exact ((Below.refl _ _).alloc (Nat.le_refl _) _).alloc (by simp) _
  have hs0 := hbw0.size
  have o0 : w0.heap[w.heap.size + 1]? = some (.cells #[.int .u32 (a : Int), .string l, .slice P pn pc, .slice D dn dc] 25) := by subst hw0; exact heap_alloc2_new w _ _
  have OLT := Lib.hid (heap_lt o0)
  clear hw0
  refine (WY.out w0 (hT.below' hbw0) (hP.below hbw0) (hD.below hbw0)).mono ?_
  rintro e w1 ⟨Aa, na, ca, rfl, oa1, hb1⟩
  obtain rfl : m = na := HML.out.symm.trans oa1.len
  have hbw1 := hbw0.trans (hb1.mono hs0)
  have hs1 := hbw1.size
  have o1 := (hb1.block _ (heap_lt o0)).trans o0
  have hz1 : w0.heap.size ≤ w1.heap.size := hb1.size
  clear hb1 o0
  obtain ⟨a0, a1, a2, a3⟩ := cells4 o1
  have hla1 := heap_lt o1
  go_wp2_with fail
  refine (LN.out w1).mono ?_
  intro e w2 hw2
  obtain ⟨rfl, hb2⟩ := hw2
  have hbw2 := hbw1.trans (hb2.mono hs1)
  have hs2 := hbw2.size
  have o2 := (hb2.block _ (heap_lt o1)).trans o1
  have oa2 := oa1.below hb2 (Nat.le_refl _)
  have hz2 : w1.heap.size ≤ w2.heap.size := hb2.size
  clear hb2 o1 oa1
  clear a0 a1 a2 a3
  obtain ⟨a0, a1, a2, a3⟩ := cells4 o2
  have hla2 := heap_lt o2
  go_wp2_with fail
  refine (copy_any Aa m ca ob w2 oa2.rb (by omega)).mono ?_
  have oa2' := oa2
  rintro e w3 ⟨Ac, nc, cc, rfl, oc3, hb3⟩
  obtain rfl : m = nc := HML.out.symm.trans oc3.len
  have hbw3 := hbw2.trans (hb3.mono hs2)
  have hs3 := hbw3.size
  have o3 := (hb3.block _ (heap_lt o2)).trans o2
  have oa3 := oa2.below hb3 (Nat.le_refl _)
  have hz3 : w2.heap.size ≤ w3.heap.size := hb3.size
  clear hb3 o2 oa2
  clear a0 a1 a2 a3
  have hcc := oc3.cap
  unfold maxLen at hcc
  have FAC := Lib.hid (far_of oa2' oc3 (Nat.le_refl _))
  obtain ⟨g3, rfl, hg3a, hg3b⟩ := oc3.shape (by omega)
  have x4 := oc3.cellAt 4 q4 HQ4.out
  have f4 := oc3.free 4
  have x5 := oc3.stored 4 (nb s 0)
  have x5c := x5.cellAt 5 q5 HQ5.out
  have x5f := x5.free 5
  have hst := x5.stored 5 (nb s 1)
  have hgr := grown_trans (grown_set1 w3 g3 4 (.int .u8 ((nb s 0).toNat : Int))) (grown_set1 _ g3 5 (.int .u8 ((nb s 1).toNat : Int)))
  rw [HE0.out] at x5c x5f
  rw [HE0.out, HE1.out] at hst hgr
  have hlo3 := heap_lt o3
  have hbx := hbw3.grown hgr hs3 (fun g e => by injection e with e; omega)
  have ox := (hgr.block _ (heap_lt o3) (fun e => by injection e with e; have := OLT.out; omega)).trans o3
  have oax := oa3.kept hgr (by
    rcases FAC.out with h | h
    · exact .inl h
    · exact .inr h)
  have HST9 := Lib.hid hst
  have HBX := Lib.hid hbx
  have OX := Lib.hid ox
  have OAX := Lib.hid oax
  clear hst hgr hbx ox oax x5 oc3 oa3 o3
  go_wp2_with fail
  refine calls_named fun w4 hw4 => ?_
  have hbw4 : Below w.heap.size w w4 := hw4 ▸ HBX.out
  have hs4 := hbw4.size
  have o4 : w4.heap[w.heap.size + 1]? = _ := hw4 ▸ OX.out
  have oa4 : OwnB w4 _ Aa m ca ob := hw4 ▸ OAX.out
  have oc4 : OwnB w4 _ (some ⟨g3, 0, none⟩) m cc ((ob.set 4 (nb s 0)).set 5 (nb s 1)) := hw4 ▸ HST9.out
  clear hw4 HBX OX OAX HST9 x4 f4 x5c x5f
  refine (RC.out _ cc w4 oc4.rb hcc.1 (by omega) (hT.below' hbw4)).mono ?_
  intro e w5 hp
  simp only [ReadPost, HRC.out] at hp
  obtain ⟨P5, pn5, pc5, D5, dn5, dc5, rfl, oP5, oD5, _, hb5⟩ := hp
  rw [HST.out]
  obtain rfl : s = pn5 := HTK.out.symm.trans oP5.len
  clear oP5 oD5
  clear oc4
  have hbw5 := hbw4.trans (hb5.mono hs4)
  have hs5 := hbw5.size
  have o5 := (hb5.block _ (heap_lt o4)).trans o4
  have oa5 := oa4.below hb5 (Nat.le_refl _)
  have hz5 : w4.heap.size ≤ w5.heap.size := hb5.size
  clear hb5 o4 oa4
  obtain ⟨a0, a1, a2, a3⟩ := cells4 o5
  have hla5 := heap_lt o5
  go_wp2_with fail
  refine calls_named fun w6 hw6 => ?_
  have hb6 : Below w5.heap.size w5 w6 := by subst hw6; exact (Below.refl _ _).alloc (Nat.le_refl _) _
  clear hw6 a0 a1 a2 a3
  have hbw6 := hbw5.trans (hb6.mono hs5)
  have hs6 := hbw6.size
  have o6 := (hb6.block _ (heap_lt o5)).trans o5
  have oa6 := oa5.below hb6 (Nat.le_refl _)
  have hz6 : w5.heap.size ≤ w6.heap.size := hb6.size
  clear hb6 o5 oa5
  refine (copy_any Aa m ca ob w6 oa6.rb (by omega)).mono ?_
  rintro e w7 ⟨Ad, nd, cd, rfl, od7, hb7⟩
  obtain rfl : m = nd := HML.out.symm.trans od7.len
  have hbw7 := hbw6.trans (hb7.mono hs6)
  have hs7 := hbw7.size
  have o7 := (hb7.block _ (heap_lt o6)).trans o6
  have oa7 := oa6.below hb7 (Nat.le_refl _)
  have hz7 : w6.heap.size ≤ w7.heap.size := hb7.size
  clear hb7 o6 oa6
  have hcd := od7.cap
  unfold maxLen at hcd
  obtain ⟨g7, rfl, hg7a, hg7b⟩ := od7.shape (by omega)
  have x7 := od7.cellAt k qk HQK.out
  have f7 := od7.free k
  have hst := od7.stored k x
  have hgr := grown_set1 w7 g7 k (.int .u8 (x.toNat : Int))
  have hbx := hbw7.grown hgr hs7 (fun g e => by injection e with e; omega)
  have HST9 := Lib.hid hst
  have HBX := Lib.hid hbx
  clear hst hgr hbx od7 oa7 o7
  go_wp2_with fail
  refine calls_named fun w8 hw8 => ?_
  have hbw8 : Below w.heap.size w w8 := hw8 ▸ HBX.out
  have hs8 := hbw8.size
  have od8 : OwnB w8 _ (some ⟨g7, 0, none⟩) m cd (ob.set k x) := hw8 ▸ HST9.out
  clear hw8 HBX HST9 x7 f7
  refine (RD.out _ cd w8 od8.rb hcd.1 (by omega) (hT.below' hbw8)).mono ?_
  intro e w9 hp
  unfold ReadPost at hp
  rw [HRD.out] at hp
  simp only [opZ_eq] at hp
  obtain ⟨rfl, hb9⟩ := hp
  clear od8
  have hbw9 := hbw8.trans (hb9.mono hs8)
  have hs9 := hbw9.size
  have hz9 : w8.heap.size ≤ w9.heap.size := hb9.size
  clear hb9
  go_wp2_with fail
  refine calls_named fun w10 hw10 => ?_
  have hb10 : Below w9.heap.size w9 w10 := by subst hw10; exact (Below.refl _ _).alloc (Nat.le_refl _) _
  clear hw10
  have hbw10 := hbw9.trans (hb10.mono hs9)
  have hs10 := hbw10.size
  have hz10 : w9.heap.size ≤ w10.heap.size := hb10.size
  clear hb10
  refine (WK.out w10 (hT.below' hbw10)).mono ?_
  intro e w11 hw11
  obtain ⟨rfl, hb11⟩ := hw11
  have hbw11 := hbw10.trans (hb11.mono hs10)
  have hs11 := hbw11.size
  have hz11 : w10.heap.size ≤ w11.heap.size := hb11.size
  clear hb11
  go_wp2
  go_ret
  exact ⟨rfl, hbw11⟩
set_option maxHeartbeats 16000000 in
theorem labels_fno (a : Nat) (l : ByteArray) (P : Option Addr) (pn pc : Nat) (pb : List UInt8) (D : Option Addr) (dn dc : Nat) (db : List UInt8) (at_ : Nat) (x : UInt8) (s : Nat) (w : World) (ha : a < 4294967296) (hP : RB w P pn pb) (hD : RB w D dn db) (hat : at_ < 65536) (hs : s < 65536) (hl2 : l.size ≤ 2000000) (hdn2 : dn ≤ 2000000) (hpn2 : pn ≤ 2000000) (hT : Sizes w) (hall : l.data.toList.all letter = true) (h1 : l.size ≤ 16384) (h2 : dn ≤ 65536) (h3 : pn ≤ 4096) (hfit : s ≤ pn + dn) (hz : 0 < l.size) (hk : at_ % (2 * l.size) % 2 = 1) (hx : x.toNat = 0) :
    Calls Tryd.prog 8 #[.agg #[.int .u32 (a : Int), .string l, .slice P pn pc, .slice D dn dc, .int .u16 (at_ : Int), .int .u8 (x.toNat : Int), .int .u16 (s : Int)]] w fun e w' => e = .returned (.bool true) ∧ Below w.heap.size w w' := by
  have WK := Lib.hid (fun W (h : Sizes W) => works_any W h)
  have WY := Lib.hid (fun W hs hp hd => write_yes2 a l P pn pc pb D dn dc db W hs ha hl2 hp hd (by omega) (by omega) hall)
  have hme := optB_len a l.data.toList pb db
  have HSZ := Lib.hid (data_len l)
  have HPL := Lib.hid hP.1
  have HDL := Lib.hid hD.1
  obtain ⟨m, hm⟩ : ∃ m, m = 8 + 2 * l.size + pn + dn := ⟨_, rfl⟩
  have hml : (optB a l.data.toList pb db).length = m := by rw [hme, HSZ.out, HPL.out, HDL.out, hm]
  have HML := Lib.hid hml
  have LN := Lib.hid (fun W => large_no a l P pn pc D dn dc W h1 h2)
  have d3 : decide (4096 < (pn : Int)) = false := decide_eq_false (by omega)
  have d4 : decide ((m : Int) < 6 + 2 * (l.size : Int)) = false := decide_eq_false (by omega)
  have hm8 : 8 ≤ m := by omega
  have hm9 : m ≤ 200000 := by omega
  have hlt6 : 2 * l.size + 8 ≤ m := by omega
  have hrc : readQ (((optB a l.data.toList pb db).set 4 (nb s 0)).set 5 (nb s 1)) = if s ≤ (pb ++ db).length then some (a, l.data.toList, (pb ++ db).take s, (pb ++ db).drop s) else none := by rw [optB_told]; exact readQ_gen a s _ _ ha hall hs
  rw [List.length_append, HPL.out, HDL.out] at hrc
  rw [if_pos hfit] at hrc
  have d5 : decide ((s : Int) ≤ (pn : Int) + (dn : Int)) = true := decide_eq_true (by omega)
  have HTK : Hid (((pb ++ db).take s).length = s) := by show _ = _; rw [List.length_take, List.length_append, HPL.out, HDL.out]; omega
  have hst9 : strOf l.data.toList = l := strOf_eq l
  have HST := Lib.hid hst9
  have e0 : ((nb s 0).toNat : Int) = (s : Int) % 256 := by rw [nb_num]; simp
  have e1 : ((nb s 1).toNat : Int) = (s : Int) / 256 := by rw [nb_num]; simp; omega
  have hq4 : ∃ q, (optB a l.data.toList pb db)[4]? = some q := ⟨_, List.getElem?_eq_getElem (show 4 < (optB a l.data.toList pb db).length by omega)⟩
  have hq5 : ∃ q, ((optB a l.data.toList pb db).set 4 (nb s 0))[5]? = some q := ⟨_, List.getElem?_eq_getElem (show 5 < ((optB a l.data.toList pb db).set 4 (nb s 0)).length by rw [List.length_set]; omega)⟩
  obtain ⟨q4, hq4⟩ := hq4
  obtain ⟨q5, hq5⟩ := hq5
  have d6 : ((l.size : Int) == 0) = false := beq_eq_false_iff_ne.2 (by omega)
  obtain ⟨j, hj⟩ : ∃ j, j = at_ % (2 * l.size) := ⟨_, rfl⟩
  have hj1 : j < 2 * l.size := by rw [hj]; exact Nat.mod_lt _ (by omega)
  have hjm : (at_ : Int) % (2 * (l.size : Int)) = (j : Int) := by rw [hj]; simp
  obtain ⟨k, hkk⟩ : ∃ k, k = 6 + j := ⟨_, rfl⟩
  have hkm : (6 : Int) + (j : Int) = (k : Int) := by omega
  have hk8 : k < m := by omega
  rw [← hj] at hk
  have hqk : ∃ q, (optB a l.data.toList pb db)[k]? = some q := ⟨_, List.getElem?_eq_getElem (show k < (optB a l.data.toList pb db).length by omega)⟩
  obtain ⟨qk, hqk⟩ := hqk
  have d7 : ((k : Int) % 2 == 1) = true := beq_iff_eq.2 (by omega)
  have d8 : ((k : Int) % 2 == 0) = false := beq_eq_false_iff_ne.2 (by omega)
  have d9 : ((x.toNat : Int) != 0) = false := by rw [bne, show ((x.toNat : Int) == 0) = true from beq_iff_eq.2 (by omega)]; rfl
  generalize optB a l.data.toList pb db = ob at *
  have RC := Lib.hid (fun A c W hR h1 h2 hs => oread_any A m c ((ob.set 4 (nb s 0)).set 5 (nb s 1)) W hR h1 h2 (by omega) hs)
  have HRC := Lib.hid hrc
  have HE0 := Lib.hid e0
  have HE1 := Lib.hid e1
  have HQ4 := Lib.hid hq4
  have HQ5 := Lib.hid hq5
  have RD := Lib.hid (fun A c W hR h1 h2 hs => oread_any A m c (ob.set k x) W hR h1 h2 (by omega) hs)
  have HQK := Lib.hid hqk
  generalize (pb ++ db).take s = t1 at *
  generalize (pb ++ db).drop s = t2 at *
  generalize l.data.toList = ll at *
  clear hrc e0 e1 hq4 hq5 hm hml hme hall hst9 hfit hqk hj hkk hk hx
  go_enter Tryd.func8, Tryd.ntmps8
  go_wp2_with fail
  refine calls_named fun w0 hw0 => ?_
  have hbw0 : Below w.heap.size w w0 := by subst hw0; exact ((Below.refl _ _).alloc (Nat.le_refl _) _).alloc (by simp) _
  have hs0 := hbw0.size
  have o0 : w0.heap[w.heap.size + 1]? = some (.cells #[.int .u32 (a : Int), .string l, .slice P pn pc, .slice D dn dc] 25) := by subst hw0; exact heap_alloc2_new w _ _
  have OLT := Lib.hid (heap_lt o0)
  clear hw0
  refine (WY.out w0 (hT.below' hbw0) (hP.below hbw0) (hD.below hbw0)).mono ?_
  rintro e w1 ⟨Aa, na, ca, rfl, oa1, hb1⟩
  obtain rfl : m = na := HML.out.symm.trans oa1.len
  have hbw1 := hbw0.trans (hb1.mono hs0)
  have hs1 := hbw1.size
  have o1 := (hb1.block _ (heap_lt o0)).trans o0
  have hz1 : w0.heap.size ≤ w1.heap.size := hb1.size
  clear hb1 o0
  obtain ⟨a0, a1, a2, a3⟩ := cells4 o1
  have hla1 := heap_lt o1
  go_wp2_with fail
  refine (LN.out w1).mono ?_
  intro e w2 hw2
  obtain ⟨rfl, hb2⟩ := hw2
  have hbw2 := hbw1.trans (hb2.mono hs1)
  have hs2 := hbw2.size
  have o2 := (hb2.block _ (heap_lt o1)).trans o1
  have oa2 := oa1.below hb2 (Nat.le_refl _)
  have hz2 : w1.heap.size ≤ w2.heap.size := hb2.size
  clear hb2 o1 oa1
  clear a0 a1 a2 a3
  obtain ⟨a0, a1, a2, a3⟩ := cells4 o2
  have hla2 := heap_lt o2
  go_wp2_with fail
  refine (copy_any Aa m ca ob w2 oa2.rb (by omega)).mono ?_
  have oa2' := oa2
  rintro e w3 ⟨Ac, nc, cc, rfl, oc3, hb3⟩
  obtain rfl : m = nc := HML.out.symm.trans oc3.len
  have hbw3 := hbw2.trans (hb3.mono hs2)
  have hs3 := hbw3.size
  have o3 := (hb3.block _ (heap_lt o2)).trans o2
  have oa3 := oa2.below hb3 (Nat.le_refl _)
  have hz3 : w2.heap.size ≤ w3.heap.size := hb3.size
  clear hb3 o2 oa2
  clear a0 a1 a2 a3
  have hcc := oc3.cap
  unfold maxLen at hcc
  have FAC := Lib.hid (far_of oa2' oc3 (Nat.le_refl _))
  obtain ⟨g3, rfl, hg3a, hg3b⟩ := oc3.shape (by omega)
  have x4 := oc3.cellAt 4 q4 HQ4.out
  have f4 := oc3.free 4
  have x5 := oc3.stored 4 (nb s 0)
  have x5c := x5.cellAt 5 q5 HQ5.out
  have x5f := x5.free 5
  have hst := x5.stored 5 (nb s 1)
  have hgr := grown_trans (grown_set1 w3 g3 4 (.int .u8 ((nb s 0).toNat : Int))) (grown_set1 _ g3 5 (.int .u8 ((nb s 1).toNat : Int)))
  rw [HE0.out] at x5c x5f
  rw [HE0.out, HE1.out] at hst hgr
  have hlo3 := heap_lt o3
  have hbx := hbw3.grown hgr hs3 (fun g e => by injection e with e; omega)
  have ox := (hgr.block _ (heap_lt o3) (fun e => by injection e with e; have := OLT.out; omega)).trans o3
  have oax := oa3.kept hgr (by
    rcases FAC.out with h | h
    · exact .inl h
    · exact .inr h)
  have HST9 := Lib.hid hst
  have HBX := Lib.hid hbx
  have OX := Lib.hid ox
  have OAX := Lib.hid oax
  clear hst hgr hbx ox oax x5 oc3 oa3 o3
  go_wp2_with fail
  refine calls_named fun w4 hw4 => ?_
  have hbw4 : Below w.heap.size w w4 := hw4 ▸ HBX.out
  have hs4 := hbw4.size
  have o4 : w4.heap[w.heap.size + 1]? = _ := hw4 ▸ OX.out
  have oa4 : OwnB w4 _ Aa m ca ob := hw4 ▸ OAX.out
  have oc4 : OwnB w4 _ (some ⟨g3, 0, none⟩) m cc ((ob.set 4 (nb s 0)).set 5 (nb s 1)) := hw4 ▸ HST9.out
  clear hw4 HBX OX OAX HST9 x4 f4 x5c x5f
  refine (RC.out _ cc w4 oc4.rb hcc.1 (by omega) (hT.below' hbw4)).mono ?_
  intro e w5 hp
  simp only [ReadPost, HRC.out] at hp
  obtain ⟨P5, pn5, pc5, D5, dn5, dc5, rfl, oP5, oD5, _, hb5⟩ := hp
  rw [HST.out]
  obtain rfl : s = pn5 := HTK.out.symm.trans oP5.len
  clear oP5 oD5
  clear oc4
  have hbw5 := hbw4.trans (hb5.mono hs4)
  have hs5 := hbw5.size
  have o5 := (hb5.block _ (heap_lt o4)).trans o4
  have oa5 := oa4.below hb5 (Nat.le_refl _)
  have hz5 : w4.heap.size ≤ w5.heap.size := hb5.size
  clear hb5 o4 oa4
  obtain ⟨a0, a1, a2, a3⟩ := cells4 o5
  have hla5 := heap_lt o5
  go_wp2_with fail
  refine calls_named fun w6 hw6 => ?_
  have hb6 : Below w5.heap.size w5 w6 := by subst hw6; exact (Below.refl _ _).alloc (Nat.le_refl _) _
  clear hw6 a0 a1 a2 a3
  have hbw6 := hbw5.trans (hb6.mono hs5)
  have hs6 := hbw6.size
  have o6 := (hb6.block _ (heap_lt o5)).trans o5
  have oa6 := oa5.below hb6 (Nat.le_refl _)
  have hz6 : w5.heap.size ≤ w6.heap.size := hb6.size
  clear hb6 o5 oa5
  refine (copy_any Aa m ca ob w6 oa6.rb (by omega)).mono ?_
  rintro e w7 ⟨Ad, nd, cd, rfl, od7, hb7⟩
  obtain rfl : m = nd := HML.out.symm.trans od7.len
  have hbw7 := hbw6.trans (hb7.mono hs6)
  have hs7 := hbw7.size
  have o7 := (hb7.block _ (heap_lt o6)).trans o6
  have oa7 := oa6.below hb7 (Nat.le_refl _)
  have hz7 : w6.heap.size ≤ w7.heap.size := hb7.size
  clear hb7 o6 oa6
  have hcd := od7.cap
  unfold maxLen at hcd
  obtain ⟨g7, rfl, hg7a, hg7b⟩ := od7.shape (by omega)
  have x7 := od7.cellAt k qk HQK.out
  have f7 := od7.free k
  have hst := od7.stored k x
  have hgr := grown_set1 w7 g7 k (.int .u8 (x.toNat : Int))
  have hbx := hbw7.grown hgr hs7 (fun g e => by injection e with e; omega)
  have HST9 := Lib.hid hst
  have HBX := Lib.hid hbx
  clear hst hgr hbx od7 oa7 o7
  go_wp2_with fail
  refine calls_named fun w8 hw8 => ?_
  have hbw8 : Below w.heap.size w w8 := hw8 ▸ HBX.out
  have hs8 := hbw8.size
  have od8 : OwnB w8 _ (some ⟨g7, 0, none⟩) m cd (ob.set k x) := hw8 ▸ HST9.out
  clear hw8 HBX HST9 x7 f7
  refine (RD.out _ cd w8 od8.rb hcd.1 (by omega) (hT.below' hbw8)).mono ?_
  intro e w9 hp
  unfold ReadPost at hp
  clear od8
  cases hrq : readQ (ob.set k x) with
  | none =>
    rw [hrq] at hp
    simp only [opZ_eq] at hp
    obtain ⟨rfl, hb9⟩ := hp
    clear hrq
    have hbw9 := hbw8.trans (hb9.mono hs8)
    have hs9 := hbw9.size
    have hz9 : w8.heap.size ≤ w9.heap.size := hb9.size
    clear hb9
    go_wp2_with fail
    refine calls_named fun w10 hw10 => ?_
    have hb10 : Below w9.heap.size w9 w10 := by subst hw10; exact (Below.refl _ _).alloc (Nat.le_refl _) _
    clear hw10
    have hbw10 := hbw9.trans (hb10.mono hs9)
    have hs10 := hbw10.size
    have hz10 : w9.heap.size ≤ w10.heap.size := hb10.size
    clear hb10
    refine (WK.out w10 (hT.below' hbw10)).mono ?_
    intro e w11 hw11
    obtain ⟨rfl, hb11⟩ := hw11
    have hbw11 := hbw10.trans (hb11.mono hs10)
    have hs11 := hbw11.size
    have hz11 : w10.heap.size ≤ w11.heap.size := hb11.size
    clear hb11
    go_wp2
    go_ret
    exact ⟨rfl, hbw11⟩
  | some z =>
    rw [hrq] at hp
    simp only at hp
    obtain ⟨P9, pn9, pc9, D9, dn9, dc9, rfl, _, _, _, hb9⟩ := hp
    clear hrq
    have hbw9 := hbw8.trans (hb9.mono hs8)
    have hs9 := hbw9.size
    have hz9 : w8.heap.size ≤ w9.heap.size := hb9.size
    clear hb9
    go_wp2_with fail
    refine calls_named fun w10 hw10 => ?_
    have hb10 : Below w9.heap.size w9 w10 := by subst hw10; exact (Below.refl _ _).alloc (Nat.le_refl _) _
    clear hw10
    have hbw10 := hbw9.trans (hb10.mono hs9)
    have hs10 := hbw10.size
    have hz10 : w9.heap.size ≤ w10.heap.size := hb10.size
    clear hb10
    refine (WK.out w10 (hT.below' hbw10)).mono ?_
    intro e w11 hw11
    obtain ⟨rfl, hb11⟩ := hw11
    have hbw11 := hbw10.trans (hb11.mono hs10)
    have hs11 := hbw11.size
    have hz11 : w10.heap.size ≤ w11.heap.size := hb11.size
    clear hb11
    go_wp2
    go_ret
    exact ⟨rfl, hbw11⟩
set_option maxHeartbeats 16000000 in
theorem labels_fne (a : Nat) (l : ByteArray) (P : Option Addr) (pn pc : Nat) (pb : List UInt8) (D : Option Addr) (dn dc : Nat) (db : List UInt8) (at_ : Nat) (x : UInt8) (s : Nat) (w : World) (ha : a < 4294967296) (hP : RB w P pn pb) (hD : RB w D dn db) (hat : at_ < 65536) (hs : s < 65536) (hl2 : l.size ≤ 2000000) (hdn2 : dn ≤ 2000000) (hpn2 : pn ≤ 2000000) (hT : Sizes w) (hall : l.data.toList.all letter = true) (h1 : l.size ≤ 16384) (h2 : dn ≤ 65536) (h3 : pn ≤ 4096) (hfit : s ≤ pn + dn) (hz : 0 < l.size) (hk : at_ % (2 * l.size) % 2 = 0) (hx : x.toNat ≤ 127) :
    Calls Tryd.prog 8 #[.agg #[.int .u32 (a : Int), .string l, .slice P pn pc, .slice D dn dc, .int .u16 (at_ : Int), .int .u8 (x.toNat : Int), .int .u16 (s : Int)]] w fun e w' => e = .returned (.bool true) ∧ Below w.heap.size w w' := by
  have WK := Lib.hid (fun W (h : Sizes W) => works_any W h)
  have WY := Lib.hid (fun W hs hp hd => write_yes2 a l P pn pc pb D dn dc db W hs ha hl2 hp hd (by omega) (by omega) hall)
  have hme := optB_len a l.data.toList pb db
  have HSZ := Lib.hid (data_len l)
  have HPL := Lib.hid hP.1
  have HDL := Lib.hid hD.1
  obtain ⟨m, hm⟩ : ∃ m, m = 8 + 2 * l.size + pn + dn := ⟨_, rfl⟩
  have hml : (optB a l.data.toList pb db).length = m := by rw [hme, HSZ.out, HPL.out, HDL.out, hm]
  have HML := Lib.hid hml
  have LN := Lib.hid (fun W => large_no a l P pn pc D dn dc W h1 h2)
  have d3 : decide (4096 < (pn : Int)) = false := decide_eq_false (by omega)
  have d4 : decide ((m : Int) < 6 + 2 * (l.size : Int)) = false := decide_eq_false (by omega)
  have hm8 : 8 ≤ m := by omega
  have hm9 : m ≤ 200000 := by omega
  have hlt6 : 2 * l.size + 8 ≤ m := by omega
  have hrc : readQ (((optB a l.data.toList pb db).set 4 (nb s 0)).set 5 (nb s 1)) = if s ≤ (pb ++ db).length then some (a, l.data.toList, (pb ++ db).take s, (pb ++ db).drop s) else none := by rw [optB_told]; exact readQ_gen a s _ _ ha hall hs
  rw [List.length_append, HPL.out, HDL.out] at hrc
  rw [if_pos hfit] at hrc
  have d5 : decide ((s : Int) ≤ (pn : Int) + (dn : Int)) = true := decide_eq_true (by omega)
  have HTK : Hid (((pb ++ db).take s).length = s) := by show _ = _; rw [List.length_take, List.length_append, HPL.out, HDL.out]; omega
  have hst9 : strOf l.data.toList = l := strOf_eq l
  have HST := Lib.hid hst9
  have e0 : ((nb s 0).toNat : Int) = (s : Int) % 256 := by rw [nb_num]; simp
  have e1 : ((nb s 1).toNat : Int) = (s : Int) / 256 := by rw [nb_num]; simp; omega
  have hq4 : ∃ q, (optB a l.data.toList pb db)[4]? = some q := ⟨_, List.getElem?_eq_getElem (show 4 < (optB a l.data.toList pb db).length by omega)⟩
  have hq5 : ∃ q, ((optB a l.data.toList pb db).set 4 (nb s 0))[5]? = some q := ⟨_, List.getElem?_eq_getElem (show 5 < ((optB a l.data.toList pb db).set 4 (nb s 0)).length by rw [List.length_set]; omega)⟩
  obtain ⟨q4, hq4⟩ := hq4
  obtain ⟨q5, hq5⟩ := hq5
  have d6 : ((l.size : Int) == 0) = false := beq_eq_false_iff_ne.2 (by omega)
  obtain ⟨j, hj⟩ : ∃ j, j = at_ % (2 * l.size) := ⟨_, rfl⟩
  have hj1 : j < 2 * l.size := by rw [hj]; exact Nat.mod_lt _ (by omega)
  have hjm : (at_ : Int) % (2 * (l.size : Int)) = (j : Int) := by rw [hj]; simp
  obtain ⟨k, hkk⟩ : ∃ k, k = 6 + j := ⟨_, rfl⟩
  have hkm : (6 : Int) + (j : Int) = (k : Int) := by omega
  have hk8 : k < m := by omega
  rw [← hj] at hk
  have hqk : ∃ q, (optB a l.data.toList pb db)[k]? = some q := ⟨_, List.getElem?_eq_getElem (show k < (optB a l.data.toList pb db).length by omega)⟩
  obtain ⟨qk, hqk⟩ := hqk
  have d7 : ((k : Int) % 2 == 1) = false := beq_eq_false_iff_ne.2 (by omega)
  have d8 : ((k : Int) % 2 == 0) = true := beq_iff_eq.2 (by omega)
  have d9 : decide (127 < (x.toNat : Int)) = false := decide_eq_false (by omega)
  generalize optB a l.data.toList pb db = ob at *
  have RC := Lib.hid (fun A c W hR h1 h2 hs => oread_any A m c ((ob.set 4 (nb s 0)).set 5 (nb s 1)) W hR h1 h2 (by omega) hs)
  have HRC := Lib.hid hrc
  have HE0 := Lib.hid e0
  have HE1 := Lib.hid e1
  have HQ4 := Lib.hid hq4
  have HQ5 := Lib.hid hq5
  have RD := Lib.hid (fun A c W hR h1 h2 hs => oread_any A m c (ob.set k x) W hR h1 h2 (by omega) hs)
  have HQK := Lib.hid hqk
  generalize (pb ++ db).take s = t1 at *
  generalize (pb ++ db).drop s = t2 at *
  generalize l.data.toList = ll at *
  clear hrc e0 e1 hq4 hq5 hm hml hme hall hst9 hfit hqk hj hkk hk hx
  go_enter Tryd.func8, Tryd.ntmps8
  go_wp2_with fail
  refine calls_named fun w0 hw0 => ?_
  have hbw0 : Below w.heap.size w w0 := by subst hw0; exact ((Below.refl _ _).alloc (Nat.le_refl _) _).alloc (by simp) _
  have hs0 := hbw0.size
  have o0 : w0.heap[w.heap.size + 1]? = some (.cells #[.int .u32 (a : Int), .string l, .slice P pn pc, .slice D dn dc] 25) := by subst hw0; exact heap_alloc2_new w _ _
  have OLT := Lib.hid (heap_lt o0)
  clear hw0
  refine (WY.out w0 (hT.below' hbw0) (hP.below hbw0) (hD.below hbw0)).mono ?_
  rintro e w1 ⟨Aa, na, ca, rfl, oa1, hb1⟩
  obtain rfl : m = na := HML.out.symm.trans oa1.len
  have hbw1 := hbw0.trans (hb1.mono hs0)
  have hs1 := hbw1.size
  have o1 := (hb1.block _ (heap_lt o0)).trans o0
  have hz1 : w0.heap.size ≤ w1.heap.size := hb1.size
  clear hb1 o0
  obtain ⟨a0, a1, a2, a3⟩ := cells4 o1
  have hla1 := heap_lt o1
  go_wp2_with fail
  refine (LN.out w1).mono ?_
  intro e w2 hw2
  obtain ⟨rfl, hb2⟩ := hw2
  have hbw2 := hbw1.trans (hb2.mono hs1)
  have hs2 := hbw2.size
  have o2 := (hb2.block _ (heap_lt o1)).trans o1
  have oa2 := oa1.below hb2 (Nat.le_refl _)
  have hz2 : w1.heap.size ≤ w2.heap.size := hb2.size
  clear hb2 o1 oa1
  clear a0 a1 a2 a3
  obtain ⟨a0, a1, a2, a3⟩ := cells4 o2
  have hla2 := heap_lt o2
  go_wp2_with fail
  refine (copy_any Aa m ca ob w2 oa2.rb (by omega)).mono ?_
  have oa2' := oa2
  rintro e w3 ⟨Ac, nc, cc, rfl, oc3, hb3⟩
  obtain rfl : m = nc := HML.out.symm.trans oc3.len
  have hbw3 := hbw2.trans (hb3.mono hs2)
  have hs3 := hbw3.size
  have o3 := (hb3.block _ (heap_lt o2)).trans o2
  have oa3 := oa2.below hb3 (Nat.le_refl _)
  have hz3 : w2.heap.size ≤ w3.heap.size := hb3.size
  clear hb3 o2 oa2
  clear a0 a1 a2 a3
  have hcc := oc3.cap
  unfold maxLen at hcc
  have FAC := Lib.hid (far_of oa2' oc3 (Nat.le_refl _))
  obtain ⟨g3, rfl, hg3a, hg3b⟩ := oc3.shape (by omega)
  have x4 := oc3.cellAt 4 q4 HQ4.out
  have f4 := oc3.free 4
  have x5 := oc3.stored 4 (nb s 0)
  have x5c := x5.cellAt 5 q5 HQ5.out
  have x5f := x5.free 5
  have hst := x5.stored 5 (nb s 1)
  have hgr := grown_trans (grown_set1 w3 g3 4 (.int .u8 ((nb s 0).toNat : Int))) (grown_set1 _ g3 5 (.int .u8 ((nb s 1).toNat : Int)))
  rw [HE0.out] at x5c x5f
  rw [HE0.out, HE1.out] at hst hgr
  have hlo3 := heap_lt o3
  have hbx := hbw3.grown hgr hs3 (fun g e => by injection e with e; omega)
  have ox := (hgr.block _ (heap_lt o3) (fun e => by injection e with e; have := OLT.out; omega)).trans o3
  have oax := oa3.kept hgr (by
    rcases FAC.out with h | h
    · exact .inl h
    · exact .inr h)
  have HST9 := Lib.hid hst
  have HBX := Lib.hid hbx
  have OX := Lib.hid ox
  have OAX := Lib.hid oax
  clear hst hgr hbx ox oax x5 oc3 oa3 o3
  go_wp2_with fail
  refine calls_named fun w4 hw4 => ?_
  have hbw4 : Below w.heap.size w w4 := hw4 ▸ HBX.out
  have hs4 := hbw4.size
  have o4 : w4.heap[w.heap.size + 1]? = _ := hw4 ▸ OX.out
  have oa4 : OwnB w4 _ Aa m ca ob := hw4 ▸ OAX.out
  have oc4 : OwnB w4 _ (some ⟨g3, 0, none⟩) m cc ((ob.set 4 (nb s 0)).set 5 (nb s 1)) := hw4 ▸ HST9.out
  clear hw4 HBX OX OAX HST9 x4 f4 x5c x5f
  refine (RC.out _ cc w4 oc4.rb hcc.1 (by omega) (hT.below' hbw4)).mono ?_
  intro e w5 hp
  simp only [ReadPost, HRC.out] at hp
  obtain ⟨P5, pn5, pc5, D5, dn5, dc5, rfl, oP5, oD5, _, hb5⟩ := hp
  rw [HST.out]
  obtain rfl : s = pn5 := HTK.out.symm.trans oP5.len
  clear oP5 oD5
  clear oc4
  have hbw5 := hbw4.trans (hb5.mono hs4)
  have hs5 := hbw5.size
  have o5 := (hb5.block _ (heap_lt o4)).trans o4
  have oa5 := oa4.below hb5 (Nat.le_refl _)
  have hz5 : w4.heap.size ≤ w5.heap.size := hb5.size
  clear hb5 o4 oa4
  obtain ⟨a0, a1, a2, a3⟩ := cells4 o5
  have hla5 := heap_lt o5
  go_wp2_with fail
  refine calls_named fun w6 hw6 => ?_
  have hb6 : Below w5.heap.size w5 w6 := by subst hw6; exact (Below.refl _ _).alloc (Nat.le_refl _) _
  clear hw6 a0 a1 a2 a3
  have hbw6 := hbw5.trans (hb6.mono hs5)
  have hs6 := hbw6.size
  have o6 := (hb6.block _ (heap_lt o5)).trans o5
  have oa6 := oa5.below hb6 (Nat.le_refl _)
  have hz6 : w5.heap.size ≤ w6.heap.size := hb6.size
  clear hb6 o5 oa5
  refine (copy_any Aa m ca ob w6 oa6.rb (by omega)).mono ?_
  rintro e w7 ⟨Ad, nd, cd, rfl, od7, hb7⟩
  obtain rfl : m = nd := HML.out.symm.trans od7.len
  have hbw7 := hbw6.trans (hb7.mono hs6)
  have hs7 := hbw7.size
  have o7 := (hb7.block _ (heap_lt o6)).trans o6
  have oa7 := oa6.below hb7 (Nat.le_refl _)
  have hz7 : w6.heap.size ≤ w7.heap.size := hb7.size
  clear hb7 o6 oa6
  have hcd := od7.cap
  unfold maxLen at hcd
  obtain ⟨g7, rfl, hg7a, hg7b⟩ := od7.shape (by omega)
  have x7 := od7.cellAt k qk HQK.out
  have f7 := od7.free k
  have hst := od7.stored k x
  have hgr := grown_set1 w7 g7 k (.int .u8 (x.toNat : Int))
  have hbx := hbw7.grown hgr hs7 (fun g e => by injection e with e; omega)
  have HST9 := Lib.hid hst
  have HBX := Lib.hid hbx
  clear hst hgr hbx od7 oa7 o7
  go_wp2_with fail
  refine calls_named fun w8 hw8 => ?_
  have hbw8 : Below w.heap.size w w8 := hw8 ▸ HBX.out
  have hs8 := hbw8.size
  have od8 : OwnB w8 _ (some ⟨g7, 0, none⟩) m cd (ob.set k x) := hw8 ▸ HST9.out
  clear hw8 HBX HST9 x7 f7
  refine (RD.out _ cd w8 od8.rb hcd.1 (by omega) (hT.below' hbw8)).mono ?_
  intro e w9 hp
  unfold ReadPost at hp
  clear od8
  cases hrq : readQ (ob.set k x) with
  | none =>
    rw [hrq] at hp
    simp only [opZ_eq] at hp
    obtain ⟨rfl, hb9⟩ := hp
    clear hrq
    have hbw9 := hbw8.trans (hb9.mono hs8)
    have hs9 := hbw9.size
    have hz9 : w8.heap.size ≤ w9.heap.size := hb9.size
    clear hb9
    go_wp2_with fail
    refine calls_named fun w10 hw10 => ?_
    have hb10 : Below w9.heap.size w9 w10 := by subst hw10; exact (Below.refl _ _).alloc (Nat.le_refl _) _
    clear hw10
    have hbw10 := hbw9.trans (hb10.mono hs9)
    have hs10 := hbw10.size
    have hz10 : w9.heap.size ≤ w10.heap.size := hb10.size
    clear hb10
    refine (WK.out w10 (hT.below' hbw10)).mono ?_
    intro e w11 hw11
    obtain ⟨rfl, hb11⟩ := hw11
    have hbw11 := hbw10.trans (hb11.mono hs10)
    have hs11 := hbw11.size
    have hz11 : w10.heap.size ≤ w11.heap.size := hb11.size
    clear hb11
    go_wp2
    go_ret
    exact ⟨rfl, hbw11⟩
  | some z =>
    rw [hrq] at hp
    simp only at hp
    obtain ⟨P9, pn9, pc9, D9, dn9, dc9, rfl, _, _, _, hb9⟩ := hp
    clear hrq
    have hbw9 := hbw8.trans (hb9.mono hs8)
    have hs9 := hbw9.size
    have hz9 : w8.heap.size ≤ w9.heap.size := hb9.size
    clear hb9
    go_wp2_with fail
    refine calls_named fun w10 hw10 => ?_
    have hb10 : Below w9.heap.size w9 w10 := by subst hw10; exact (Below.refl _ _).alloc (Nat.le_refl _) _
    clear hw10
    have hbw10 := hbw9.trans (hb10.mono hs9)
    have hs10 := hbw10.size
    have hz10 : w9.heap.size ≤ w10.heap.size := hb10.size
    clear hb10
    refine (WK.out w10 (hT.below' hbw10)).mono ?_
    intro e w11 hw11
    obtain ⟨rfl, hb11⟩ := hw11
    have hbw11 := hbw10.trans (hb11.mono hs10)
    have hs11 := hbw11.size
    have hz11 : w10.heap.size ≤ w11.heap.size := hb11.size
    clear hb11
    go_wp2
    go_ret
    exact ⟨rfl, hbw11⟩
end Go.Proofs.YtokklcfdfjgbjaaDoor
