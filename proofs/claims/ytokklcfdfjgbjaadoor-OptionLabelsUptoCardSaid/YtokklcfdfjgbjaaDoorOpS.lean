/-
  option: the statement on labels, where nothing is turned.
-/
import Derived.Test.YtokklcfdfjgbjaaDoorOpR
namespace Go.Proofs.YtokklcfdfjgbjaaDoor
open Go.RowKit Go
set_option linter.unusedVariables false
set_option maxRecDepth 100000
set_option maxHeartbeats 6400000 in
theorem labels_e1 (a : Nat) (l : ByteArray) (P : Option Addr) (pn pc : Nat) (pb : List UInt8) (D : Option Addr) (dn dc : Nat) (db : List UInt8) (at_ : Nat) (x : UInt8) (s : Nat) (w : World) (ha : a < 4294967296) (hP : RB w P pn pb) (hD : RB w D dn db) (hat : at_ < 65536) (hs : s < 65536) (hl2 : l.size ≤ 2000000) (hdn2 : dn ≤ 2000000) (hpn2 : pn ≤ 2000000) (hT : Sizes w) (hno : l.data.toList.all letter = false ∨ 65535 < pn) (hbig : 16384 < l.size ∨ 65536 < dn) :
    Calls Tryd.prog 8 #[.agg #[.int .u32 (a : Int), .string l, .slice P pn pc, .slice D dn dc, .int .u16 (at_ : Int), .int .u8 (x.toNat : Int), .int .u16 (s : Int)]] w fun e w' => e = .returned (.bool true) ∧ Below w.heap.size w w' := by
  have WK := Lib.hid (fun W (h : Sizes W) => works_any W h)
  have WN := Lib.hid (fun W => write_no2 a l P pn pc D dn dc W hl2 (by omega) hno)
  have LN := Lib.hid (fun W => large_yes a l P pn pc D dn dc W hbig (by omega) (by omega))
  clear hno hbig
  go_enter Tryd.func8, Tryd.ntmps8
  go_wp2_with fail
  refine calls_named fun w0 hw0 => ?_
  have hbw0 : Below w.heap.size w w0 := by subst hw0; exact ((Below.refl _ _).alloc (Nat.le_refl _) _).alloc (by simp) _
  have hs0 := hbw0.size
  have o0 : w0.heap[w.heap.size + 1]? = some (.cells #[.int .u32 (a : Int), .string l, .slice P pn pc, .slice D dn dc] 25) := by subst hw0; exact heap_alloc2_new w _ _
  clear hw0
  refine (WN.out w0).mono ?_
  intro e w1 hw1
  obtain ⟨rfl, hb1⟩ := hw1
  have hbw1 := hbw0.trans (hb1.mono hs0)
  have hs1 := hbw1.size
  have o1 := (hb1.block _ (heap_lt o0)).trans o0
  have hz1 : w0.heap.size ≤ w1.heap.size := hb1.size
  clear hb1 o0
  obtain ⟨a0, a1, a2, a3⟩ := cells4 o1
  have hla1 := heap_lt o1
  go_wp2_with fail
  refine (LN.out w1).mono ?_
  intro e w2 hw2
  obtain ⟨rfl, hb2⟩ := hw2
  have hbw2 := hbw1.trans (hb2.mono hs1)
  have hs2 := hbw2.size
  have o2 := (hb2.block _ (heap_lt o1)).trans o1
  have hz2 : w1.heap.size ≤ w2.heap.size := hb2.size
  clear hb2 o1
  go_wp2_with fail
  refine (WK.out w2 (hT.below' hbw2)).mono ?_
  intro e w3 hw3
  obtain ⟨rfl, hb3⟩ := hw3
  have hbw3 := hbw2.trans (hb3.mono hs2)
  have hs3 := hbw3.size
  have o3 := (hb3.block _ (heap_lt o2)).trans o2
  have hz3 : w2.heap.size ≤ w3.heap.size := hb3.size
  clear hb3 o2
  go_wp2
  go_ret
  exact ⟨rfl, hbw3⟩
set_option maxHeartbeats 6400000 in
theorem labels_e2 (a : Nat) (l : ByteArray) (P : Option Addr) (pn pc : Nat) (pb : List UInt8) (D : Option Addr) (dn dc : Nat) (db : List UInt8) (at_ : Nat) (x : UInt8) (s : Nat) (w : World) (ha : a < 4294967296) (hP : RB w P pn pb) (hD : RB w D dn db) (hat : at_ < 65536) (hs : s < 65536) (hl2 : l.size ≤ 2000000) (hdn2 : dn ≤ 2000000) (hpn2 : pn ≤ 2000000) (hT : Sizes w) (hno : l.data.toList.all letter = false ∨ 65535 < pn) (h1 : l.size ≤ 16384) (h2 : dn ≤ 65536) (h3 : 4096 < pn) :
    Calls Tryd.prog 8 #[.agg #[.int .u32 (a : Int), .string l, .slice P pn pc, .slice D dn dc, .int .u16 (at_ : Int), .int .u8 (x.toNat : Int), .int .u16 (s : Int)]] w fun e w' => e = .returned (.bool true) ∧ Below w.heap.size w w' := by
  have WK := Lib.hid (fun W (h : Sizes W) => works_any W h)
  have WN := Lib.hid (fun W => write_no2 a l P pn pc D dn dc W hl2 (by omega) hno)
  have LN := Lib.hid (fun W => large_no a l P pn pc D dn dc W h1 h2)
  have d3 : decide (4096 < (pn : Int)) = true := decide_eq_true (by omega)
  clear hno
  go_enter Tryd.func8, Tryd.ntmps8
  go_wp2_with fail
  refine calls_named fun w0 hw0 => ?_
  have hbw0 : Below w.heap.size w w0 := by subst hw0; exact ((Below.refl _ _).alloc (Nat.le_refl _) _).alloc (by simp) _
  have hs0 := hbw0.size
  have o0 : w0.heap[w.heap.size + 1]? = some (.cells #[.int .u32 (a : Int), .string l, .slice P pn pc, .slice D dn dc] 25) := by subst hw0; exact heap_alloc2_new w _ _
  clear hw0
  refine (WN.out w0).mono ?_
  intro e w1 hw1
  obtain ⟨rfl, hb1⟩ := hw1
  have hbw1 := hbw0.trans (hb1.mono hs0)
  have hs1 := hbw1.size
  have o1 := (hb1.block _ (heap_lt o0)).trans o0
  have hz1 : w0.heap.size ≤ w1.heap.size := hb1.size
  clear hb1 o0
  obtain ⟨a0, a1, a2, a3⟩ := cells4 o1
  have hla1 := heap_lt o1
  go_wp2_with fail
  refine (LN.out w1).mono ?_
  intro e w2 hw2
  obtain ⟨rfl, hb2⟩ := hw2
  have hbw2 := hbw1.trans (hb2.mono hs1)
  have hs2 := hbw2.size
  have o2 := (hb2.block _ (heap_lt o1)).trans o1
  have hz2 : w1.heap.size ≤ w2.heap.size := hb2.size
  clear hb2 o1
  clear a0 a1 a2 a3
  obtain ⟨a0, a1, a2, a3⟩ := cells4 o2
  have hla2 := heap_lt o2
  go_wp2_with fail
  refine (WK.out w2 (hT.below' hbw2)).mono ?_
  intro e w3 hw3
  obtain ⟨rfl, hb3⟩ := hw3
  have hbw3 := hbw2.trans (hb3.mono hs2)
  have hs3 := hbw3.size
  have o3 := (hb3.block _ (heap_lt o2)).trans o2
  have hz3 : w2.heap.size ≤ w3.heap.size := hb3.size
  clear hb3 o2
  go_wp2
  go_ret
  exact ⟨rfl, hbw3⟩
set_option maxHeartbeats 6400000 in
theorem labels_e3 (a : Nat) (l : ByteArray) (P : Option Addr) (pn pc : Nat) (pb : List UInt8) (D : Option Addr) (dn dc : Nat) (db : List UInt8) (at_ : Nat) (x : UInt8) (s : Nat) (w : World) (ha : a < 4294967296) (hP : RB w P pn pb) (hD : RB w D dn db) (hat : at_ < 65536) (hs : s < 65536) (hl2 : l.size ≤ 2000000) (hdn2 : dn ≤ 2000000) (hpn2 : pn ≤ 2000000) (hT : Sizes w) (hno : l.data.toList.all letter = false ∨ 65535 < pn) (h1 : l.size ≤ 16384) (h2 : dn ≤ 65536) (h3 : pn ≤ 4096) :
    Calls Tryd.prog 8 #[.agg #[.int .u32 (a : Int), .string l, .slice P pn pc, .slice D dn dc, .int .u16 (at_ : Int), .int .u8 (x.toNat : Int), .int .u16 (s : Int)]] w fun e w' => e = .returned (.bool true) ∧ Below w.heap.size w w' := by
  have WK := Lib.hid (fun W (h : Sizes W) => works_any W h)
  have WN := Lib.hid (fun W => write_no2 a l P pn pc D dn dc W hl2 (by omega) hno)
  have LN := Lib.hid (fun W => large_no a l P pn pc D dn dc W h1 h2)
  have d3 : decide (4096 < (pn : Int)) = false := decide_eq_false (by omega)
  clear hno
  go_enter Tryd.func8, Tryd.ntmps8
  go_wp2_with fail
  refine calls_named fun w0 hw0 => ?_
  have hbw0 : Below w.heap.size w w0 := by subst hw0; exact ((Below.refl _ _).alloc (Nat.le_refl _) _).alloc (by simp) _
  have hs0 := hbw0.size
  have o0 : w0.heap[w.heap.size + 1]? = some (.cells #[.int .u32 (a : Int), .string l, .slice P pn pc, .slice D dn dc] 25) := by subst hw0; exact heap_alloc2_new w _ _
  clear hw0
  refine (WN.out w0).mono ?_
  intro e w1 hw1
  obtain ⟨rfl, hb1⟩ := hw1
  have hbw1 := hbw0.trans (hb1.mono hs0)
  have hs1 := hbw1.size
  have o1 := (hb1.block _ (heap_lt o0)).trans o0
  have hz1 : w0.heap.size ≤ w1.heap.size := hb1.size
  clear hb1 o0
  obtain ⟨a0, a1, a2, a3⟩ := cells4 o1
  have hla1 := heap_lt o1
  go_wp2_with fail
  refine (LN.out w1).mono ?_
  intro e w2 hw2
  obtain ⟨rfl, hb2⟩ := hw2
  have hbw2 := hbw1.trans (hb2.mono hs1)
  have hs2 := hbw2.size
  have o2 := (hb2.block _ (heap_lt o1)).trans o1
  have hz2 : w1.heap.size ≤ w2.heap.size := hb2.size
  clear hb2 o1
  clear a0 a1 a2 a3
  obtain ⟨a0, a1, a2, a3⟩ := cells4 o2
  have hla2 := heap_lt o2
  go_wp2_with fail
  refine (WK.out w2 (hT.below' hbw2)).mono ?_
  intro e w3 hw3
  obtain ⟨rfl, hb3⟩ := hw3
  have hbw3 := hbw2.trans (hb3.mono hs2)
  have hs3 := hbw3.size
  have o3 := (hb3.block _ (heap_lt o2)).trans o2
  have hz3 : w2.heap.size ≤ w3.heap.size := hb3.size
  clear hb3 o2
  go_wp2
  go_ret
  exact ⟨rfl, hbw3⟩
set_option maxHeartbeats 6400000 in
theorem labels_e4 (a : Nat) (l : ByteArray) (P : Option Addr) (pn pc : Nat) (pb : List UInt8) (D : Option Addr) (dn dc : Nat) (db : List UInt8) (at_ : Nat) (x : UInt8) (s : Nat) (w : World) (ha : a < 4294967296) (hP : RB w P pn pb) (hD : RB w D dn db) (hat : at_ < 65536) (hs : s < 65536) (hl2 : l.size ≤ 2000000) (hdn2 : dn ≤ 2000000) (hpn2 : pn ≤ 2000000) (hT : Sizes w) (hpn9 : pn ≤ 65535) (hall : l.data.toList.all letter = true) (hbig : 16384 < l.size ∨ 65536 < dn) :
    Calls Tryd.prog 8 #[.agg #[.int .u32 (a : Int), .string l, .slice P pn pc, .slice D dn dc, .int .u16 (at_ : Int), .int .u8 (x.toNat : Int), .int .u16 (s : Int)]] w fun e w' => e = .returned (.bool true) ∧ Below w.heap.size w w' := by
  have WK := Lib.hid (fun W (h : Sizes W) => works_any W h)
  have WY := Lib.hid (fun W hs hp hd => write_yes2 a l P pn pc pb D dn dc db W hs ha hl2 hp hd (by omega) (by omega) hall)
  have hme := optB_len a l.data.toList pb db
  have HSZ := Lib.hid (data_len l)
  have HPL := Lib.hid hP.1
  have HDL := Lib.hid hD.1
  obtain ⟨m, hm⟩ : ∃ m, m = 8 + 2 * l.size + pn + dn := ⟨_, rfl⟩
  have hml : (optB a l.data.toList pb db).length = m := by rw [hme, HSZ.out, HPL.out, HDL.out, hm]
  have HML := Lib.hid hml
  have LN := Lib.hid (fun W => large_yes a l P pn pc D dn dc W hbig (by omega) (by omega))
  generalize optB a l.data.toList pb db = ob at *
  clear hm hml hme
  clear hall hbig
  go_enter Tryd.func8, Tryd.ntmps8
  go_wp2_with fail
  refine calls_named fun w0 hw0 => ?_
  have hbw0 : Below w.heap.size w w0 := by subst hw0; exact ((Below.refl _ _).alloc (Nat.le_refl _) _).alloc (by simp) _
  have hs0 := hbw0.size
  have o0 : w0.heap[w.heap.size + 1]? = some (.cells #[.int .u32 (a : Int), .string l, .slice P pn pc, .slice D dn dc] 25) := by subst hw0; exact heap_alloc2_new w _ _
  clear hw0
  refine (WY.out w0 (hT.below' hbw0) (hP.below hbw0) (hD.below hbw0)).mono ?_
  rintro e w1 ⟨Aa, na, ca, rfl, oa1, hb1⟩
  obtain rfl : m = na := HML.out.symm.trans oa1.len
  have hbw1 := hbw0.trans (hb1.mono hs0)
  have hs1 := hbw1.size
  have o1 := (hb1.block _ (heap_lt o0)).trans o0
  have hz1 : w0.heap.size ≤ w1.heap.size := hb1.size
  clear hb1 o0
  clear oa1
  obtain ⟨a0, a1, a2, a3⟩ := cells4 o1
  have hla1 := heap_lt o1
  go_wp2_with fail
  refine (LN.out w1).mono ?_
  intro e w2 hw2
  obtain ⟨rfl, hb2⟩ := hw2
  have hbw2 := hbw1.trans (hb2.mono hs1)
  have hs2 := hbw2.size
  have o2 := (hb2.block _ (heap_lt o1)).trans o1
  have hz2 : w1.heap.size ≤ w2.heap.size := hb2.size
  clear hb2 o1
  go_wp2_with fail
  refine (WK.out w2 (hT.below' hbw2)).mono ?_
  intro e w3 hw3
  obtain ⟨rfl, hb3⟩ := hw3
  have hbw3 := hbw2.trans (hb3.mono hs2)
  have hs3 := hbw3.size
  have o3 := (hb3.block _ (heap_lt o2)).trans o2
  have hz3 : w2.heap.size ≤ w3.heap.size := hb3.size
  clear hb3 o2
  go_wp2
  go_ret
  exact ⟨rfl, hbw3⟩
set_option maxHeartbeats 6400000 in
theorem labels_e5 (a : Nat) (l : ByteArray) (P : Option Addr) (pn pc : Nat) (pb : List UInt8) (D : Option Addr) (dn dc : Nat) (db : List UInt8) (at_ : Nat) (x : UInt8) (s : Nat) (w : World) (ha : a < 4294967296) (hP : RB w P pn pb) (hD : RB w D dn db) (hat : at_ < 65536) (hs : s < 65536) (hl2 : l.size ≤ 2000000) (hdn2 : dn ≤ 2000000) (hpn2 : pn ≤ 2000000) (hT : Sizes w) (hpn9 : pn ≤ 65535) (hall : l.data.toList.all letter = true) (h1 : l.size ≤ 16384) (h2 : dn ≤ 65536) (h3 : 4096 < pn) :
    Calls Tryd.prog 8 #[.agg #[.int .u32 (a : Int), .string l, .slice P pn pc, .slice D dn dc, .int .u16 (at_ : Int), .int .u8 (x.toNat : Int), .int .u16 (s : Int)]] w fun e w' => e = .returned (.bool true) ∧ Below w.heap.size w w' := by
  have WK := Lib.hid (fun W (h : Sizes W) => works_any W h)
  have WY := Lib.hid (fun W hs hp hd => write_yes2 a l P pn pc pb D dn dc db W hs ha hl2 hp hd (by omega) (by omega) hall)
  have hme := optB_len a l.data.toList pb db
  have HSZ := Lib.hid (data_len l)
  have HPL := Lib.hid hP.1
  have HDL := Lib.hid hD.1
  obtain ⟨m, hm⟩ : ∃ m, m = 8 + 2 * l.size + pn + dn := ⟨_, rfl⟩
  have hml : (optB a l.data.toList pb db).length = m := by rw [hme, HSZ.out, HPL.out, HDL.out, hm]
  have HML := Lib.hid hml
  have LN := Lib.hid (fun W => large_no a l P pn pc D dn dc W h1 h2)
  have d3 : decide (4096 < (pn : Int)) = true := decide_eq_true (by omega)
  generalize optB a l.data.toList pb db = ob at *
  clear hm hml hme
  clear hall
  go_enter Tryd.func8, Tryd.ntmps8
  go_wp2_with fail
  refine calls_named fun w0 hw0 => ?_
  have hbw0 : Below w.heap.size w w0 := by subst hw0; exact ((Below.refl _ _).alloc (Nat.le_refl _) _).alloc (by simp) _
  have hs0 := hbw0.size
  have o0 : w0.heap[w.heap.size + 1]? = some (.cells #[.int .u32 (a : Int), .string l, .slice P pn pc, .slice D dn dc] 25) := by subst hw0; exact heap_alloc2_new w _ _
  clear hw0
  refine (WY.out w0 (hT.below' hbw0) (hP.below hbw0) (hD.below hbw0)).mono ?_
  rintro e w1 ⟨Aa, na, ca, rfl, oa1, hb1⟩
  obtain rfl : m = na := HML.out.symm.trans oa1.len
  have hbw1 := hbw0.trans (hb1.mono hs0)
  have hs1 := hbw1.size
  have o1 := (hb1.block _ (heap_lt o0)).trans o0
  have hz1 : w0.heap.size ≤ w1.heap.size := hb1.size
  clear hb1 o0
  clear oa1
  obtain ⟨a0, a1, a2, a3⟩ := cells4 o1
  have hla1 := heap_lt o1
  go_wp2_with fail
  refine (LN.out w1).mono ?_
  intro e w2 hw2
  obtain ⟨rfl, hb2⟩ := hw2
  have hbw2 := hbw1.trans (hb2.mono hs1)
  have hs2 := hbw2.size
  have o2 := (hb2.block _ (heap_lt o1)).trans o1
  have hz2 : w1.heap.size ≤ w2.heap.size := hb2.size
  clear hb2 o1
  clear a0 a1 a2 a3
  obtain ⟨a0, a1, a2, a3⟩ := cells4 o2
  have hla2 := heap_lt o2
  go_wp2_with fail
  refine (WK.out w2 (hT.below' hbw2)).mono ?_
  intro e w3 hw3
  obtain ⟨rfl, hb3⟩ := hw3
  have hbw3 := hbw2.trans (hb3.mono hs2)
  have hs3 := hbw3.size
  have o3 := (hb3.block _ (heap_lt o2)).trans o2
  have hz3 : w2.heap.size ≤ w3.heap.size := hb3.size
  clear hb3 o2
  go_wp2
  go_ret
  exact ⟨rfl, hbw3⟩
end Go.Proofs.YtokklcfdfjgbjaaDoor
