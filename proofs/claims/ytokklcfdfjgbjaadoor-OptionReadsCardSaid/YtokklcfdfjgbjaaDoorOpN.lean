/-
  option: the statement on writing.
-/
import Derived.Test.YtokklcfdfjgbjaaDoorOpM
import Derived.Test.YtokklcfdfjgbjaaDoorOpK
import Derived.Test.YtokklcfdfjgbjaaDoorFam
namespace Go.Proofs.YtokklcfdfjgbjaaDoor
open Go.RowKit Go
set_option linter.unusedVariables false
set_option maxRecDepth 100000
set_option maxHeartbeats 6400000 in
theorem writes_walk (a : Nat) (l : ByteArray) (P : Option Addr) (pn pc : Nat) (pb : List UInt8) (D : Option Addr) (dn dc : Nat) (db : List UInt8) (w : World) (ha : a < 4294967296) (hP : RB w P pn pb) (hD : RB w D dn db) (hT : Sizes w)
    (h1 : l.size ≤ 16384) (h2 : dn ≤ 65536) (h3 : pn ≤ 131072) (ok : Bool) (hok : (decide (pn < 65536) && l.data.toList.all letter) = ok) :
    Calls Tryd.prog 3 #[.agg #[.int .u32 (a : Int), .string l, .slice P pn pc, .slice D dn dc]] w fun e w' => e = .returned (.bool true) ∧ Below w.heap.size w w' := by
  have WK := Lib.hid (fun W (h : Sizes W) => works_any W h)
  have LN := Lib.hid (fun W => large_no a l P pn pc D dn dc W h1 h2)
  have d3 : decide (131072 < (pn : Int)) = false := decide_eq_false (by omega)
  have HPL := Lib.hid hP.1
  have HDL := Lib.hid hD.1
  have HSZ := Lib.hid (data_len l)
  have hy : ok = true → pn < 65536 ∧ l.data.toList.all letter = true := fun h => by rw [h] at hok; simpa using hok
  have hn : ok = false → l.data.toList.all letter = false ∨ 65535 < pn := fun h => by
    rw [h] at hok
    cases hal : l.data.toList.all letter with
    | false => exact .inl rfl
    | true => rw [hal] at hok; simp at hok; exact .inr (by omega)
  have WY : Hid (ok = true → ∀ (P : Option Addr) (pc : Nat) (D : Option Addr) (dc : Nat) (W : World), Sizes W → RB W P pn pb → RB W D dn db → Calls Tryd.prog 12 #[.agg #[.int .u32 (a : Int), .string l, .slice P pn pc, .slice D dn dc]] W (FreshE W (optB a l.data.toList pb db))) := fun h P pc D dc W hs hp hd => write_yes a l P pn pc pb D dn dc db W hs ha (by omega) hp hd (by have := (hy h).1; omega) (by omega) (hy h).2
  have WN : Hid (ok = false → ∀ (P : Option Addr) (pc : Nat) (D : Option Addr) (dc : Nat) (W : World), Calls Tryd.prog 12 #[.agg #[.int .u32 (a : Int), .string l, .slice P pn pc, .slice D dn dc]] W fun e w' => e = .returned (.tuple #[.slice none 0 0, .int .i64 1]) ∧ Below W.heap.size W w') := fun h P pc D dc W => write_no a l P pn pc D dn dc W (by omega) (by omega) (hn h)
  have RY : Hid (ok = true → ∀ (P : Option Addr) (pc : Nat) (D : Option Addr) (dc : Nat) (W : World), Sizes W → RB W P pn pb → RB W D dn db → Calls Tryd.prog 13 #[.agg #[.int .u32 (a : Int), .string l, .slice P pn pc, .slice D dn dc]] W (FreshE W (optB a l.data.toList pb db))) := fun h P pc D dc W hs hp hd => refWrite_yes a l P pn pc pb D dn dc db W hs ha (by omega) hp hd (by have := (hy h).1; omega) (by omega) (hy h).2
  have RN : Hid (ok = false → ∀ (P : Option Addr) (pc : Nat) (D : Option Addr) (dc : Nat) (W : World), Calls Tryd.prog 13 #[.agg #[.int .u32 (a : Int), .string l, .slice P pn pc, .slice D dn dc]] W fun e w' => e = .returned (.tuple #[.slice none 0 0, .int .i64 1]) ∧ Below W.heap.size W w') := fun h P pc D dc W => refWrite_no a l P pn pc D dn dc W (by omega) (by omega) (hn h)
  have HB := Lib.hid (optB_len a l.data.toList pb db)
  have SM := Lib.hid (fun (P1 P2 D1 D2 : Option Addr) (pc1 pc2 dc1 dc2 : Nat) W hp hp' hd hd' => same_yes a l P1 P2 D1 D2 pn pc1 pn pc2 dn dc1 dn dc2 pb db W hp hp' hd hd')
  have CY := Lib.hid (fun W hp hd => copied_any a l P pn pc pb D dn dc db W hp hd (by omega) (by omega))
  generalize optB a l.data.toList pb db = ob at WY RY HB
  generalize l.data.toList = ll at HB HSZ hok hy hn
  clear hok hn
  cases ok with
  | false =>
    have WNT := Lib.hid (WN.out (by first | rfl | trivial))
    have RNT := Lib.hid (RN.out (by first | rfl | trivial))
    clear WN RN WY RY hy
    go_enter Tryd.func3, Tryd.ntmps3
    go_wp2_with fail
    refine calls_named fun w0 hw0 => ?_
    have hbw0 : Below w.heap.size w w0 := below_named hw0 ((Below.refl _ _).alloc (Nat.le_refl _) _)
    have k0 := heap_named hw0 (heap_alloc_new w _)
    have hs0 := hbw0.size
    clear hw0
    refine (LN.out w0).mono ?_
    intro e w1 hw1
    obtain ⟨rfl, hb1⟩ := hw1
    have hbw1 := hbw0.trans (hb1.mono hs0)
    have hs1 := hbw1.size
    have k1 := (hb1.block _ (heap_lt k0)).trans k0
    clear hb1 k0 hbw0 hs0
    obtain ⟨a0, a1, a2, a3⟩ := cells4 k1
    go_wp2_with fail
    refine (CY.out w1 (hP.below hbw1) (hD.below hbw1)).mono ?_
    rintro e w2 ⟨P2, pc2, D2, dc2, rfl, oP2, oD2, far2, hb2⟩
    have hbw2 := hbw1.trans (hb2.mono hs1)
    have hs2 := hbw2.size
    have k2 := (hb2.block _ (heap_lt k1)).trans k1
    have hlt2 := heap_lt k2
    have FPD := Lib.hid far2
    clear hb2 k1 hbw1 a0 a1 a2 a3 far2
    go_wp2_with fail
    refine calls_named fun w3 hw3 => ?_
    have hbw3 : Below w.heap.size w w3 := below_named hw3 (hbw2.alloc hs2 _)
    have hs3 := hbw3.size
    have k3 := heap_named hw3 ((heap_alloc_old w2 _ hlt2).trans k2)
    have x3 := heap_named hw3 (heap_alloc_new w2 _)
    have oP3 : OwnB w3 w1.heap.size P2 pn pc2 pb := hw3 ▸ oP2.alloc _
    have oD3 : OwnB w3 w1.heap.size D2 dn dc2 db := hw3 ▸ oD2.alloc _
    clear hw3 k2 hbw2 hs2 oP2 oD2 hlt2
    refine (WNT.out P2 pc2 D2 dc2 w3).mono ?_
    intro e w4 hw4
    obtain ⟨rfl, hb4⟩ := hw4
    have hbw4 := hbw3.trans (hb4.mono hs3)
    have hs4 := hbw4.size
    have k4 := (hb4.block _ (heap_lt k3)).trans k3
    have x4 := (hb4.block _ (heap_lt x3)).trans x3
    have oP4 := oP3.below hb4 (Nat.le_refl _)
    have oD4 := oD3.below hb4 (Nat.le_refl _)
    have hz4 := hb4.size
    clear hb4 k3 x3 oP3 oD3 
    obtain ⟨a0, a1, a2, a3⟩ := cells4 k4
    go_wp2_with fail
    refine (RNT.out P pc D dc w4).mono ?_
    intro e w5 hw5
    obtain ⟨rfl, hb5⟩ := hw5
    have hbw5 := hbw4.trans (hb5.mono hs4)
    have hs5 := hbw5.size
    have k5 := (hb5.block _ (heap_lt k4)).trans k4
    have x5 := (hb5.block _ (heap_lt x4)).trans x4
    have oP5 := oP4.below hb5 (Nat.le_refl _)
    have oD5 := oD4.below hb5 (Nat.le_refl _)
    have hz5 := hb5.size
    clear hb5 k4 x4 oP4 oD4 
    clear a0 a1 a2 a3
    go_wp2_with fail
    refine (eq_any none none 0 0 0 0 [] [] _ (RB.nil _ _) (RB.nil _ _)).mono ?_
    rintro e w' ⟨rfl, rfl⟩
    rw [show (([] : List UInt8) == []) = true from rfl]
    obtain ⟨a0, a1, a2, a3⟩ := cells4 k5
    obtain ⟨b0, b1, b2, b3⟩ := cells4 x5
    go_wp2_with fail
    refine (SM.out P2 P D2 D pc2 pc dc2 dc w5 oP5.rb (hP.below hbw5) oD5.rb (hD.below hbw5)).mono ?_
    intro e w6 hw6
    obtain ⟨rfl, hb6⟩ := hw6
    have hbw6 := hbw5.trans (hb6.mono hs5)
    have hs6 := hbw6.size
    have k6 := (hb6.block _ (heap_lt k5)).trans k5
    have x6 := (hb6.block _ (heap_lt x5)).trans x5
    have oP6 := oP5.below hb6 (Nat.le_refl _)
    have oD6 := oD5.below hb6 (Nat.le_refl _)
    have hz6 := hb6.size
    clear hb6 k5 x5 oP5 oD5 
    clear a0 a1 a2 a3 b0 b1 b2 b3
    obtain ⟨b0, b1, b2, b3⟩ := cells4 x6
    go_wp2_with fail
    refine (WNT.out P2 pc2 D2 dc2 w6).mono ?_
    intro e w7 hw7
    obtain ⟨rfl, hb7⟩ := hw7
    have hbw7 := hbw6.trans (hb7.mono hs6)
    have hs7 := hbw7.size
    have k7 := (hb7.block _ (heap_lt k6)).trans k6
    have x7 := (hb7.block _ (heap_lt x6)).trans x6
    have oP7 := oP6.below hb7 (Nat.le_refl _)
    have oD7 := oD6.below hb7 (Nat.le_refl _)
    have hz7 := hb7.size
    clear hb7 k6 x6 oP6 oD6 
    have AP : Hid (∀ cs' : Array Value, cs'.toList = [Value.slice none 0 0, Value.slice none 0 0, Value.slice P2 pn pc2, Value.slice D2 dn dc2] → Calls Tryd.prog 16 #[.slice (some ⟨w7.heap.size, 0, none⟩) 4 4] (w7.alloc (.cells cs' 23)) fun e w' => e = .returned (.bool true) ∧ Below w.heap.size w7 w') := fun cs' hcs' => by
      refine apart_list w7 w.heap.size [(none, 0, 0, []), (none, 0, 0, []), (P2, pn, pc2, pb), (D2, dn, dc2, db)] 4 cs' rfl (by omega) hcs' hs7 ?_ ?_
      · intro x hx
        simp only [List.mem_cons, List.not_mem_nil, or_false] at hx
        rcases hx with rfl | rfl | rfl | rfl
        · exact ⟨OwnB.nil _ _, by simp only; omega⟩
        · exact ⟨OwnB.nil _ _, by simp only; omega⟩
        · exact ⟨oP7.lower hs1, by simp only; omega⟩
        · exact ⟨oD7.lower hs1, by simp only; omega⟩
      · simp only [List.pairwise_cons, List.mem_cons, List.not_mem_nil, or_false]
        refine ⟨fun y hy => .inl rfl, fun y hy => .inl rfl, fun y hy => ?_, fun y hy => hy.elim, List.Pairwise.nil⟩
        subst hy
        exact FPD.out
    clear b0 b1 b2 b3
    obtain ⟨b0, b1, b2, b3⟩ := cells4 x7
    go_wp2_with fail
    refine (AP.out _ rfl).mono ?_
    intro e w8 hw8
    obtain ⟨rfl, hb8⟩ := hw8
    have hbw8 := hbw7.trans hb8
    have hs8 := hbw8.size
    clear hb8
    go_wp2_with fail
    refine (WK.out _ (hT.below' hbw8)).mono ?_
    intro e w29 hw29
    obtain ⟨rfl, hb29⟩ := hw29
    have hbw29 := hbw8.trans (hb29.mono hs8)
    clear hb29
    go_wp2
    go_ret
    exact ⟨rfl, hbw29⟩
  | true =>
    have WYT := Lib.hid (WY.out (by first | rfl | trivial))
    have RYT := Lib.hid (RY.out (by first | rfl | trivial))
    have hpl := (hy (by first | rfl | trivial)).1
    obtain ⟨m, hm⟩ : ∃ m, m = 8 + 2 * l.size + pn + dn := ⟨_, rfl⟩
    have hob : ob.length = m := by rw [HB.out, HSZ.out, HPL.out, HDL.out, hm]
    have HOB := Lib.hid hob
    have hm9 : m ≤ 500000 := by omega
    clear hob hm WN RN WY RY hy
    go_enter Tryd.func3, Tryd.ntmps3
    go_wp2_with fail
    refine calls_named fun w0 hw0 => ?_
    have hbw0 : Below w.heap.size w w0 := below_named hw0 ((Below.refl _ _).alloc (Nat.le_refl _) _)
    have k0 := heap_named hw0 (heap_alloc_new w _)
    have hs0 := hbw0.size
    clear hw0
    refine (LN.out w0).mono ?_
    intro e w1 hw1
    obtain ⟨rfl, hb1⟩ := hw1
    have hbw1 := hbw0.trans (hb1.mono hs0)
    have hs1 := hbw1.size
    have k1 := (hb1.block _ (heap_lt k0)).trans k0
    clear hb1 k0 hbw0 hs0
    obtain ⟨a0, a1, a2, a3⟩ := cells4 k1
    go_wp2_with fail
    refine (CY.out w1 (hP.below hbw1) (hD.below hbw1)).mono ?_
    rintro e w2 ⟨P2, pc2, D2, dc2, rfl, oP2, oD2, far2, hb2⟩
    have hbw2 := hbw1.trans (hb2.mono hs1)
    have hs2 := hbw2.size
    have k2 := (hb2.block _ (heap_lt k1)).trans k1
    have hlt2 := heap_lt k2
    have FPD := Lib.hid far2
    clear hb2 k1 hbw1 a0 a1 a2 a3 far2
    go_wp2_with fail
    refine calls_named fun w3 hw3 => ?_
    have hbw3 : Below w.heap.size w w3 := below_named hw3 (hbw2.alloc hs2 _)
    have hs3 := hbw3.size
    have k3 := heap_named hw3 ((heap_alloc_old w2 _ hlt2).trans k2)
    have x3 := heap_named hw3 (heap_alloc_new w2 _)
    have oP3 : OwnB w3 w1.heap.size P2 pn pc2 pb := hw3 ▸ oP2.alloc _
    have oD3 : OwnB w3 w1.heap.size D2 dn dc2 db := hw3 ▸ oD2.alloc _
    clear hw3 k2 hbw2 hs2 oP2 oD2 hlt2
    have oPF := Lib.hid oP3
    have oDF := Lib.hid oD3
    refine (WYT.out P2 pc2 D2 dc2 w3 (hT.below' hbw3) oP3.rb oD3.rb).mono ?_
    rintro e w4 ⟨A4, n4, c4, rfl, own4, hb4⟩
    obtain rfl : m = n4 := HOB.out.symm.trans own4.len
    have hbw4 := hbw3.trans (hb4.mono hs3)
    have hs4 := hbw4.size
    have k4 := (hb4.block _ (heap_lt k3)).trans k3
    have x4 := (hb4.block _ (heap_lt x3)).trans x3
    have oP4 := oP3.below hb4 (Nat.le_refl _)
    have oD4 := oD3.below hb4 (Nat.le_refl _)
    have hz4 := hb4.size
    clear hb4 k3 x3 oP3 oD3 
    have F4P := Lib.hid (far_of oPF.out own4 (Nat.le_refl _))
    have F4D := Lib.hid (far_of oDF.out own4 (Nat.le_refl _))
    have ya4 := own4
    obtain ⟨a0, a1, a2, a3⟩ := cells4 k4
    go_wp2_with fail
    refine (RYT.out P pc D dc w4 (hT.below' hbw4) (hP.below hbw4) (hD.below hbw4)).mono ?_
    rintro e w5 ⟨A5, n5, c5, rfl, own5, hb5⟩
    obtain rfl : m = n5 := HOB.out.symm.trans own5.len
    have hbw5 := hbw4.trans (hb5.mono hs4)
    have hs5 := hbw5.size
    have k5 := (hb5.block _ (heap_lt k4)).trans k4
    have x5 := (hb5.block _ (heap_lt x4)).trans x4
    have oP5 := oP4.below hb5 (Nat.le_refl _)
    have oD5 := oD4.below hb5 (Nat.le_refl _)
    have ya5 := ya4.below hb5 (Nat.le_refl _)
    have hz5 := hb5.size
    clear hb5 k4 x4 oP4 oD4 ya4
    clear own4 a0 a1 a2 a3
    go_wp2_with fail
    refine (eq_any _ _ _ _ _ _ _ _ _ ya5.rb own5.rb).mono ?_
    rintro e w' ⟨rfl, rfl⟩
    rw [show (ob == ob) = true from by simp]
    obtain ⟨a0, a1, a2, a3⟩ := cells4 k5
    obtain ⟨b0, b1, b2, b3⟩ := cells4 x5
    go_wp2_with fail
    refine (SM.out P2 P D2 D pc2 pc dc2 dc w5 oP5.rb (hP.below hbw5) oD5.rb (hD.below hbw5)).mono ?_
    intro e w6 hw6
    obtain ⟨rfl, hb6⟩ := hw6
    have hbw6 := hbw5.trans (hb6.mono hs5)
    have hs6 := hbw6.size
    have k6 := (hb6.block _ (heap_lt k5)).trans k5
    have x6 := (hb6.block _ (heap_lt x5)).trans x5
    have oP6 := oP5.below hb6 (Nat.le_refl _)
    have oD6 := oD5.below hb6 (Nat.le_refl _)
    have ya6 := ya5.below hb6 (Nat.le_refl _)
    have hz6 := hb6.size
    clear hb6 k5 x5 oP5 oD5 ya5
    clear a0 a1 a2 a3 b0 b1 b2 b3
    obtain ⟨b0, b1, b2, b3⟩ := cells4 x6
    go_wp2_with fail
    have oPG := Lib.hid oP6
    have oDG := Lib.hid oD6
    have yaG := Lib.hid ya6
    refine (WYT.out P2 pc2 D2 dc2 w6 (hT.below' hbw6) oP6.rb oD6.rb).mono ?_
    rintro e w7 ⟨A7, n7, c7, rfl, own7, hb7⟩
    obtain rfl : m = n7 := HOB.out.symm.trans own7.len
    have hbw7 := hbw6.trans (hb7.mono hs6)
    have hs7 := hbw7.size
    have k7 := (hb7.block _ (heap_lt k6)).trans k6
    have x7 := (hb7.block _ (heap_lt x6)).trans x6
    have oP7 := oP6.below hb7 (Nat.le_refl _)
    have oD7 := oD6.below hb7 (Nat.le_refl _)
    have ya7 := ya6.below hb7 (Nat.le_refl _)
    have hz7 := hb7.size
    clear hb7 k6 x6 oP6 oD6 ya6
    have F7P := Lib.hid (far_of oPG.out own7 (Nat.le_refl _))
    have F7D := Lib.hid (far_of oDG.out own7 (Nat.le_refl _))
    have F47 := Lib.hid (far_of yaG.out own7 (Nat.le_refl _))
    have AP : Hid (∀ cs' : Array Value, cs'.toList = [Value.slice A4 m c4, Value.slice A7 m c7, Value.slice P2 pn pc2, Value.slice D2 dn dc2] → Calls Tryd.prog 16 #[.slice (some ⟨w7.heap.size, 0, none⟩) 4 4] (w7.alloc (.cells cs' 23)) fun e w' => e = .returned (.bool true) ∧ Below w.heap.size w7 w') := fun cs' hcs' => by
      refine apart_list w7 w.heap.size [(A4, m, c4, ob), (A7, m, c7, ob), (P2, pn, pc2, pb), (D2, dn, dc2, db)] 4 cs' rfl (by omega) hcs' hs7 ?_ ?_
      · intro x hx
        simp only [List.mem_cons, List.not_mem_nil, or_false] at hx
        rcases hx with rfl | rfl | rfl | rfl
        · exact ⟨ya7.lower (by omega), by simp only; omega⟩
        · exact ⟨own7.lower (by omega), by simp only; omega⟩
        · exact ⟨oP7.lower hs1, by simp only; omega⟩
        · exact ⟨oD7.lower hs1, by simp only; omega⟩
      · simp only [List.pairwise_cons, List.mem_cons, List.not_mem_nil, or_false]
        refine ⟨fun y hy => ?_, fun y hy => ?_, fun y hy => ?_, fun y hy => hy.elim, List.Pairwise.nil⟩
        · rcases hy with rfl | rfl | rfl
          · exact F47.out
          · exact far_symm F4P.out
          · exact far_symm F4D.out
        · rcases hy with rfl | rfl
          · exact far_symm F7P.out
          · exact far_symm F7D.out
        · subst hy
          exact FPD.out
    clear b0 b1 b2 b3
    obtain ⟨b0, b1, b2, b3⟩ := cells4 x7
    go_wp2_with fail
    refine (AP.out _ rfl).mono ?_
    intro e w8 hw8
    obtain ⟨rfl, hb8⟩ := hw8
    have hbw8 := hbw7.trans hb8
    have hs8 := hbw8.size
    clear hb8
    go_wp2_with fail
    refine (WK.out _ (hT.below' hbw8)).mono ?_
    intro e w29 hw29
    obtain ⟨rfl, hb29⟩ := hw29
    have hbw29 := hbw8.trans (hb29.mono hs8)
    clear hb29
    go_wp2
    go_ret
    exact ⟨rfl, hbw29⟩
theorem writes_row (o : Opt) (w : World) (hI : IsOpt w o) (hT : Sizes w) :
    Calls Tryd.prog 3 #[opV o] w fun e w' => e = .returned (.bool true) ∧ Below w.heap.size w w' := by
  obtain ⟨a, l, P, pn, pc, pb, D, dn, dc, db⟩ := o
  obtain ⟨ha, hl, hp, hd⟩ := hI
  unfold opV Opt.cells
  simp only at *
  have hl9 := hl
  have hp1 := hp.le
  have hp2 := hp.max
  have hd1 := hd.le
  have hd2 := hd.max
  unfold maxLen at hl9 hp2 hd2
  have WK := Lib.hid (fun W (h : Sizes W) => works_any W h)
  by_cases hbig : 16384 < l.size ∨ 65536 < dn
  · have LG := Lib.hid (fun W => large_yes a l P pn pc D dn dc W hbig (by omega) (by omega))
    clear hbig
    go_enter Tryd.func3, Tryd.ntmps3
    go_wp2_with fail
    refine calls_named fun w0 hw0 => ?_
    have hbw0 : Below w.heap.size w w0 := below_named hw0 ((Below.refl _ _).alloc (Nat.le_refl _) _)
    have k0 := heap_named hw0 (heap_alloc_new w _)
    have hs0 := hbw0.size
    clear hw0
    refine (LG.out w0).mono ?_
    intro e w1 hw1
    obtain ⟨rfl, hb1⟩ := hw1
    have hbw1 := hbw0.trans (hb1.mono hs0)
    have hs1 := hbw1.size
    have k1 := (hb1.block _ (heap_lt k0)).trans k0
    clear hb1 k0 hbw0 hs0
    obtain ⟨a0, a1, a2, a3⟩ := cells4 k1
    go_wp2_with fail
    refine (WK.out _ (hT.below' hbw1)).mono ?_
    intro e w9 hw9
    obtain ⟨rfl, hb9⟩ := hw9
    have hbw9 := hbw1.trans (hb9.mono hs1)
    clear hb9
    go_wp2
    go_ret
    exact ⟨rfl, hbw9⟩
  · by_cases h3 : pn ≤ 131072
    · exact writes_walk a l P pn pc pb D dn dc db w ha hp.rb hd.rb hT (by omega) (by omega) h3 _ rfl
    · have LG := Lib.hid (fun W => large_no a l P pn pc D dn dc W (by omega) (by omega))
      have d3 : decide (131072 < (pn : Int)) = true := decide_eq_true (by omega)
      go_enter Tryd.func3, Tryd.ntmps3
      go_wp2_with fail
      refine calls_named fun w0 hw0 => ?_
      have hbw0 : Below w.heap.size w w0 := below_named hw0 ((Below.refl _ _).alloc (Nat.le_refl _) _)
      have k0 := heap_named hw0 (heap_alloc_new w _)
      have hs0 := hbw0.size
      clear hw0
      refine (LG.out w0).mono ?_
      intro e w1 hw1
      obtain ⟨rfl, hb1⟩ := hw1
      have hbw1 := hbw0.trans (hb1.mono hs0)
      have hs1 := hbw1.size
      have k1 := (hb1.block _ (heap_lt k0)).trans k0
      clear hb1 k0 hbw0 hs0
      obtain ⟨a0, a1, a2, a3⟩ := cells4 k1
      go_wp2_with fail
      refine (WK.out _ (hT.below' hbw1)).mono ?_
      intro e w9 hw9
      obtain ⟨rfl, hb9⟩ := hw9
      have hbw9 := hbw1.trans (hb9.mono hs1)
      clear hb9
      go_wp2
      go_ret
      exact ⟨rfl, hbw9⟩
end Go.Proofs.YtokklcfdfjgbjaaDoor
