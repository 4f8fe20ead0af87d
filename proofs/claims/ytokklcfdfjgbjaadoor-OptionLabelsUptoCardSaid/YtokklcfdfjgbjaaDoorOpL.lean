/-
  option: the statement on bytes that stand behind an option's.
-/
import Derived.Test.YtokklcfdfjgbjaaDoorOpK
import Derived.Test.YtokklcfdfjgbjaaDoorOpI
namespace Go.Proofs.YtokklcfdfjgbjaaDoor
open Go.RowKit Go
set_option linter.unusedVariables false
set_option maxRecDepth 100000
theorem optB_more (a : Nat) (l pb db m : List UInt8) : optB a l pb db ++ m = optB a l pb (db ++ m) := by unfold optB; simp
theorem own_not {w : World} {base g n c : Nat} {A : Option Addr} {bs : List UInt8} {cs : Array Value} {fr : Nat × Nat} (h : OwnB w base A n c bs) (hk : w.heap[g]? = some (.cells cs 25 fr)) : blk A = none ∨ blk A ≠ some g := by
  rcases hA : blk A with _ | q
  · exact .inl rfl
  · refine .inr (fun e => ?_)
    injection e with e
    subst e
    obtain ⟨cur, hc⟩ := h.kind _ hA
    rw [hk] at hc
    injection hc with hc
    injection hc with _ h2
    exact absurd h2 (by decide)
set_option maxHeartbeats 6400000 in
theorem more_walk (a : Nat) (l : ByteArray) (P : Option Addr) (pn pc : Nat) (pb : List UInt8) (D : Option Addr) (dn dc : Nat) (db : List UInt8) (A : Option Addr) (n c : Nat) (bs : List UInt8) (w : World) (ha : a < 4294967296) (hP : RB w P pn pb) (hD : RB w D dn db) (hR : RB w A n bs) (hT : Sizes w)
    (h1 : l.size ≤ 16384) (h2 : dn ≤ 65536) (h3 : pn ≤ 4096) (h4 : n ≤ 4096) (ok : Bool) (hok : l.data.toList.all letter = ok) :
    Calls Tryd.prog 6 #[.agg #[.int .u32 (a : Int), .string l, .slice P pn pc, .slice D dn dc], .slice A n c] w fun e w' => e = .returned (.bool true) ∧ Below w.heap.size w w' := by
  have WK := Lib.hid (fun W (h : Sizes W) => works_any W h)
  have LN := Lib.hid (fun W => large_no a l P pn pc D dn dc W h1 h2)
  have d3 : decide (4096 < (pn : Int)) = false := decide_eq_false (by omega)
  have d4 : decide (4096 < (n : Int)) = false := decide_eq_false (by omega)
  have HPL := Lib.hid hP.1
  have HDL := Lib.hid hD.1
  have HSZ := Lib.hid (data_len l)
  have HBL := Lib.hid hR.1
  have WY : Hid (ok = true → ∀ W, Sizes W → RB W P pn pb → RB W D dn db → Calls Tryd.prog 12 #[.agg #[.int .u32 (a : Int), .string l, .slice P pn pc, .slice D dn dc]] W (FreshE W (optB a l.data.toList pb db))) := fun h W hs hp hd => write_yes a l P pn pc pb D dn dc db W hs ha (by omega) hp hd (by omega) (by omega) (hok.trans h)
  have WN : Hid (ok = false → ∀ W, Calls Tryd.prog 12 #[.agg #[.int .u32 (a : Int), .string l, .slice P pn pc, .slice D dn dc]] W fun e w' => e = .returned (.tuple #[.slice none 0 0, .int .i64 1]) ∧ Below W.heap.size W w') := fun h W => write_no a l P pn pc D dn dc W (by omega) (by omega) (.inl (hok.trans h))
  have HB := Lib.hid (optB_len a l.data.toList pb db)
  have HQ : Hid (ok = true → readQ (optB a l.data.toList pb db ++ bs) = some (a, l.data.toList, pb, db ++ bs)) := fun h => by rw [optB_more]; exact readQ_optB a _ pb _ ha (hok.trans h) (by rw [HPL.out]; omega)
  have SM := Lib.hid (fun (P1 P2 D1 D2 : Option Addr) (pn1 pc1 dn1 dc1 pn2 pc2 dn2 dc2 : Nat) W hp hp' hd hd' => same_yes a l P1 P2 D1 D2 pn1 pc1 pn2 pc2 dn1 dc1 dn2 dc2 pb (db ++ bs) W hp hp' hd hd')
  have CY := Lib.hid (fun W hp hd => copied_any a l P pn pc pb D dn dc db W hp hd (by omega) (by omega))
  have hst : strOf l.data.toList = l := strOf_eq l
  have HST := Lib.hid hst
  generalize optB a l.data.toList pb db = ob at WY HB HQ
  generalize l.data.toList = ll at HB HQ HSZ HST hok
  clear hok hst
  cases ok with
  | false =>
    go_enter Tryd.func6, Tryd.ntmps6
    go_wp2_with fail
    refine calls_named fun w0 hw0 => ?_
    have hbw0 : Below w.heap.size w w0 := below_named hw0 ((Below.refl _ _).alloc (Nat.le_refl _) _)
    have k0 := heap_named hw0 (heap_alloc_new w _)
    have hs0 := hbw0.size
    clear hw0
    refine (LN.out w0).mono ?_
    intro e w1 hw1
    obtain ⟨rfl, hb1⟩ := hw1
    have hbw1 := hbw0.trans (hb1.mono hs0)
    have hs1 := hbw1.size
    have k1 := (hb1.block _ (heap_lt k0)).trans k0
    clear hb1 k0 hbw0 hs0
    obtain ⟨a0, a1, a2, a3⟩ := cells4 k1
    go_wp2_with fail
    refine (WN.out (by first | rfl | trivial) w1).mono ?_
    intro e w2 hw2
    obtain ⟨rfl, hb2⟩ := hw2
    have hbw2 := hbw1.trans (hb2.mono hs1)
    have hs2 := hbw2.size
    clear hb2 hbw1 hs1 k1 a0 a1 a2 a3
    go_wp2_with fail
    refine (WK.out _ (hT.below' hbw2)).mono ?_
    intro e w29 hw29
    obtain ⟨rfl, hb29⟩ := hw29
    have hbw29 := hbw2.trans (hb29.mono hs2)
    clear hb29
    go_wp2
    go_ret
    exact ⟨rfl, hbw29⟩
  | true =>
    have HQT := Lib.hid (HQ.out (by first | rfl | trivial))
    have WYT := Lib.hid (WY.out (by first | rfl | trivial))
    clear HQ WY WN
    obtain ⟨m, hm⟩ : ∃ m, m = 8 + 2 * l.size + pn + dn := ⟨_, rfl⟩
    have hob : ob.length = m := by rw [HB.out, HSZ.out, HPL.out, HDL.out, hm]
    have HOB := Lib.hid hob
    have hm9 : m ≤ 500000 := by omega
    clear hob hm
    go_enter Tryd.func6, Tryd.ntmps6
    go_wp2_with fail
    refine calls_named fun w0 hw0 => ?_
    have hbw0 : Below w.heap.size w w0 := below_named hw0 ((Below.refl _ _).alloc (Nat.le_refl _) _)
    have k0 := heap_named hw0 (heap_alloc_new w _)
    have hs0 := hbw0.size
    clear hw0
    refine (LN.out w0).mono ?_
    intro e w1 hw1
    obtain ⟨rfl, hb1⟩ := hw1
    have hbw1 := hbw0.trans (hb1.mono hs0)
    have hs1 := hbw1.size
    have k1 := (hb1.block _ (heap_lt k0)).trans k0
    clear hb1 k0 hbw0 hs0
    obtain ⟨a0, a1, a2, a3⟩ := cells4 k1
    go_wp2_with fail
    refine (WYT.out w1 (hT.below' hbw1) (hP.below hbw1) (hD.below hbw1)).mono ?_
    rintro e w2 ⟨A2, n2, c2, rfl, hown2, hb2⟩
    obtain rfl : m = n2 := HOB.out.symm.trans hown2.len
    have hbw2 := hbw1.trans (hb2.mono hs1)
    have hs2 := hbw2.size
    have k2 := (hb2.block _ (heap_lt k1)).trans k1
    have hlt1 := heap_lt k1
    have hz2 := hb2.size
    clear hb2 k1 hbw1 hs1 a0 a1 a2 a3
    go_wp2_with (at_builtin; refine wpList_apn _ _ rfl rfl rfl w1.heap.size A2 m c2 _ rfl hown2 A n c _ rfl (hR.below hbw2) (by omega) hz2 ?_)
    intro A3 c3 w3 hown3 hg3
    have hbw3 := hbw2.grown hg3 hs2 (fun g hg => by have := (hown2.blk_lt hg).1; omega)
    have hs3 : w.heap.size ≤ w3.heap.size := hbw3.size
    have k3 := (hg3.block w.heap.size (heap_lt k2) (fun e => by have := (hown2.blk_lt e.symm).1; omega)).trans k2
    have hcp := hown3.cap
    unfold maxLen at hcp
    obtain ⟨hcp1, hcp2⟩ := hcp
    clear hg3 k2 hbw2 hs2 hown2 hz2
    go_wp2_with fail
    refine (oread_any A3 (m + n) c3 _ w3 hown3.rb hcp1 (by omega) (by omega) (hT.below' hbw3)).mono ?_
    intro e w4 hp4
    simp only [ReadPost, HQT.out] at hp4
    obtain ⟨P4, pn4, pc4, D4, dn4, dc4, rfl, ownP4, ownD4, _, hb4⟩ := hp4
    rw [HST.out]
    have hbw4 := hbw3.trans (hb4.mono hs3)
    have hs4 := hbw4.size
    have k4 := (hb4.block _ (heap_lt k3)).trans k3
    have hlt4 := heap_lt k4
    clear hb4 k3 hbw3 hown3
    obtain ⟨a0, a1, a2, a3⟩ := cells4 k4
    go_wp2_with fail
    refine calls_named fun w5 hw5 => ?_
    have hbw5 : Below w.heap.size w w5 := below_named hw5 (hbw4.alloc hs4 _)
    have hs5 := hbw5.size
    have x5 := heap_named hw5 (heap_alloc_new w4 _)
    have hx5 := heap_lt x5
    have oP5 : OwnB w5 w3.heap.size P4 pn4 pc4 pb := hw5 ▸ ownP4.alloc _
    have oD5 : OwnB w5 w3.heap.size D4 dn4 dc4 (db ++ bs) := hw5 ▸ ownD4.alloc _
    clear hw5 k4 ownP4 ownD4 a0 a1 a2 a3 hlt4
    refine (CY.out w5 (hP.below hbw5) (hD.below hbw5)).mono ?_
    rintro e w6 ⟨P6, pc6, D6, dc6, rfl, oP6, oD6, far6, hb6⟩
    have hbw6 := hbw5.trans (hb6.mono hs5)
    have hs6 := hbw6.size
    have x6 := (hb6.block _ (heap_lt x5)).trans x5
    have oP56 := oP5.below hb6 (Nat.le_refl _)
    have oD56 := oD5.below hb6 (Nat.le_refl _)
    have f1 : blk P4 = none ∨ blk P4 ≠ blk D6 := by
      rcases hA : blk P4 with _ | q
      · exact .inl rfl
      · exact .inr (fun e => by have h7 := (oP5.blk_lt hA).2; have h8 := (oD6.blk_lt e.symm).1; omega)
    have f2 : blk D4 = none ∨ blk D4 ≠ blk D6 := by
      rcases hA : blk D4 with _ | q
      · exact .inl rfl
      · exact .inr (fun e => by have h7 := (oD5.blk_lt hA).2; have h8 := (oD6.blk_lt e.symm).1; omega)
    have hz6 := hb6.size
    have hx6 := heap_lt x6
    have HF1 := Lib.hid f1
    have HF2 := Lib.hid f2
    have HF6 := Lib.hid far6
    clear hb6 x5 oP5 oD5 hbw5 f1 f2 far6
    go_wp2_with (at_builtin; refine wpList_apn _ _ rfl rfl rfl w5.heap.size D6 dn dc6 _ rfl (oD6.alloc _) A n c _ rfl ((hR.below hbw6).alloc _) (by omega) (by simp; omega) ?_)
    intro A7 c7 w7 hown7 hg7
    have hbw7 := (hbw6.alloc hs6 _).grown hg7 (by simp; omega) (fun g hg => by have := (oD6.blk_lt hg).1; omega)
    have hs7 : w.heap.size ≤ w7.heap.size := hbw7.size
    have y7 := (hg7.block w6.heap.size (by simp) (fun e => by have := (oD6.blk_lt e.symm).2; omega)).trans (heap_alloc_new w6 _)
    have x7 := (hg7.block _ (by simp; omega) (fun e => by have := (oD6.blk_lt e.symm).1; omega)).trans ((heap_alloc_old w6 _ hx6).trans x6)
    have oP7 := (oP6.alloc (.cells #[.int .u32 (a : Int), .string l, .slice P6 pn pc6, .slice D6 dn dc6] 25)).kept hg7 HF6.out
    have oP47 := (oP56.alloc (.cells #[.int .u32 (a : Int), .string l, .slice P6 pn pc6, .slice D6 dn dc6] 25)).kept hg7 HF1.out
    have oD47 := (oD56.alloc (.cells #[.int .u32 (a : Int), .string l, .slice P6 pn pc6, .slice D6 dn dc6] 25)).kept hg7 HF2.out
    have G1 := Lib.hid (own_not oP7 y7)
    have G2 := Lib.hid (own_not oP47 y7)
    have G3 := Lib.hid (own_not oD47 y7)
    have G4 := Lib.hid (own_not hown7 y7)
    obtain ⟨a0, a1, a2, a3⟩ := cells4 y7
    obtain ⟨f0, f1, f2, f3⟩ := free4 y7
    obtain ⟨b0, b1, b2, b3⟩ := cells4 x7
    clear hg7 hbw6 oP6 oD6 oP56 oD56 x6 hs6
    go_wp2_with fail
    refine calls_named fun w8 hw8 => ?_
    have hbw8 : Below w.heap.size w w8 := below_named hw8 (hbw7.setCell (by show w.heap.size ≤ w6.heap.size; omega) _)
    have hs8 := hbw8.size
    have hg8 : w7.grownBy w8 (some w6.heap.size) := hw8 ▸ grown_set1 w7 w6.heap.size 3 _
    have r1 := (oP47.kept hg8 G2.out).rb
    have r2 := (oP7.kept hg8 G1.out).rb
    have r3 := (oD47.kept hg8 G3.out).rb
    have r4 := (hown7.kept hg8 G4.out).rb
    clear hw8 hg8 b0 b1 b2 b3 a0 a1 a2 a3 f0 f1 f2 f3 x7 y7 oP7 oP47 oD47 hown7 hbw7 hs7
    refine (SM.out _ _ _ _ _ _ _ _ _ _ _ _ _ r1 r2 r3 r4).mono ?_
    intro e w9 hw9
    obtain ⟨rfl, hb9⟩ := hw9
    have hbw9 := hbw8.trans (hb9.mono hs8)
    have hs9 := hbw9.size
    clear hb9
    go_wp2_with fail
    refine (WK.out _ (hT.below' hbw9)).mono ?_
    intro e w29 hw29
    obtain ⟨rfl, hb29⟩ := hw29
    have hbw29 := hbw9.trans (hb29.mono hs9)
    clear hb29
    go_wp2
    go_ret
    exact ⟨rfl, hbw29⟩
theorem more_row (o : Opt) (A : Option Addr) (n c : Nat) (bs : List UInt8) (w : World) (hI : IsOpt w o) (hb : IsBs w A n c bs) (hT : Sizes w) :
    Calls Tryd.prog 6 #[opV o, .slice A n c] w fun e w' => e = .returned (.bool true) ∧ Below w.heap.size w w' := by
  obtain ⟨a, l, P, pn, pc, pb, D, dn, dc, db⟩ := o
  obtain ⟨ha, hl, hp, hd⟩ := hI
  unfold opV Opt.cells
  simp only at *
  have hl9 := hl
  have hp1 := hp.le
  have hp2 := hp.max
  have hd1 := hd.le
  have hd2 := hd.max
  have hb1 := hb.le
  have hb2 := hb.max
  unfold maxLen at hl9 hp2 hd2 hb2
  have WK := Lib.hid (fun W (h : Sizes W) => works_any W h)
  by_cases hbig : 16384 < l.size ∨ 65536 < dn
  · have LG := Lib.hid (fun W => large_yes a l P pn pc D dn dc W hbig (by omega) (by omega))
    clear hbig hb1
    go_enter Tryd.func6, Tryd.ntmps6
    go_wp2_with fail
    refine calls_named fun w0 hw0 => ?_
    have hbw0 : Below w.heap.size w w0 := below_named hw0 ((Below.refl _ _).alloc (Nat.le_refl _) _)
    have k0 := heap_named hw0 (heap_alloc_new w _)
    have hs0 := hbw0.size
    clear hw0
    refine (LG.out w0).mono ?_
    intro e w1 hw1
    obtain ⟨rfl, hb1⟩ := hw1
    have hbw1 := hbw0.trans (hb1.mono hs0)
    have hs1 := hbw1.size
    have k1 := (hb1.block _ (heap_lt k0)).trans k0
    clear hb1 k0 hbw0 hs0
    obtain ⟨a0, a1, a2, a3⟩ := cells4 k1
    go_wp2_with fail
    refine (WK.out _ (hT.below' hbw1)).mono ?_
    intro e w29 hw29
    obtain ⟨rfl, hb29⟩ := hw29
    have hbw29 := hbw1.trans (hb29.mono hs1)
    clear hb29
    go_wp2
    go_ret
    exact ⟨rfl, hbw29⟩
  · by_cases h3 : pn ≤ 4096
    · by_cases h4 : n ≤ 4096
      · exact more_walk a l P pn pc pb D dn dc db A n c bs w ha hp.rb hd.rb hb.rb hT (by omega) (by omega) h3 h4 _ rfl
      · have LG := Lib.hid (fun W => large_no a l P pn pc D dn dc W (by omega) (by omega))
        have d3 : decide (4096 < (pn : Int)) = false := decide_eq_false (by omega)
        have d4 : decide (4096 < (n : Int)) = true := decide_eq_true (by omega)
        clear hb1
        go_enter Tryd.func6, Tryd.ntmps6
        go_wp2_with fail
        refine calls_named fun w0 hw0 => ?_
        have hbw0 : Below w.heap.size w w0 := below_named hw0 ((Below.refl _ _).alloc (Nat.le_refl _) _)
        have k0 := heap_named hw0 (heap_alloc_new w _)
        have hs0 := hbw0.size
        clear hw0
        refine (LG.out w0).mono ?_
        intro e w1 hw1
        obtain ⟨rfl, hb1⟩ := hw1
        have hbw1 := hbw0.trans (hb1.mono hs0)
        have hs1 := hbw1.size
        have k1 := (hb1.block _ (heap_lt k0)).trans k0
        clear hb1 k0 hbw0 hs0
        obtain ⟨a0, a1, a2, a3⟩ := cells4 k1
        go_wp2_with fail
        refine (WK.out _ (hT.below' hbw1)).mono ?_
        intro e w29 hw29
        obtain ⟨rfl, hb29⟩ := hw29
        have hbw29 := hbw1.trans (hb29.mono hs1)
        clear hb29
        go_wp2
        go_ret
        exact ⟨rfl, hbw29⟩
    · have LG := Lib.hid (fun W => large_no a l P pn pc D dn dc W (by omega) (by omega))
      have d3 : decide (4096 < (pn : Int)) = true := decide_eq_true (by omega)
      clear hb1
      go_enter Tryd.func6, Tryd.ntmps6
      go_wp2_with fail
      refine calls_named fun w0 hw0 => ?_
      have hbw0 : Below w.heap.size w w0 := below_named hw0 ((Below.refl _ _).alloc (Nat.le_refl _) _)
      have k0 := heap_named hw0 (heap_alloc_new w _)
      have hs0 := hbw0.size
      clear hw0
      refine (LG.out w0).mono ?_
      intro e w1 hw1
      obtain ⟨rfl, hb1⟩ := hw1
      have hbw1 := hbw0.trans (hb1.mono hs0)
      have hs1 := hbw1.size
      have k1 := (hb1.block _ (heap_lt k0)).trans k0
      clear hb1 k0 hbw0 hs0
      obtain ⟨a0, a1, a2, a3⟩ := cells4 k1
      go_wp2_with fail
      refine (WK.out _ (hT.below' hbw1)).mono ?_
      intro e w29 hw29
      obtain ⟨rfl, hb29⟩ := hw29
      have hbw29 := hbw1.trans (hb29.mono hs1)
      clear hb29
      go_wp2
      go_ret
      exact ⟨rfl, hbw29⟩
end Go.Proofs.YtokklcfdfjgbjaaDoor
