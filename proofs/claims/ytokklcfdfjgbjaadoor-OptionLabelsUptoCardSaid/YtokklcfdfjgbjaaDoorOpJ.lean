/-
  option: the theorem of the stage.
-/
import Derived.Test.YtokklcfdfjgbjaaDoorOpI
import Derived.Test.YtokklcfdfjgbjaaDoorOpH
namespace Go.Proofs.YtokklcfdfjgbjaaDoor
open Go.RowKit Go
set_option linter.unusedVariables false
set_option maxRecDepth 100000
theorem opZ_eq : opZ = .agg #[.int .u32 0, .string ByteArray.empty, .slice none 0 0, .slice none 0 0] := rfl
set_option maxHeartbeats 6400000 in
theorem back_walk (a : Nat) (l : ByteArray) (P : Option Addr) (pn pc : Nat) (pb : List UInt8) (D : Option Addr) (dn dc : Nat) (db : List UInt8) (A : Option Addr) (n c : Nat) (bs : List UInt8) (at_ : Int) (w : World) (ha : a < 4294967296) (hP : RB w P pn pb) (hD : RB w D dn db) (hR : RB w A n bs) (hnc : n ≤ c) (hc2 : c ≤ 9223372036854775807) (hT : Sizes w)
    (h1 : l.size ≤ 16384) (h2 : dn ≤ 65536) (h3 : pn ≤ 4096) (h4 : n ≤ 4096) (hat1 : -9223372036854775808 ≤ at_) (hat2 : at_ ≤ 9223372036854775807) (ok : Bool) (hok : l.data.toList.all letter = ok) :
    Calls Tryd.prog 5 #[.agg #[.int .u32 (a : Int), .string l, .slice P pn pc, .slice D dn dc], .slice A n c, .int .i64 at_] w fun e w' => e = .returned (.bool true) ∧ Below w.heap.size w w' := by
  have WK := Lib.hid (fun W (h : Sizes W) => works_any W h)
  have LN := Lib.hid (fun W => large_no a l P pn pc D dn dc W h1 h2)
  have d3 : decide (4096 < (pn : Int)) = false := decide_eq_false (by omega)
  have d4 : decide (4096 < (n : Int)) = false := decide_eq_false (by omega)
  have HPL := Lib.hid hP.1
  have HDL := Lib.hid hD.1
  have HSZ := Lib.hid (data_len l)
  have WY : Hid (ok = true → ∀ W, Sizes W → RB W P pn pb → RB W D dn db → Calls Tryd.prog 12 #[.agg #[.int .u32 (a : Int), .string l, .slice P pn pc, .slice D dn dc]] W (FreshE W (optB a l.data.toList pb db))) := fun h W hs hp hd => write_yes a l P pn pc pb D dn dc db W hs ha (by omega) hp hd (by omega) (by omega) (hok.trans h)
  have WN : Hid (ok = false → ∀ W, Calls Tryd.prog 12 #[.agg #[.int .u32 (a : Int), .string l, .slice P pn pc, .slice D dn dc]] W fun e w' => e = .returned (.tuple #[.slice none 0 0, .int .i64 1]) ∧ Below W.heap.size W w') := fun h W => write_no a l P pn pc D dn dc W (by omega) (by omega) (.inl (hok.trans h))
  have HB := Lib.hid (optB_len a l.data.toList pb db)
  have HQ : Hid (ok = true → readQ (optB a l.data.toList pb db) = some (a, l.data.toList, pb, db)) := fun h => readQ_optB a _ pb db ha (hok.trans h) (by rw [HPL.out]; omega)
  have HC : Hid (ok = true → ∀ j, j < 8 + 2 * l.size + pn → readQ ((optB a l.data.toList pb db).take j) = none) := fun h j hj => readQ_cut a _ pb db ha (hok.trans h) (by rw [HPL.out]; omega) j (by rw [HSZ.out, HPL.out]; exact hj)
  have SM := Lib.hid (fun (P' D' : Option Addr) (pn' pc' dn' dc' : Nat) W hp hp' hd hd' => same_yes a l P P' D D' pn pc pn' pc' dn dc dn' dc' pb db W hp hp' hd hd')
  have hst : strOf l.data.toList = l := strOf_eq l
  have HST := Lib.hid hst
  have RDB := Lib.hid (fun W (h : RB W A n bs) (hs : Sizes W) => oread_any A n c bs W h hnc hc2 (by omega) hs)
  have hrs := Lib.hid (fun x (h : readQ bs = some x) => readQ_some h)
  have HLB := Lib.hid hR.1
  generalize optB a l.data.toList pb db = ob at WY HB HQ HC
  generalize l.data.toList = ll at HB HQ HSZ HST hok
  clear hok hst
  cases ok with
  | false =>
    go_enter Tryd.func5, Tryd.ntmps5
    go_wp2_with fail
    refine calls_named fun w0 hw0 => ?_
    have hbw0 : Below w.heap.size w w0 := below_named hw0 ((Below.refl _ _).alloc (Nat.le_refl _) _)
    have k0 := heap_named hw0 (heap_alloc_new w _)
    have hs0 := hbw0.size
    clear hw0
    refine (LN.out w0).mono ?_
    intro e w1 hw1
    obtain ⟨rfl, hb1⟩ := hw1
    have hbw1 := hbw0.trans (hb1.mono hs0)
    have hs1 := hbw1.size
    have k1 := (hb1.block _ (heap_lt k0)).trans k0
    clear hb1 k0 hbw0 hs0
    obtain ⟨a0, a1, a2, a3⟩ := cells4 k1
    go_wp2_with fail
    refine (WN.out (by first | rfl | trivial) w1).mono ?_
    intro e w2 hw2
    obtain ⟨rfl, hb2⟩ := hw2
    have hbw2 := hbw1.trans (hb2.mono hs1)
    have hs2 := hbw2.size
    clear hb2 hbw1 hs1 k1 a0 a1 a2 a3
    go_wp2_with fail
    refine (RDB.out _ (hR.below hbw2) (hT.below' hbw2)).mono ?_
    intro e w20 hp20
    unfold ReadPost at hp20
    cases hrq : readQ bs with
    | none =>
      rw [hrq] at hp20
      simp only [opZ_eq] at hp20
      obtain ⟨rfl, hb20⟩ := hp20
      have hbw20 := hbw2.trans (hb20.mono hs2)
      have hs20 := hbw20.size
      clear hb20 hrq
      go_wp2_with fail
      refine (WK.out _ (hT.below' (hbw20.alloc hs20 _))).mono ?_
      intro e w9 hw9
      obtain ⟨rfl, hb9⟩ := hw9
      have hbw9 := (hbw20.alloc hs20 _).trans (hb9.mono (by simp; omega))
      clear hb9
      go_wp2
      go_ret
      exact ⟨rfl, hbw9⟩
    | some x =>
      rw [hrq] at hp20
      simp only at hp20
      obtain ⟨P2, pn2, pc2, D2, dn2, dc2, rfl, ownP2, ownD2, _, hb20⟩ := hp20
      obtain ⟨x1, x2, x3, x4, x5, x6⟩ := hrs.out x hrq
      have hbw20 := hbw2.trans (hb20.mono hs2)
      have hs20 := hbw20.size
      clear hb20 hrq
      obtain ⟨xa, xl, xp, xd⟩ := x
      simp only at x1 x2 x3 x4 x5 x6 ownP2 ownD2 ⊢
      have hxl : (strOf xl).size = xl.length := strOf_size xl
      have hpn2 := ownP2.len
      have hdn2 := ownD2.len
      have hlb := HLB.out
      have WR := fun W hs hp hd => write_yes xa (strOf xl) P2 pn2 pc2 xp D2 dn2 dc2 xd W hs x1 (by omega) hp hd (by omega) (by omega) (by rw [strOf_data]; exact x2)
      rw [strOf_data, x4] at WR
      have WR := Lib.hid WR
      have hRP := ownP2.rb
      have hRD := ownD2.rb
      clear x4 x2 hxl ownP2 ownD2 hpn2 hdn2 hlb x1 x3 x5 x6
      generalize strOf xl = xs at WR ⊢
      go_wp2_with fail
      refine (WR.out _ (hT.below' (hbw20.alloc hs20 _)) (hRP.alloc _) (hRD.alloc _)).mono ?_
      rintro e w21 ⟨A21, n21, c21, rfl, hown21, hb21⟩
      have hbw21 := (hbw20.alloc hs20 _).trans (hb21.mono (by simp; omega))
      have hs21 := hbw21.size
      clear hb21
      go_wp2_with fail
      refine (eq_any _ _ _ _ _ _ _ _ _ hown21.rb (hR.below hbw21)).mono ?_
      rintro e w' ⟨rfl, rfl⟩
      rw [show (bs == bs) = true from by simp]
      clear hown21
      go_wp2_with fail
      refine (WK.out _ (hT.below' hbw21)).mono ?_
      intro e w9 hw9
      obtain ⟨rfl, hb9⟩ := hw9
      have hbw9 := hbw21.trans (hb9.mono hs21)
      clear hb9
      go_wp2
      go_ret
      exact ⟨rfl, hbw9⟩
  | true =>
    have HQT := Lib.hid (HQ.out (by first | rfl | trivial))
    have HCT := Lib.hid (HC.out (by first | rfl | trivial))
    have WYT := Lib.hid (WY.out (by first | rfl | trivial))
    clear HQ HC WY WN
    have hmm : ∃ m, m = 8 + 2 * l.size + pn + dn := ⟨_, rfl⟩
    obtain ⟨m, hm⟩ := hmm
    have hob : ob.length = m := by rw [HB.out, HSZ.out, HPL.out, HDL.out, hm]
    have HOB := Lib.hid hob
    have hmd : (m : Int) - (dn : Int) = ((8 + 2 * l.size + pn : Nat) : Int) := by omega
    have HMD := Lib.hid hmd
    have hm9 : m ≤ 1000000 := by omega
    have hmd2 : dn ≤ m := by omega
    have HMM := Lib.hid hm
    generalize 8 + 2 * l.size + pn = hd at HCT HMD hmd
    have hhd : (hd : Int) = (m : Int) - (dn : Int) := by omega
    have HHD := Lib.hid hhd
    clear hob hmd hm hhd
    have hcs : at_ < 0 ∨ (0 ≤ at_ ∧ (m : Int) - (dn : Int) ≤ at_) ∨ (0 ≤ at_ ∧ at_ < (m : Int) - (dn : Int)) := by omega
    rcases hcs with hcs | ⟨hcs, hcs2⟩ | ⟨hcs, hcs2⟩
    · have g1 : decide (0 ≤ at_) = false := decide_eq_false (by omega)
      go_enter Tryd.func5, Tryd.ntmps5
      go_wp2_with fail
      refine calls_named fun w0 hw0 => ?_
      have hbw0 : Below w.heap.size w w0 := below_named hw0 ((Below.refl _ _).alloc (Nat.le_refl _) _)
      have k0 := heap_named hw0 (heap_alloc_new w _)
      have hs0 := hbw0.size
      clear hw0
      refine (LN.out w0).mono ?_
      intro e w1 hw1
      obtain ⟨rfl, hb1⟩ := hw1
      have hbw1 := hbw0.trans (hb1.mono hs0)
      have hs1 := hbw1.size
      have k1 := (hb1.block _ (heap_lt k0)).trans k0
      clear hb1 k0 hbw0 hs0
      obtain ⟨a0, a1, a2, a3⟩ := cells4 k1
      go_wp2_with fail
      refine (WYT.out w1 (hT.below' hbw1) (hP.below hbw1) (hD.below hbw1)).mono ?_
      rintro e w2 ⟨A2, n2, c2, rfl, hown2, hb2⟩
      obtain rfl : m = n2 := HOB.out.symm.trans hown2.len
      have hbw2 := hbw1.trans (hb2.mono hs1)
      have hs2 := hbw2.size
      have k2 := (hb2.block _ (heap_lt k1)).trans k1
      have hcp := hown2.cap
      unfold maxLen at hcp
      obtain ⟨hcp1, hcp2⟩ := hcp
      clear hb2 k1 hbw1 hs1 a0 a1 a2 a3
      go_wp2_with fail
      refine (oread_any A2 m c2 ob w2 hown2.rb hcp1 (by omega) hm9 (hT.below' hbw2)).mono ?_
      intro e w3 hp3
      simp only [ReadPost, HQT.out] at hp3
      obtain ⟨P3, pn3, pc3, D3, dn3, dc3, rfl, ownP3, ownD3, _, hb3⟩ := hp3
      rw [HST.out]
      have hbw3 := hbw2.trans (hb3.mono hs2)
      have hs3 := hbw3.size
      have k3 := (hb3.block _ (heap_lt k2)).trans k2
      have hown3 := hown2.below hb3 (Nat.le_refl _)
      have hRP := ownP3.rb
      have hRD := ownD3.rb
      have hlt3 := heap_lt k3
      clear hb3 k2 hbw2 hown2 ownP3 ownD3
      obtain ⟨a0, a1, a2, a3⟩ := cells4 k3
      go_wp2_with fail
      refine calls_named fun w4 hw4 => ?_
      have hbw4 : Below w.heap.size w w4 := below_named hw4 (hbw3.alloc hs3 _)
      have hs4 := hbw4.size
      have k4 := heap_named hw4 ((heap_alloc_old w3 _ hlt3).trans k3)
      have hown4 : OwnB w4 w1.heap.size A2 m c2 ob := hw4 ▸ hown3.alloc _
      have hRP4 : RB w4 P3 pn3 pb := hw4 ▸ hRP.alloc _
      have hRD4 : RB w4 D3 dn3 db := hw4 ▸ hRD.alloc _
      clear hw4 k3 hown3 hRP hRD a0 a1 a2 a3
      refine (SM.out _ _ _ _ _ _ _ (hP.below hbw4) hRP4 (hD.below hbw4) hRD4).mono ?_
      intro e w5 hw5
      obtain ⟨rfl, hb5⟩ := hw5
      have hbw5 := hbw4.trans (hb5.mono hs4)
      have hs5 := hbw5.size
      have k5 := (hb5.block _ (heap_lt k4)).trans k4
      have hown5 := hown4.below hb5 (Nat.le_refl _)
      clear hb5 k4 hbw4 hown4 hRP4 hRD4
      obtain ⟨a0, a1, a2, a3⟩ := cells4 k5
      go_wp2_with fail
      refine (RDB.out _ (hR.below hbw5) (hT.below' hbw5)).mono ?_
      intro e w20 hp20
      unfold ReadPost at hp20
      cases hrq : readQ bs with
      | none =>
        rw [hrq] at hp20
        simp only [opZ_eq] at hp20
        obtain ⟨rfl, hb20⟩ := hp20
        have hbw20 := hbw5.trans (hb20.mono hs5)
        have hs20 := hbw20.size
        clear hb20 hrq
        go_wp2_with fail
        refine (WK.out _ (hT.below' (hbw20.alloc hs20 _))).mono ?_
        intro e w9 hw9
        obtain ⟨rfl, hb9⟩ := hw9
        have hbw9 := (hbw20.alloc hs20 _).trans (hb9.mono (by simp; omega))
        clear hb9
        go_wp2
        go_ret
        exact ⟨rfl, hbw9⟩
      | some x =>
        rw [hrq] at hp20
        simp only at hp20
        obtain ⟨P2, pn2, pc2, D2, dn2, dc2, rfl, ownP2, ownD2, _, hb20⟩ := hp20
        obtain ⟨x1, x2, x3, x4, x5, x6⟩ := hrs.out x hrq
        have hbw20 := hbw5.trans (hb20.mono hs5)
        have hs20 := hbw20.size
        clear hb20 hrq
        obtain ⟨xa, xl, xp, xd⟩ := x
        simp only at x1 x2 x3 x4 x5 x6 ownP2 ownD2 ⊢
        have hxl : (strOf xl).size = xl.length := strOf_size xl
        have hpn2 := ownP2.len
        have hdn2 := ownD2.len
        have hlb := HLB.out
        have WR := fun W hs hp hd => write_yes xa (strOf xl) P2 pn2 pc2 xp D2 dn2 dc2 xd W hs x1 (by omega) hp hd (by omega) (by omega) (by rw [strOf_data]; exact x2)
        rw [strOf_data, x4] at WR
        have WR := Lib.hid WR
        have hRP := ownP2.rb
        have hRD := ownD2.rb
        clear x4 x2 hxl ownP2 ownD2 hpn2 hdn2 hlb x1 x3 x5 x6
        generalize strOf xl = xs at WR ⊢
        go_wp2_with fail
        refine (WR.out _ (hT.below' (hbw20.alloc hs20 _)) (hRP.alloc _) (hRD.alloc _)).mono ?_
        rintro e w21 ⟨A21, n21, c21, rfl, hown21, hb21⟩
        have hbw21 := (hbw20.alloc hs20 _).trans (hb21.mono (by simp; omega))
        have hs21 := hbw21.size
        clear hb21
        go_wp2_with fail
        refine (eq_any _ _ _ _ _ _ _ _ _ hown21.rb (hR.below hbw21)).mono ?_
        rintro e w' ⟨rfl, rfl⟩
        rw [show (bs == bs) = true from by simp]
        clear hown21
        go_wp2_with fail
        refine (WK.out _ (hT.below' hbw21)).mono ?_
        intro e w9 hw9
        obtain ⟨rfl, hb9⟩ := hw9
        have hbw9 := hbw21.trans (hb9.mono hs21)
        clear hb9
        go_wp2
        go_ret
        exact ⟨rfl, hbw9⟩
    · have g1 : decide (0 ≤ at_) = true := decide_eq_true (by omega)
      have g2 : decide (at_ < (m : Int) - (dn : Int)) = false := decide_eq_false (by omega)
      go_enter Tryd.func5, Tryd.ntmps5
      go_wp2_with fail
      refine calls_named fun w0 hw0 => ?_
      have hbw0 : Below w.heap.size w w0 := below_named hw0 ((Below.refl _ _).alloc (Nat.le_refl _) _)
      have k0 := heap_named hw0 (heap_alloc_new w _)
      have hs0 := hbw0.size
      clear hw0
      refine (LN.out w0).mono ?_
      intro e w1 hw1
      obtain ⟨rfl, hb1⟩ := hw1
      have hbw1 := hbw0.trans (hb1.mono hs0)
      have hs1 := hbw1.size
      have k1 := (hb1.block _ (heap_lt k0)).trans k0
      clear hb1 k0 hbw0 hs0
      obtain ⟨a0, a1, a2, a3⟩ := cells4 k1
      go_wp2_with fail
      refine (WYT.out w1 (hT.below' hbw1) (hP.below hbw1) (hD.below hbw1)).mono ?_
      rintro e w2 ⟨A2, n2, c2, rfl, hown2, hb2⟩
      obtain rfl : m = n2 := HOB.out.symm.trans hown2.len
      have hbw2 := hbw1.trans (hb2.mono hs1)
      have hs2 := hbw2.size
      have k2 := (hb2.block _ (heap_lt k1)).trans k1
      have hcp := hown2.cap
      unfold maxLen at hcp
      obtain ⟨hcp1, hcp2⟩ := hcp
      clear hb2 k1 hbw1 hs1 a0 a1 a2 a3
      go_wp2_with fail
      refine (oread_any A2 m c2 ob w2 hown2.rb hcp1 (by omega) hm9 (hT.below' hbw2)).mono ?_
      intro e w3 hp3
      simp only [ReadPost, HQT.out] at hp3
      obtain ⟨P3, pn3, pc3, D3, dn3, dc3, rfl, ownP3, ownD3, _, hb3⟩ := hp3
      rw [HST.out]
      have hbw3 := hbw2.trans (hb3.mono hs2)
      have hs3 := hbw3.size
      have k3 := (hb3.block _ (heap_lt k2)).trans k2
      have hown3 := hown2.below hb3 (Nat.le_refl _)
      have hRP := ownP3.rb
      have hRD := ownD3.rb
      have hlt3 := heap_lt k3
      clear hb3 k2 hbw2 hown2 ownP3 ownD3
      obtain ⟨a0, a1, a2, a3⟩ := cells4 k3
      go_wp2_with fail
      refine calls_named fun w4 hw4 => ?_
      have hbw4 : Below w.heap.size w w4 := below_named hw4 (hbw3.alloc hs3 _)
      have hs4 := hbw4.size
      have k4 := heap_named hw4 ((heap_alloc_old w3 _ hlt3).trans k3)
      have hown4 : OwnB w4 w1.heap.size A2 m c2 ob := hw4 ▸ hown3.alloc _
      have hRP4 : RB w4 P3 pn3 pb := hw4 ▸ hRP.alloc _
      have hRD4 : RB w4 D3 dn3 db := hw4 ▸ hRD.alloc _
      clear hw4 k3 hown3 hRP hRD a0 a1 a2 a3
      refine (SM.out _ _ _ _ _ _ _ (hP.below hbw4) hRP4 (hD.below hbw4) hRD4).mono ?_
      intro e w5 hw5
      obtain ⟨rfl, hb5⟩ := hw5
      have hbw5 := hbw4.trans (hb5.mono hs4)
      have hs5 := hbw5.size
      have k5 := (hb5.block _ (heap_lt k4)).trans k4
      have hown5 := hown4.below hb5 (Nat.le_refl _)
      clear hb5 k4 hbw4 hown4 hRP4 hRD4
      obtain ⟨a0, a1, a2, a3⟩ := cells4 k5
      go_wp2_with fail
      refine (RDB.out _ (hR.below hbw5) (hT.below' hbw5)).mono ?_
      intro e w20 hp20
      unfold ReadPost at hp20
      cases hrq : readQ bs with
      | none =>
        rw [hrq] at hp20
        simp only [opZ_eq] at hp20
        obtain ⟨rfl, hb20⟩ := hp20
        have hbw20 := hbw5.trans (hb20.mono hs5)
        have hs20 := hbw20.size
        clear hb20 hrq
        go_wp2_with fail
        refine (WK.out _ (hT.below' (hbw20.alloc hs20 _))).mono ?_
        intro e w9 hw9
        obtain ⟨rfl, hb9⟩ := hw9
        have hbw9 := (hbw20.alloc hs20 _).trans (hb9.mono (by simp; omega))
        clear hb9
        go_wp2
        go_ret
        exact ⟨rfl, hbw9⟩
      | some x =>
        rw [hrq] at hp20
        simp only at hp20
        obtain ⟨P2, pn2, pc2, D2, dn2, dc2, rfl, ownP2, ownD2, _, hb20⟩ := hp20
        obtain ⟨x1, x2, x3, x4, x5, x6⟩ := hrs.out x hrq
        have hbw20 := hbw5.trans (hb20.mono hs5)
        have hs20 := hbw20.size
        clear hb20 hrq
        obtain ⟨xa, xl, xp, xd⟩ := x
        simp only at x1 x2 x3 x4 x5 x6 ownP2 ownD2 ⊢
        have hxl : (strOf xl).size = xl.length := strOf_size xl
        have hpn2 := ownP2.len
        have hdn2 := ownD2.len
        have hlb := HLB.out
        have WR := fun W hs hp hd => write_yes xa (strOf xl) P2 pn2 pc2 xp D2 dn2 dc2 xd W hs x1 (by omega) hp hd (by omega) (by omega) (by rw [strOf_data]; exact x2)
        rw [strOf_data, x4] at WR
        have WR := Lib.hid WR
        have hRP := ownP2.rb
        have hRD := ownD2.rb
        clear x4 x2 hxl ownP2 ownD2 hpn2 hdn2 hlb x1 x3 x5 x6
        generalize strOf xl = xs at WR ⊢
        go_wp2_with fail
        refine (WR.out _ (hT.below' (hbw20.alloc hs20 _)) (hRP.alloc _) (hRD.alloc _)).mono ?_
        rintro e w21 ⟨A21, n21, c21, rfl, hown21, hb21⟩
        have hbw21 := (hbw20.alloc hs20 _).trans (hb21.mono (by simp; omega))
        have hs21 := hbw21.size
        clear hb21
        go_wp2_with fail
        refine (eq_any _ _ _ _ _ _ _ _ _ hown21.rb (hR.below hbw21)).mono ?_
        rintro e w' ⟨rfl, rfl⟩
        rw [show (bs == bs) = true from by simp]
        clear hown21
        go_wp2_with fail
        refine (WK.out _ (hT.below' hbw21)).mono ?_
        intro e w9 hw9
        obtain ⟨rfl, hb9⟩ := hw9
        have hbw9 := hbw21.trans (hb9.mono hs21)
        clear hb9
        go_wp2
        go_ret
        exact ⟨rfl, hbw9⟩
    · have g1 : decide (0 ≤ at_) = true := decide_eq_true (by omega)
      have g2 : decide (at_ < (m : Int) - (dn : Int)) = true := decide_eq_true (by omega)
      obtain ⟨j, rfl⟩ : ∃ j : Nat, at_ = (j : Int) := ⟨at_.toNat, by omega⟩
      have hjm : j ≤ m := by omega
      have hjq : readQ (ob.take j) = none := HCT.out j (by have := HHD.out; omega)
      have HJQ := Lib.hid hjq
      clear hjq
      go_enter Tryd.func5, Tryd.ntmps5
      go_wp2_with fail
      refine calls_named fun w0 hw0 => ?_
      have hbw0 : Below w.heap.size w w0 := below_named hw0 ((Below.refl _ _).alloc (Nat.le_refl _) _)
      have k0 := heap_named hw0 (heap_alloc_new w _)
      have hs0 := hbw0.size
      clear hw0
      refine (LN.out w0).mono ?_
      intro e w1 hw1
      obtain ⟨rfl, hb1⟩ := hw1
      have hbw1 := hbw0.trans (hb1.mono hs0)
      have hs1 := hbw1.size
      have k1 := (hb1.block _ (heap_lt k0)).trans k0
      clear hb1 k0 hbw0 hs0
      obtain ⟨a0, a1, a2, a3⟩ := cells4 k1
      go_wp2_with fail
      refine (WYT.out w1 (hT.below' hbw1) (hP.below hbw1) (hD.below hbw1)).mono ?_
      rintro e w2 ⟨A2, n2, c2, rfl, hown2, hb2⟩
      obtain rfl : m = n2 := HOB.out.symm.trans hown2.len
      have hbw2 := hbw1.trans (hb2.mono hs1)
      have hs2 := hbw2.size
      have k2 := (hb2.block _ (heap_lt k1)).trans k1
      have hcp := hown2.cap
      unfold maxLen at hcp
      obtain ⟨hcp1, hcp2⟩ := hcp
      clear hb2 k1 hbw1 hs1 a0 a1 a2 a3
      go_wp2_with fail
      refine (oread_any A2 m c2 ob w2 hown2.rb hcp1 (by omega) hm9 (hT.below' hbw2)).mono ?_
      intro e w3 hp3
      simp only [ReadPost, HQT.out] at hp3
      obtain ⟨P3, pn3, pc3, D3, dn3, dc3, rfl, ownP3, ownD3, _, hb3⟩ := hp3
      rw [HST.out]
      have hbw3 := hbw2.trans (hb3.mono hs2)
      have hs3 := hbw3.size
      have k3 := (hb3.block _ (heap_lt k2)).trans k2
      have hown3 := hown2.below hb3 (Nat.le_refl _)
      have hRP := ownP3.rb
      have hRD := ownD3.rb
      have hlt3 := heap_lt k3
      clear hb3 k2 hbw2 hown2 ownP3 ownD3
      obtain ⟨a0, a1, a2, a3⟩ := cells4 k3
      go_wp2_with fail
      refine calls_named fun w4 hw4 => ?_
      have hbw4 : Below w.heap.size w w4 := below_named hw4 (hbw3.alloc hs3 _)
      have hs4 := hbw4.size
      have k4 := heap_named hw4 ((heap_alloc_old w3 _ hlt3).trans k3)
      have hown4 : OwnB w4 w1.heap.size A2 m c2 ob := hw4 ▸ hown3.alloc _
      have hRP4 : RB w4 P3 pn3 pb := hw4 ▸ hRP.alloc _
      have hRD4 : RB w4 D3 dn3 db := hw4 ▸ hRD.alloc _
      clear hw4 k3 hown3 hRP hRD a0 a1 a2 a3
      refine (SM.out _ _ _ _ _ _ _ (hP.below hbw4) hRP4 (hD.below hbw4) hRD4).mono ?_
      intro e w5 hw5
      obtain ⟨rfl, hb5⟩ := hw5
      have hbw5 := hbw4.trans (hb5.mono hs4)
      have hs5 := hbw5.size
      have k5 := (hb5.block _ (heap_lt k4)).trans k4
      have hown5 := hown4.below hb5 (Nat.le_refl _)
      clear hb5 k4 hbw4 hown4 hRP4 hRD4
      obtain ⟨a0, a1, a2, a3⟩ := cells4 k5
      have hjl : (ob.take j).length = j := by rw [List.length_take, HOB.out]; omega
      have hrj : RB w5 A2 j (ob.take j) := ⟨hjl, hown5.reads.take_ j⟩
      have hjc : (j : Int) ≤ (c2 : Int) := by omega
      clear hjl
      go_wp2_with fail
      refine (oread_any A2 j c2 (ob.take j) w5 hrj (by omega) (by omega) (by omega) (hT.below' hbw5)).mono ?_
      intro e w6 hp6
      simp only [ReadPost, HJQ.out, opZ_eq] at hp6
      obtain ⟨rfl, hb6⟩ := hp6
      have hbw6 := hbw5.trans (hb6.mono hs5)
      have hs6 := hbw6.size
      clear hb6 hrj hown5 k5 a0 a1 a2 a3
      go_wp2_with fail
      refine (RDB.out _ (hR.below hbw6) (hT.below' hbw6)).mono ?_
      intro e w20 hp20
      unfold ReadPost at hp20
      cases hrq : readQ bs with
      | none =>
        rw [hrq] at hp20
        simp only [opZ_eq] at hp20
        obtain ⟨rfl, hb20⟩ := hp20
        have hbw20 := hbw6.trans (hb20.mono hs6)
        have hs20 := hbw20.size
        clear hb20 hrq
        go_wp2_with fail
        refine (WK.out _ (hT.below' (hbw20.alloc hs20 _))).mono ?_
        intro e w9 hw9
        obtain ⟨rfl, hb9⟩ := hw9
        have hbw9 := (hbw20.alloc hs20 _).trans (hb9.mono (by simp; omega))
        clear hb9
        go_wp2
        go_ret
        exact ⟨rfl, hbw9⟩
      | some x =>
        rw [hrq] at hp20
        simp only at hp20
        obtain ⟨P2, pn2, pc2, D2, dn2, dc2, rfl, ownP2, ownD2, _, hb20⟩ := hp20
        obtain ⟨x1, x2, x3, x4, x5, x6⟩ := hrs.out x hrq
        have hbw20 := hbw6.trans (hb20.mono hs6)
        have hs20 := hbw20.size
        clear hb20 hrq
        obtain ⟨xa, xl, xp, xd⟩ := x
        simp only at x1 x2 x3 x4 x5 x6 ownP2 ownD2 ⊢
        have hxl : (strOf xl).size = xl.length := strOf_size xl
        have hpn2 := ownP2.len
        have hdn2 := ownD2.len
        have hlb := HLB.out
        have WR := fun W hs hp hd => write_yes xa (strOf xl) P2 pn2 pc2 xp D2 dn2 dc2 xd W hs x1 (by omega) hp hd (by omega) (by omega) (by rw [strOf_data]; exact x2)
        rw [strOf_data, x4] at WR
        have WR := Lib.hid WR
        have hRP := ownP2.rb
        have hRD := ownD2.rb
        clear x4 x2 hxl ownP2 ownD2 hpn2 hdn2 hlb x1 x3 x5 x6
        generalize strOf xl = xs at WR ⊢
        go_wp2_with fail
        refine (WR.out _ (hT.below' (hbw20.alloc hs20 _)) (hRP.alloc _) (hRD.alloc _)).mono ?_
        rintro e w21 ⟨A21, n21, c21, rfl, hown21, hb21⟩
        have hbw21 := (hbw20.alloc hs20 _).trans (hb21.mono (by simp; omega))
        have hs21 := hbw21.size
        clear hb21
        go_wp2_with fail
        refine (eq_any _ _ _ _ _ _ _ _ _ hown21.rb (hR.below hbw21)).mono ?_
        rintro e w' ⟨rfl, rfl⟩
        rw [show (bs == bs) = true from by simp]
        clear hown21
        go_wp2_with fail
        refine (WK.out _ (hT.below' hbw21)).mono ?_
        intro e w9 hw9
        obtain ⟨rfl, hb9⟩ := hw9
        have hbw9 := hbw21.trans (hb9.mono hs21)
        clear hb9
        go_wp2
        go_ret
        exact ⟨rfl, hbw9⟩
theorem back_row (o : Opt) (A : Option Addr) (n c : Nat) (bs : List UInt8) (at_ : Int) (w : World) (hI : IsOpt w o) (hb : IsBs w A n c bs) (hw : (Lit.int .i64 at_).wf = true) (hT : Sizes w) :
    Calls Tryd.prog 5 #[opV o, .slice A n c, .int .i64 at_] w fun e w' => e = .returned (.bool true) ∧ Below w.heap.size w w' := by
  obtain ⟨a, l, P, pn, pc, pb, D, dn, dc, db⟩ := o
  obtain ⟨ha, hl, hp, hd⟩ := hI
  unfold opV Opt.cells
  simp only at *
  have hl9 := hl
  have hp1 := hp.le
  have hp2 := hp.max
  have hd1 := hd.le
  have hd2 := hd.max
  have hb1 := hb.le
  have hb2 := hb.max
  unfold maxLen at hl9 hp2 hd2 hb2
  have WK := Lib.hid (fun W (h : Sizes W) => works_any W h)
  by_cases hbig : 16384 < l.size ∨ 65536 < dn
  · have LG := Lib.hid (fun W => large_yes a l P pn pc D dn dc W hbig (by omega) (by omega))
    clear hbig hb1
    go_enter Tryd.func5, Tryd.ntmps5
    go_wp2_with fail
    refine calls_named fun w0 hw0 => ?_
    have hbw0 : Below w.heap.size w w0 := below_named hw0 ((Below.refl _ _).alloc (Nat.le_refl _) _)
    have k0 := heap_named hw0 (heap_alloc_new w _)
    have hs0 := hbw0.size
    clear hw0
    refine (LG.out w0).mono ?_
    intro e w1 hw1
    obtain ⟨rfl, hb1⟩ := hw1
    have hbw1 := hbw0.trans (hb1.mono hs0)
    have hs1 := hbw1.size
    have k1 := (hb1.block _ (heap_lt k0)).trans k0
    clear hb1 k0 hbw0 hs0
    obtain ⟨a0, a1, a2, a3⟩ := cells4 k1
    go_wp2_with fail
    refine (WK.out _ (hT.below' hbw1)).mono ?_
    intro e w9 hw9
    obtain ⟨rfl, hb9⟩ := hw9
    have hbw9 := hbw1.trans (hb9.mono hs1)
    clear hb9
    go_wp2
    go_ret
    exact ⟨rfl, hbw9⟩
  · by_cases h3 : pn ≤ 4096
    · by_cases h4 : n ≤ 4096
      · obtain ⟨b1, b2⟩ := bounds_i64 hw
        exact back_walk a l P pn pc pb D dn dc db A n c bs at_ w ha hp.rb hd.rb hb.rb hb1 (by omega) hT (by omega) (by omega) h3 h4 b1 b2 _ rfl
      · have LG := Lib.hid (fun W => large_no a l P pn pc D dn dc W (by omega) (by omega))
        have d3 : decide (4096 < (pn : Int)) = false := decide_eq_false (by omega)
        have d4 : decide (4096 < (n : Int)) = true := decide_eq_true (by omega)
        clear hb1
        go_enter Tryd.func5, Tryd.ntmps5
        go_wp2_with fail
        refine calls_named fun w0 hw0 => ?_
        have hbw0 : Below w.heap.size w w0 := below_named hw0 ((Below.refl _ _).alloc (Nat.le_refl _) _)
        have k0 := heap_named hw0 (heap_alloc_new w _)
        have hs0 := hbw0.size
        clear hw0
        refine (LG.out w0).mono ?_
        intro e w1 hw1
        obtain ⟨rfl, hb1⟩ := hw1
        have hbw1 := hbw0.trans (hb1.mono hs0)
        have hs1 := hbw1.size
        have k1 := (hb1.block _ (heap_lt k0)).trans k0
        clear hb1 k0 hbw0 hs0
        obtain ⟨a0, a1, a2, a3⟩ := cells4 k1
        go_wp2_with fail
        refine (WK.out _ (hT.below' hbw1)).mono ?_
        intro e w9 hw9
        obtain ⟨rfl, hb9⟩ := hw9
        have hbw9 := hbw1.trans (hb9.mono hs1)
        clear hb9
        go_wp2
        go_ret
        exact ⟨rfl, hbw9⟩
    · have LG := Lib.hid (fun W => large_no a l P pn pc D dn dc W (by omega) (by omega))
      have d3 : decide (4096 < (pn : Int)) = true := decide_eq_true (by omega)
      clear hb1
      go_enter Tryd.func5, Tryd.ntmps5
      go_wp2_with fail
      refine calls_named fun w0 hw0 => ?_
      have hbw0 : Below w.heap.size w w0 := below_named hw0 ((Below.refl _ _).alloc (Nat.le_refl _) _)
      have k0 := heap_named hw0 (heap_alloc_new w _)
      have hs0 := hbw0.size
      clear hw0
      refine (LG.out w0).mono ?_
      intro e w1 hw1
      obtain ⟨rfl, hb1⟩ := hw1
      have hbw1 := hbw0.trans (hb1.mono hs0)
      have hs1 := hbw1.size
      have k1 := (hb1.block _ (heap_lt k0)).trans k0
      clear hb1 k0 hbw0 hs0
      obtain ⟨a0, a1, a2, a3⟩ := cells4 k1
      go_wp2_with fail
      refine (WK.out _ (hT.below' hbw1)).mono ?_
      intro e w9 hw9
      obtain ⟨rfl, hb9⟩ := hw9
      have hbw9 := hbw1.trans (hb9.mono hs1)
      clear hb9
      go_wp2
      go_ret
      exact ⟨rfl, hbw9⟩
end Go.Proofs.YtokklcfdfjgbjaaDoor
