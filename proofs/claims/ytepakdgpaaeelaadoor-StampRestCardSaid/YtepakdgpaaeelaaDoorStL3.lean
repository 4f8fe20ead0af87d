/-
  stamp: the statement on the rest of a moment's bytes.
-/
import Derived.Test.YtepakdgpaaeelaaDoorStM
namespace Go.Proofs.YtepakdgpaaeelaaDoor
open Go.RowKit Go
set_option linter.unusedVariables false
set_option maxRecDepth 100000
theorem mod9 (a : UInt8) : (a.toNat : Int).tmod 9 = ((a.toNat % 9 : Nat) : Int) := by
  rw [Int.tmod_eq_emod_of_nonneg (by omega)]; omega
set_option maxHeartbeats 1600000 in
theorem rest_row (t : Tm) (at_ z : Int) (w : World) (ht : IsTm w t) (ha : (Lit.int .u8 at_).wf = true) (hz : (Lit.int .u8 z).wf = true) (hT : Sizes w) :
    Calls Tryd.prog 12 #[tmV t, .int .u8 at_, .int .u8 z] w fun e w' => e = .returned (.bool true) ∧ Below w.heap.size w w' := by
  obtain ⟨x, rfl⟩ : ∃ x : UInt8, z = (x.toNat : Int) := ⟨UInt8.ofNat z.toNat, (byte_of_wf hz).symm⟩
  obtain ⟨a, rfl⟩ : ∃ x : UInt8, at_ = (x.toNat : Int) := ⟨UInt8.ofNat at_.toNat, (byte_of_wf ha).symm⟩
  have hy : t.y < 65536 := ht
  have WK := Lib.hid (fun W (h : Sizes W) => works_any W h)
  have RT := Lib.hid (fun W => right_any t W hy)
  cases hr : rightB t with
  | false =>
    rw [hr] at RT
    clear hr
    unfold tmV Tm.cells at *
    obtain ⟨yt_, mot_, dt_, ht_, mit_, st_⟩ := t
    simp only at *
    go_enter Tryd.func12, Tryd.ntmps12
    go_wp2_with fail
    refine (RT.out _).mono ?_
    intro e w1 hw1
    obtain ⟨rfl, hb1⟩ := hw1
    have hbw1 : Below w.heap.size w w1 := ((Below.refl _ _).alloc (Nat.le_refl _) _).trans (hb1.mono (by simp))
    clear hb1
    go_wp2_with fail
    refine (WK.out _ (hT.below' hbw1)).mono ?_
    intro e w9 hw9
    obtain ⟨rfl, hb9⟩ := hw9
    go_wp2
    go_ret
    exact ⟨rfl, hbw1.trans (hb9.mono hbw1.size)⟩
  | true =>
    rw [hr] at RT
    have hk : a.toNat % 9 < 9 := Nat.mod_lt _ (by omega)
    have hrd : readO (tmB t) = some t := by rw [readO_tmB t hy, if_pos (.inl hr)]
    have WR := Lib.hid (fun W (h : Sizes W) => write_any t W h hy)
    have HM := Lib.hid (mod9 a)
    have hset := readO_set t (a.toNat % 9) hk x
    have hset0 := set_same0 t (a.toNat % 9) hk
    have CMP : Hid (∀ W, (Op.equalIn 10000 25 (.agg t.cells) (.agg t.cells)).run Tryd.prog W = .ok true W) := fun W => by rw [tm_same t t W 9998]; simp
    obtain ⟨k, hkk⟩ : ∃ k, k = a.toNat % 9 := ⟨_, rfl⟩
    rw [← hkk] at hk hset hset0 HM
    have ea : (a.toNat : Int).tmod 9 = (k : Int) := HM.out
    have HL := Lib.hid (tmB_len t)
    have hset2 : ∀ k u, ((tmB t).set k u).length = 16 := fun k u => by rw [List.length_set, HL.out]
    have HS2 := Lib.hid hset2
    clear hset2 hkk
    generalize tmB t = bs at hrd WR hset hset0 HL HS2
    unfold tmV Tm.cells at *
    obtain ⟨yt_, mot_, dt_, ht_, mit_, st_⟩ := t
    simp only at *
    clear hr
    have HRD := Lib.hid hrd
    have HSET := Lib.hid hset
    have HSET0 := Lib.hid hset0
    have hk2 : (k : Int) < 9 := by omega
    have hk3 : (0 : Int) ≤ (k : Int) := by omega
    clear hrd hset hset0 HM
    go_enter Tryd.func12, Tryd.ntmps12
    go_wp2_with fail
    refine (RT.out _).mono ?_
    intro e w1 hw1
    obtain ⟨rfl, hb1⟩ := hw1
    have hbw1 : Below w.heap.size w w1 := ((Below.refl _ _).alloc (Nat.le_refl _) _).trans (hb1.mono (by simp))
    have ka := (hb1.block w.heap.size (by simp)).trans (heap_alloc_new w _)
    have hz1 : w.heap.size < w1.heap.size := by have := hb1.size; simp at this; omega
    have hs1 := hbw1.size
    obtain ⟨ca0, ca1, ca2, ca3, ca4, ca5⟩ := tm_cells ka
    clear hb1
    go_wp2_with fail
    refine (WR.out _ (hT.below' hbw1)).mono ?_
    rintro e w2 ⟨A2, n2, c2, rfl, hown2, hb2⟩
    obtain rfl : 16 = n2 := HL.out.symm.trans hown2.len
    have hc2 := hown2.cap
    unfold maxLen at hc2
    have hbw2 := hbw1.trans (hb2.mono hs1)
    have hs2 := hbw2.size
    have kb := (hb2.block w.heap.size (by omega)).trans ka
    have hz2 : w.heap.size < w2.heap.size := Nat.lt_of_lt_of_le hz1 hb2.size
    obtain ⟨g, rfl, hg1, hg2⟩ := hown2.shape (by omega)
    obtain ⟨q, hq⟩ : ∃ q, bs[7 + k]? = some q := ⟨_, List.getElem?_eq_getElem (by rw [HL.out]; omega)⟩
    have hcell := hown2.cellAt (7 + k) q hq
    have hfree := hown2.free (7 + k)
    have hst := hown2.stored (7 + k) x
    have HST := Lib.hid hst
    have HRB := Lib.hid hst.rb
    have HQ := Lib.hid hq
    clear hb2 ka ca0 ca1 ca2 ca3 ca4 ca5 hst hq hown2
    have hxb := x.toNat_lt
    have hbw3 : Below w.heap.size w (w2.setCell ⟨g, 7 + k, none⟩ (.int .u8 (x.toNat : Int))) := hbw2.setCell (by show w.heap.size ≤ g; omega) _
    have kc := (heap_setCell_other w2 ⟨g, 7 + k, none⟩ w.heap.size (.int .u8 (x.toNat : Int)) (by show w.heap.size ≠ g; omega)).trans kb
    have RD := sread_any (some ⟨g, 0, none⟩) 16 c2 (bs.set (7 + k) x) _ HRB.out hc2.1 (by omega) (hT.below' hbw3)
    have hs3 := hbw3.size
    have hz3 : w.heap.size < (w2.setCell ⟨g, 7 + k, none⟩ (.int .u8 (x.toNat : Int))).heap.size := by rw [World.size_setCell]; exact hz2
    by_cases hx0 : x = 0
    · have e1 : readV (readO (bs.set (7 + k) x)) = .tuple #[.agg #[.int .u16 (yt_ : Int), .int .u8 (mot_.toNat : Int), .int .u8 (dt_.toNat : Int), .int .u8 (ht_.toNat : Int), .int .u8 (mit_.toNat : Int), .int .u8 (st_.toNat : Int)], .int .i64 0] := by rw [hx0, HSET0.out, HRD.out]; rfl
      rw [e1] at RD
      have RD := Lib.hid RD
      have x1 : ((x.toNat : Int) == 0) = true := by rw [hx0]; rfl
      have x2 : ((x.toNat : Int) != 0) = false := by rw [hx0]; rfl
      clear hx0 e1 kb
      go_wp2_with fail
      refine RD.out.mono ?_
      intro e w4 hw4
      obtain ⟨rfl, hb4⟩ := hw4
      have hbw4 := hbw3.trans (hb4.mono hs3)
      have kd := (hb4.block w.heap.size hz3).trans kc
      have hz4 : w.heap.size < w4.heap.size := Nat.lt_of_lt_of_le hz3 hb4.size
      have hs4 := hbw4.size
      clear hb4 kc
      obtain ⟨cd0, cd1, cd2, cd3, cd4, cd5⟩ := tm_cells kd
      have cmp := CMP.out
      go_wp2_with fail
      refine (WK.out _ (hT.below' (hbw4.alloc hs4 _))).mono ?_
      intro e w9 hw9
      obtain ⟨rfl, hb9⟩ := hw9
      have hbw9 := (hbw4.alloc hs4 _).trans (hb9.mono (by simp; omega))
      clear hb9
      go_wp2
      go_ret
      exact ⟨rfl, hbw9⟩
    · have e1 : readV (readO (bs.set (7 + k) x)) = .tuple #[.agg #[.int .u16 0, .int .u8 0, .int .u8 0, .int .u8 0, .int .u8 0, .int .u8 0], .int .i64 9] := by rw [HSET.out hx0]; rfl
      rw [e1] at RD
      have RD := Lib.hid RD
      have hx1 : x.toNat ≠ 0 := fun e => hx0 (UInt8.toNat_inj.1 (by rw [e]; rfl))
      have x1 : ((x.toNat : Int) == 0) = false := beq_eq_false_iff_ne.2 (by omega)
      have x2 : ((x.toNat : Int) != 0) = true := by rw [bne_iff_ne]; omega
      clear hx0 e1 kb hx1
      go_wp2_with fail
      refine RD.out.mono ?_
      intro e w4 hw4
      obtain ⟨rfl, hb4⟩ := hw4
      have hbw4 := hbw3.trans (hb4.mono hs3)
      have hs4 := hbw4.size
      clear hb4 kc
      go_wp2_with fail
      refine (WK.out _ (hT.below' (hbw4.alloc hs4 _))).mono ?_
      intro e w9 hw9
      obtain ⟨rfl, hb9⟩ := hw9
      have hbw9 := (hbw4.alloc hs4 _).trans (hb9.mono (by simp; omega))
      clear hb9
      go_wp2
      go_ret
      exact ⟨rfl, hbw9⟩
end Go.Proofs.YtepakdgpaaeelaaDoor
