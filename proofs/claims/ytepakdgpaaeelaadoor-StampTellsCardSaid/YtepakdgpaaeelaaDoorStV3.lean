/-
  stamp: the document's answers of Utc and General, of any bytes.
-/
import Derived.Test.YtepakdgpaaeelaaDoorStV2
import Derived.Test.YtepakdgpaaeelaaDoorStQ
namespace Go.Proofs.YtepakdgpaaeelaaDoor
open Go.RowKit Go
set_option linter.unusedVariables false
set_option maxRecDepth 100000
theorem opt_none : optV none = .tuple #[.agg #[.int .u16 0, .int .u8 0, .int .u8 0, .int .u8 0, .int .u8 0, .int .u8 0], .bool false] := rfl
theorem opt_some (u : Tm) : optV (some u) = .tuple #[tmV u, .bool true] := rfl
theorem two_pairN (bs : List UInt8) (k : Nat) : (twoN bs k = 100 ∧ pairAt bs k = -1) ∨ (twoN bs k < 100 ∧ pairAt bs k = ((twoN bs k : Nat) : Int)) := two_pair _ _
theorem u8_small (n : Nat) (h : n ≤ 100) : (UInt8.ofNat n).toNat = n := by rw [UInt8.toNat_ofNat']; omega
theorem right_fields {t : Tm} (h : t.mo.toNat = 100 ∨ t.d.toNat = 100 ∨ t.h.toNat = 100 ∨ t.mi.toNat = 100 ∨ t.s.toNat = 100) : rightB t = false := by
  refine decide_eq_false fun hh => ?_
  have := daysN_le t.y t.mo.toNat
  omega
theorem mom_nums (y : Nat) (bs : List UInt8) (h : bs[10]? = some 90) : momO y bs = numsO (y : Int) (pairAt bs 0) (pairAt bs 2) (pairAt bs 4) (pairAt bs 6) (pairAt bs 8) := by
  unfold momO
  rw [if_pos h]
  have hbad : (twoN bs 0 = 100 ∨ twoN bs 2 = 100 ∨ twoN bs 4 = 100 ∨ twoN bs 6 = 100 ∨ twoN bs 8 = 100) → rightO (momT y bs) = none := fun hb => by
    unfold rightO
    rw [right_fields]
    · rfl
    · unfold momT
      simp only
      rcases hb with e | e | e | e | e
      · exact .inl (by rw [e]; rfl)
      · exact .inr (.inl (by rw [e]; rfl))
      · exact .inr (.inr (.inl (by rw [e]; rfl)))
      · exact .inr (.inr (.inr (.inl (by rw [e]; rfl))))
      · exact .inr (.inr (.inr (.inr (by rw [e]; rfl))))
  rcases two_pairN bs 0 with ⟨a0, p0⟩ | ⟨a0, p0⟩
  · rw [hbad (.inl a0), numsO_bad (by omega)]
  rcases two_pairN bs 2 with ⟨a1, p1⟩ | ⟨a1, p1⟩
  · rw [hbad (.inr (.inl a1)), numsO_bad (by omega)]
  rcases two_pairN bs 4 with ⟨a2, p2⟩ | ⟨a2, p2⟩
  · rw [hbad (.inr (.inr (.inl a2))), numsO_bad (by omega)]
  rcases two_pairN bs 6 with ⟨a3, p3⟩ | ⟨a3, p3⟩
  · rw [hbad (.inr (.inr (.inr (.inl a3)))), numsO_bad (by omega)]
  rcases two_pairN bs 8 with ⟨a4, p4⟩ | ⟨a4, p4⟩
  · rw [hbad (.inr (.inr (.inr (.inr a4)))), numsO_bad (by omega)]
  unfold numsO
  rw [p0, p1, p2, p3, p4, if_pos (by omega)]
  rfl
theorem mom_noZ (y : Nat) (bs : List UInt8) (h : bs[10]? ≠ some 90) : momO y bs = none := if_neg h
def yr2 (n : Nat) : Nat := if n < 50 then 2000 + n else 1900 + n
theorem utcO_mom (bs : List UInt8) (hl : bs.length = 13) : utcO bs = if twoN bs 0 = 100 then none else momO (yr2 (twoN bs 0)) (bs.drop 2) := by
  unfold utcO
  by_cases hz : bs[12]? = some 90
  · rw [if_pos ⟨hl, hz⟩]
    rcases two_pairN bs 0 with ⟨a, p⟩ | ⟨a, p⟩
    · rw [if_pos a, p]
      exact numsO_bad (.inl (by unfold yearU; rw [if_pos (by omega)]; omega))
    · rw [if_neg (by omega), mom_nums _ _ (by rw [List.getElem?_drop]; exact hz), p]
      simp only [drop_pairs]
      have e : yearU ((twoN bs 0 : Nat) : Int) = ((yr2 (twoN bs 0) : Nat) : Int) := by
        unfold yearU yr2
        rw [if_neg (by omega)]
        by_cases q : twoN bs 0 < 50
        · rw [if_pos (by omega), if_pos q]; omega
        · rw [if_neg (by omega), if_neg q]; omega
      rw [e]
  · rw [if_neg (fun h => hz h.2)]
    split
    · rfl
    · rw [mom_noZ _ _ (by rw [List.getElem?_drop]; exact hz)]
theorem drop4_pairs (bs : List UInt8) (k : Nat) : pairAt (bs.drop 4) k = pairAt bs (4 + k) := by
  unfold pairAt
  simp only [List.getD_eq_getElem?_getD, List.getElem?_drop, Nat.add_assoc]
theorem genO_mom (bs : List UInt8) (hl : bs.length = 15) : genO bs = if twoN bs 0 = 100 ∨ twoN bs 2 = 100 then none else momO (100 * twoN bs 0 + twoN bs 2) (bs.drop 4) := by
  unfold genO
  by_cases hz : bs[14]? = some 90
  · rw [if_pos ⟨hl, hz⟩]
    rcases two_pairN bs 0 with ⟨a, p⟩ | ⟨a, p⟩
    · rw [if_pos (.inl a), p]
      exact numsO_bad (.inl (yearG_bad (.inl rfl)))
    rcases two_pairN bs 2 with ⟨a', p'⟩ | ⟨a', p'⟩
    · rw [if_pos (.inr a'), p']
      exact numsO_bad (.inl (yearG_bad (.inr rfl)))
    · rw [if_neg (by omega), mom_nums _ _ (by rw [List.getElem?_drop]; exact hz), p, p']
      simp only [drop4_pairs]
      have e : yearG ((twoN bs 0 : Nat) : Int) ((twoN bs 2 : Nat) : Int) = ((100 * twoN bs 0 + twoN bs 2 : Nat) : Int) := by
        unfold yearG
        rw [if_neg (by omega)]
        omega
      rw [e]
  · rw [if_neg (fun h => hz h.2)]
    split
    · rfl
    · rw [mom_noZ _ _ (by rw [List.getElem?_drop]; exact hz)]
theorem rb_drop {w : World} {A : Option Addr} {n m : Nat} {bs : List UInt8} (h : RB w A (m + n) bs) : RB w (A.map (·.add m)) n (bs.drop m) := ⟨by rw [List.length_drop, h.1]; omega, h.2.drop_ m⟩
set_option maxHeartbeats 1600000 in
theorem refUtc_any (A : Option Addr) (n c : Nat) (bs : List UInt8) (w : World) (hR : RB w A n bs) (hn : n ≤ 1000000) (hc : n ≤ c) (hc2 : c ≤ 9223372036854775807) :
    Calls Tryd.prog 16 #[.slice A n c] w fun e w' => e = .returned (optV (utcO bs)) ∧ Below w.heap.size w w' := by
  have hb0 : ∀ cs, Below w.heap.size w (w.alloc (.cells cs 25)) := fun cs => (Below.refl _ _).alloc (Nat.le_refl _) _
  have G0 := Lib.hid (heap_alloc_new w (.cells Tm.zero.cells 25))
  by_cases hn13 : n = 13
  · subst hn13
    rw [utcO_mom bs hR.1]
    have T0 : Hid (∀ W, RB W A 13 bs → Calls Tryd.prog 34 #[.slice A 13 c, .int .i64 0] W fun e w' => e = .returned (.int .i64 (twoN bs 0 : Nat)) ∧ Below W.heap.size W w') := fun W h => refTwo_below A 13 c bs 0 W h (by omega) (by omega)
    have htl : twoN bs 0 ≤ 100 := twoI_le _ _
    obtain ⟨g, off, q, hA, hg, _, _⟩ := hR.at_ (k := 0) (by omega)
    subst hA
    have MM : Hid (∀ (y : Nat) (W : World), y < 65536 → RB W (some ⟨g, off, none⟩) 13 bs → Calls Tryd.prog 35 #[.int .i64 (y : Int), .slice (some ⟨g, off + 2, none⟩) 11 (c - 2)] W fun e w' => e = .returned (optV (momO y (bs.drop 2))) ∧ Below W.heap.size W w') := fun y W hy h => moment_any y _ _ _ W (by have := rb_drop (m := 2) (n := 11) h; simpa [Addr.add] using this) hy
    generalize twoN bs 0 = x at T0 htl ⊢
    have HRB := Lib.hid hR
    clear hR hn
    by_cases hx : x = 100
    · rw [if_pos hx]
      have d1 : ((x : Int) == 100) = true := beq_iff_eq.2 (by omega)
      clear hx MM
      go_enter Tryd.func16, Tryd.ntmps16
      go_wp2_with fail
      refine (T0.out _ (HRB.out.alloc _)).mono ?_
      intro e w1 hw1
      obtain ⟨rfl, hb1⟩ := hw1
      have hbw1 := (hb0 _).trans (hb1.mono (by simp))
      have k1 := (hb1.block w.heap.size (by simp)).trans G0.out
      obtain ⟨a0, a1, a2, a3, a4, a5⟩ := cells6 k1
      obtain ⟨f0, f1, f2, f3, f4, f5⟩ := free6 k1
      have K1 := Lib.hid k1
      clear k1 hb1
      go_wp2
      exact bodyPost_ret (results_tm rfl _ _ w.heap.size Tm.zero rfl (set6 K1.out)) rfl ⟨rfl, below6 hbw1 (Nat.le_refl _)⟩
    · rw [if_neg hx]
      have d1 : ((x : Int) == 100) = false := beq_eq_false_iff_ne.2 (by omega)
      have hyr : x < 50 ∨ 50 ≤ x := by omega
      rcases hyr with hyr | hyr
      · have ey : yr2 x = 2000 + x := if_pos (by omega)
        rw [ey]
        have MY := Lib.hid (fun W => MM.out (2000 + x) W (by omega))
        have ec : (((2000 + x : Nat)) : Int) = 2000 + (x : Int) := by omega
        rw [ec] at MY
        generalize momO (2000 + x) (bs.drop 2) = r at MY ⊢
        have d2 : decide (2050 ≤ 2000 + (x : Int)) = false := decide_eq_false (by omega)
        clear hx ec ey MM
        cases r with
        | none =>
          rw [opt_none] at MY ⊢
          go_enter Tryd.func16, Tryd.ntmps16
          go_wp2_with fail
          refine (T0.out _ (HRB.out.alloc _)).mono ?_
          intro e w1 hw1
          obtain ⟨rfl, hb1⟩ := hw1
          have hbw1 := (hb0 _).trans (hb1.mono (by simp))
          have k1 := (hb1.block w.heap.size (by simp)).trans G0.out
          have hs1 := hbw1.size
          clear hb1
          go_wp2_with fail
          refine (T0.out _ (HRB.out.below hbw1)).mono ?_
          intro e w2 hw2
          obtain ⟨rfl, hb2⟩ := hw2
          have hbw2 := hbw1.trans (hb2.mono hs1)
          have k2 := (hb2.block _ (heap_lt k1)).trans k1
          have hs2 := hbw2.size
          clear hb2 k1 hbw1 hs1
          go_wp2_with fail
          refine (MY.out _ (HRB.out.below hbw2)).mono ?_
          intro e w3 hw3
          obtain ⟨rfl, hb3⟩ := hw3
          have hbw3 := hbw2.trans (hb3.mono hs2)
          have k3 := (hb3.block _ (heap_lt k2)).trans k2
          clear hb3 k2 hbw2 hs2
          obtain ⟨a0, a1, a2, a3, a4, a5⟩ := cells6 k3
          obtain ⟨f0, f1, f2, f3, f4, f5⟩ := free6 k3
          have K3 := Lib.hid k3
          clear k3
          go_wp2
          exact bodyPost_ret (results_tm rfl _ _ w.heap.size Tm.zero rfl (set6 K3.out)) rfl ⟨rfl, below6 hbw3 (Nat.le_refl _)⟩
        | some v =>
          rw [opt_some] at MY ⊢
          unfold tmV Tm.cells at MY ⊢
          obtain ⟨yv_, mov_, dv_, hv_, miv_, sv_⟩ := v
          simp only at MY ⊢
          go_enter Tryd.func16, Tryd.ntmps16
          go_wp2_with fail
          refine (T0.out _ (HRB.out.alloc _)).mono ?_
          intro e w1 hw1
          obtain ⟨rfl, hb1⟩ := hw1
          have hbw1 := (hb0 _).trans (hb1.mono (by simp))
          have k1 := (hb1.block w.heap.size (by simp)).trans G0.out
          have hs1 := hbw1.size
          clear hb1
          go_wp2_with fail
          refine (T0.out _ (HRB.out.below hbw1)).mono ?_
          intro e w2 hw2
          obtain ⟨rfl, hb2⟩ := hw2
          have hbw2 := hbw1.trans (hb2.mono hs1)
          have k2 := (hb2.block _ (heap_lt k1)).trans k1
          have hs2 := hbw2.size
          clear hb2 k1 hbw1 hs1
          go_wp2_with fail
          refine (MY.out _ (HRB.out.below hbw2)).mono ?_
          intro e w3 hw3
          obtain ⟨rfl, hb3⟩ := hw3
          have hbw3 := hbw2.trans (hb3.mono hs2)
          have k3 := (hb3.block _ (heap_lt k2)).trans k2
          clear hb3 k2 hbw2 hs2
          obtain ⟨a0, a1, a2, a3, a4, a5⟩ := cells6 k3
          obtain ⟨f0, f1, f2, f3, f4, f5⟩ := free6 k3
          have K3 := Lib.hid k3
          clear k3
          go_wp2
          exact bodyPost_ret (results_tm rfl _ _ w.heap.size ⟨yv_, mov_, dv_, hv_, miv_, sv_⟩ rfl (set6 K3.out)) rfl ⟨rfl, below6 hbw3 (Nat.le_refl _)⟩
      · have ey : yr2 x = 1900 + x := if_neg (by omega)
        rw [ey]
        have MY := Lib.hid (fun W => MM.out (1900 + x) W (by omega))
        have ec : (((1900 + x : Nat)) : Int) = 2000 + (x : Int) - 100 := by omega
        rw [ec] at MY
        generalize momO (1900 + x) (bs.drop 2) = r at MY ⊢
        have d2 : decide (2050 ≤ 2000 + (x : Int)) = true := decide_eq_true (by omega)
        clear hx ec ey MM
        cases r with
        | none =>
          rw [opt_none] at MY ⊢
          go_enter Tryd.func16, Tryd.ntmps16
          go_wp2_with fail
          refine (T0.out _ (HRB.out.alloc _)).mono ?_
          intro e w1 hw1
          obtain ⟨rfl, hb1⟩ := hw1
          have hbw1 := (hb0 _).trans (hb1.mono (by simp))
          have k1 := (hb1.block w.heap.size (by simp)).trans G0.out
          have hs1 := hbw1.size
          clear hb1
          go_wp2_with fail
          refine (T0.out _ (HRB.out.below hbw1)).mono ?_
          intro e w2 hw2
          obtain ⟨rfl, hb2⟩ := hw2
          have hbw2 := hbw1.trans (hb2.mono hs1)
          have k2 := (hb2.block _ (heap_lt k1)).trans k1
          have hs2 := hbw2.size
          clear hb2 k1 hbw1 hs1
          go_wp2_with fail
          refine (MY.out _ (HRB.out.below hbw2)).mono ?_
          intro e w3 hw3
          obtain ⟨rfl, hb3⟩ := hw3
          have hbw3 := hbw2.trans (hb3.mono hs2)
          have k3 := (hb3.block _ (heap_lt k2)).trans k2
          clear hb3 k2 hbw2 hs2
          obtain ⟨a0, a1, a2, a3, a4, a5⟩ := cells6 k3
          obtain ⟨f0, f1, f2, f3, f4, f5⟩ := free6 k3
          have K3 := Lib.hid k3
          clear k3
          go_wp2
          exact bodyPost_ret (results_tm rfl _ _ w.heap.size Tm.zero rfl (set6 K3.out)) rfl ⟨rfl, below6 hbw3 (Nat.le_refl _)⟩
        | some v =>
          rw [opt_some] at MY ⊢
          unfold tmV Tm.cells at MY ⊢
          obtain ⟨yv_, mov_, dv_, hv_, miv_, sv_⟩ := v
          simp only at MY ⊢
          go_enter Tryd.func16, Tryd.ntmps16
          go_wp2_with fail
          refine (T0.out _ (HRB.out.alloc _)).mono ?_
          intro e w1 hw1
          obtain ⟨rfl, hb1⟩ := hw1
          have hbw1 := (hb0 _).trans (hb1.mono (by simp))
          have k1 := (hb1.block w.heap.size (by simp)).trans G0.out
          have hs1 := hbw1.size
          clear hb1
          go_wp2_with fail
          refine (T0.out _ (HRB.out.below hbw1)).mono ?_
          intro e w2 hw2
          obtain ⟨rfl, hb2⟩ := hw2
          have hbw2 := hbw1.trans (hb2.mono hs1)
          have k2 := (hb2.block _ (heap_lt k1)).trans k1
          have hs2 := hbw2.size
          clear hb2 k1 hbw1 hs1
          go_wp2_with fail
          refine (MY.out _ (HRB.out.below hbw2)).mono ?_
          intro e w3 hw3
          obtain ⟨rfl, hb3⟩ := hw3
          have hbw3 := hbw2.trans (hb3.mono hs2)
          have k3 := (hb3.block _ (heap_lt k2)).trans k2
          clear hb3 k2 hbw2 hs2
          obtain ⟨a0, a1, a2, a3, a4, a5⟩ := cells6 k3
          obtain ⟨f0, f1, f2, f3, f4, f5⟩ := free6 k3
          have K3 := Lib.hid k3
          clear k3
          go_wp2
          exact bodyPost_ret (results_tm rfl _ _ w.heap.size ⟨yv_, mov_, dv_, hv_, miv_, sv_⟩ rfl (set6 K3.out)) rfl ⟨rfl, below6 hbw3 (Nat.le_refl _)⟩
  · have e : utcO bs = none := utc_len (by rw [hR.1]; exact hn13)
    rw [e]
    have d1 : ((n : Int) != 13) = true := by rw [bne_iff_ne]; omega
    have d2 : ((n : Int) == 13) = false := beq_eq_false_iff_ne.2 (by omega)
    clear hn13 e hR
    go_enter Tryd.func16, Tryd.ntmps16
    go_wp2
    exact bodyPost_ret (results_tm rfl _ _ w.heap.size Tm.zero rfl G0.out) rfl ⟨rfl, hb0 _⟩
end Go.Proofs.YtepakdgpaaeelaaDoor
