/-
  siglist: the row SiglistReads (made by genSi2.py).
-/
import Derived.Test.YtfampefflkkckaaDoorSiAc
namespace Go.Proofs.YtfampefflkkckaaDoor
open Go.RowKit Go
set_option linter.unusedVariables false
set_option linter.unusedSimpArgs false
set_option maxRecDepth 100000

theorem ListsOwn.far {w w' : World} {base g n c : Nat} {A : Option Addr} {l : List Lst} (h : ListsOwn w base A n c l) (hg : w.grownBy w' (some g)) (hlt : g < base) : ListsOwn w' base A n c l := by
  obtain ⟨ls, h1, h2, h3⟩ := h
  exact ⟨ls, h1, h2.far9 hg hlt, fun z hz => (h3 z hz).far9 hg hlt⟩
/-- What goes wrong when bytes are read; the lists that they are. -/
def rErr (bs : List UInt8) : Int := if 65536 < bs.length then 10 else match readQ bs with | none => 9 | some _ => 0
def rLst (bs : List UInt8) : List Lst := if 65536 < bs.length then [] else match readQ bs with | none => [] | some l => l
theorem rLst_lim (bs : List UInt8) : Lim (rLst bs) 100000 1000000000 ∧ (rLst bs).length ≤ 100000 := by
  unfold rLst
  split
  · exact ⟨⟨fun x hx => (List.not_mem_nil hx).elim, fun x hx => (List.not_mem_nil hx).elim⟩, Nat.zero_le _⟩
  · rename_i hb
    cases h : readQ bs with
    | none => exact ⟨⟨fun x hx => (List.not_mem_nil hx).elim, fun x hx => (List.not_mem_nil hx).elim⟩, Nat.zero_le _⟩
    | some l =>
      have h1 := read_lim h (by omega)
      refine ⟨⟨h1.1, fun x hx y hy => ?_⟩, h1.2⟩
      have h2 := (write_read h).1 x hx
      have h3 := (right_each h2.1 y hy).1
      have := may_len h3
      omega
theorem sread_all (A : Option Addr) (n c : Nat) (bs : List UInt8) (w : World) (hR : RB w A n bs) (hT : Sizes w) (hc : n ≤ c) (hcm : c ≤ 9223372036854775807) :
    Calls Tryd.prog 11 #[.slice A n c] w fun e w' => ∃ A2 c2, e = .returned (.tuple #[.slice A2 (rLst bs).length c2, .int .i64 (rErr bs)]) ∧ ListsOwn w' w.heap.size A2 (rLst bs).length c2 (rLst bs) ∧ Below w.heap.size w w' := by
  by_cases hb : 65536 < n
  · refine (read_big A n c w hb).mono fun e w' h => ?_
    obtain ⟨h1, rfl⟩ := h
    rw [show rLst bs = [] by unfold rLst; rw [if_pos (by rw [hR.1]; exact hb)], show rErr bs = 10 by unfold rErr; rw [if_pos (by rw [hR.1]; exact hb)]]
    exact ⟨none, 0, h1, ListsOwn.nil _ _, Below.refl _ _⟩
  · refine (read_any A n c bs w hR hT hc (by omega) hcm).mono fun e w' h => ?_
    obtain ⟨h1, h2⟩ := h
    have hnb : ¬ 65536 < bs.length := by rw [hR.1]; exact hb
    cases hq : readQ bs with
    | none =>
      rw [hq] at h1
      rw [show rLst bs = [] by unfold rLst; rw [if_neg hnb, hq], show rErr bs = 9 by unfold rErr; rw [if_neg hnb, hq]]
      exact ⟨none, 0, h1, ListsOwn.nil _ _, h2⟩
    | some l =>
      rw [hq] at h1
      obtain ⟨A2, c2, h3, h4⟩ := h1
      rw [show rLst bs = l by unfold rLst; rw [if_neg hnb, hq], show rErr bs = 0 by unfold rErr; rw [if_neg hnb, hq]]
      exact ⟨A2, c2, h3, h4, h2⟩
theorem dread_all (A : Option Addr) (n c : Nat) (bs : List UInt8) (w : World) (hR : RB w A n bs) (hT : Sizes w) (hc : n ≤ c) (hcm : c ≤ 9223372036854775807) :
    Calls Tryd.prog 12 #[.slice A n c] w fun e w' => ∃ A2 c2, e = .returned (.tuple #[.slice A2 (rLst bs).length c2, .int .i64 (rErr bs)]) ∧ ListsOwn w' w.heap.size A2 (rLst bs).length c2 (rLst bs) ∧ Below w.heap.size w w' := by
  by_cases hb : 65536 < n
  · refine (dread_big A n c w hb).mono fun e w' h => ?_
    obtain ⟨h1, rfl⟩ := h
    rw [show rLst bs = [] by unfold rLst; rw [if_pos (by rw [hR.1]; exact hb)], show rErr bs = 10 by unfold rErr; rw [if_pos (by rw [hR.1]; exact hb)]]
    exact ⟨none, 0, h1, ListsOwn.nil _ _, Below.refl _ _⟩
  · refine (dread_any A n c bs w hR hT hc (by omega) hcm).mono fun e w' h => ?_
    obtain ⟨h1, h2⟩ := h
    have hnb : ¬ 65536 < bs.length := by rw [hR.1]; exact hb
    cases hq : readQ bs with
    | none =>
      rw [hq] at h1
      rw [show rLst bs = [] by unfold rLst; rw [if_neg hnb, hq], show rErr bs = 9 by unfold rErr; rw [if_neg hnb, hq]]
      exact ⟨none, 0, h1, ListsOwn.nil _ _, h2⟩
    | some l =>
      rw [hq] at h1
      obtain ⟨A2, c2, h3, h4⟩ := h1
      rw [show rLst bs = l by unfold rLst; rw [if_neg hnb, hq], show rErr bs = 0 by unfold rErr; rw [if_neg hnb, hq]]
      exact ⟨A2, c2, h3, h4, h2⟩
set_option maxHeartbeats 8000000 in
theorem reads_row (A : Option Addr) (n c : Nat) (bs : List UInt8) (a1 : Int) (D : Option Addr) (dn dc : Nat) (da : List UInt8) (w : World) (B0 : IsBs w A n c bs) (w1 : (Lit.int .u8 a1).wf = true) (B2 : IsBs w D dn dc da) (hT : Sizes w) :
    Calls Tryd.prog 3 #[.slice A n c, .int .u8 a1, .slice D dn dc] w fun e w' => e = .returned (.bool true) ∧ Below w.heap.size w w' := by
  obtain ⟨kd, rfl⟩ : ∃ kd : UInt8, a1 = (kd.toNat : Int) := ⟨UInt8.ofNat a1.toNat, (byte_of_wf w1).symm⟩
  have WK : Hid (∀ W, Below w.heap.size w W → Calls Tryd.prog 9 #[] W fun e w' => e = .returned (.bool true) ∧ Below W.heap.size W w') := fun W h => works18_any W (hT.below' h)
  have HT := Lib.hid hT
  have HR := Lib.hid B0.rb
  have HD := Lib.hid B2.rb
  have hnl := B0.lim
  have hdl := B2.lim
  have HC := Lib.hid (And.intro B0.le (show c ≤ 9223372036854775807 by have := B0.max; unfold maxLen at this; omega))
  clear w1 B0 B2 hT
  by_cases hbig : 131072 < n
  · have u1 : decide ((n : Int) > (131072 : Int)) = true := decide_eq_true (by omega)
    have u2 : decide ((131072 : Int) < (n : Int)) = true := decide_eq_true (by omega)
    have u3 : decide (131072 < n) = true := decide_eq_true hbig
    clear hbig
    go_enter Tryd.func3, Tryd.ntmps3
    go_wp2_with fail
    refine (WK.out _ (Below.refl _ _)).mono ?_
    rintro e Wz ⟨rfl, hbz⟩
    have HBZ := Lib.hid (kp_call (Below.refl _ _) hbz)
    clear hbz
    go_wp2
    go_ret
    exact ⟨rfl, HBZ.out⟩
  have u1 : decide ((n : Int) > (131072 : Int)) = false := decide_eq_false (by omega)
  have u2 : decide ((131072 : Int) < (n : Int)) = false := decide_eq_false (by omega)
  have u3 : decide (131072 < n) = false := decide_eq_false hbig
  by_cases hdb : 16384 < dn
  · have v1 : decide ((dn : Int) > (16384 : Int)) = true := decide_eq_true (by omega)
    have v2 : decide ((16384 : Int) < (dn : Int)) = true := decide_eq_true (by omega)
    have v3 : decide (16384 < dn) = true := decide_eq_true hdb
    clear hbig hdb
    go_enter Tryd.func3, Tryd.ntmps3
    go_wp2_with fail
    refine (WK.out _ (Below.refl _ _)).mono ?_
    rintro e Wz ⟨rfl, hbz⟩
    have HBZ := Lib.hid (kp_call (Below.refl _ _) hbz)
    clear hbz
    go_wp2
    go_ret
    exact ⟨rfl, HBZ.out⟩
  have v1 : decide ((dn : Int) > (16384 : Int)) = false := decide_eq_false (by omega)
  have v2 : decide ((16384 : Int) < (dn : Int)) = false := decide_eq_false (by omega)
  have v3 : decide (16384 < dn) = false := decide_eq_false hdb
  obtain ⟨l, hl⟩ : ∃ l, rLst bs = l := ⟨_, rfl⟩
  obtain ⟨ev, hev⟩ : ∃ ev, rErr bs = ev := ⟨_, rfl⟩
  obtain ⟨m, hm⟩ : ∃ m, l.length = m := ⟨_, rfl⟩
  have HLIM : Hid (Lim l 100000 1000000000 ∧ m ≤ 100000) := by rw [← hm, ← hl]; exact rLst_lim bs
  have TW := Lib.hid (twin_any A n c bs w HR.out (by omega))
  go_enter Tryd.func3, Tryd.ntmps3
  go_wp2_with fail
  refine TW.out.mono ?_
  clear TW
  rintro e W1 ⟨A1, n1, c1, rfl, ho1, hb1⟩
  obtain rfl : n = n1 := HR.out.1.symm.trans ho1.len
  have O1 := Lib.hid ho1
  have B1 := Lib.hid hb1
  have hc1 := ho1.cap
  have SR := sread_all A1 n c1 bs W1 ho1.rb (HT.out.below' hb1) hc1.1 (by have := hc1.2; unfold maxLen at this; omega)
  rw [hl, hev, hm] at SR
  have SR := Lib.hid SR
  clear ho1 hb1 hc1
  go_wp2_with fail
  refine SR.out.mono ?_
  clear SR
  rintro e W2 ⟨A2, c2, rfl, hl2, hb2⟩
  have B2 := Lib.hid (kp_call B1.out hb2)
  have O2 := Lib.hid (O1.out.below hb2 (Nat.le_refl _))
  have B12 := Lib.hid hb2
  have L2 := Lib.hid hl2
  have DR := dread_all A n c bs W2 (HR.out.below B2.out) (HT.out.below' B2.out) HC.out.1 HC.out.2
  rw [hl, hev, hm] at DR
  have DR := Lib.hid DR
  clear hb2 hl2 hl hev
  go_wp2_with fail
  refine DR.out.mono ?_
  clear DR
  rintro e W3 ⟨A3, c3, rfl, hl3, hb3⟩
  have B3 := Lib.hid (kp_call B2.out hb3)
  have O3 := Lib.hid (O2.out.below hb3 (Nat.le_refl _))
  have L23 := Lib.hid (L2.out.below hb3 (Nat.le_refl _))
  have L3 := Lib.hid hl3
  have B23 := Lib.hid hb3
  have SM := Lib.hid (same_any A1 A n n c1 c bs bs W3 O3.out.rb (HR.out.below B3.out))
  rw [show (bs == bs) = true by simp] at SM
  clear hb3 hl3
  go_wp2_with fail
  refine SM.out.mono ?_
  clear SM
  rintro e W4 ⟨rfl, rfl⟩
  go_wp2_with fail
  refine (twin_any D dn dc da W3 (HD.out.below B3.out) (by omega)).mono ?_
  rintro e W5 ⟨A5, n5, c5, rfl, ho5, hb5⟩
  have B35 := Lib.hid hb5
  have R5 := Lib.hid ho5.rb
  clear hb5 ho5
  go_wp2_with fail
  refine (has_r L23.out.r (HLIM.out.1.more (by omega) (by omega)) HLIM.out.2 kd A5 n5 c5 da B35.out R5.out).mono ?_
  rintro e W6 ⟨rfl, hb6⟩
  have B36 := Lib.hid (kp_call B35.out hb6)
  clear hb6
  go_wp2_with fail
  refine (dhas_r L3.out.r (HLIM.out.1.more (by omega) (by omega)) HLIM.out.2 kd D dn dc da B36.out (HD.out.below (kp_call B3.out B36.out))).mono ?_
  rintro e W7 ⟨rfl, hb7⟩
  have B37 := Lib.hid (kp_call B36.out hb7)
  clear hb7
  have O7 := Lib.hid (O3.out.below B37.out (Nat.le_refl _))
  have L27 := Lib.hid (L23.out.below B37.out (Nat.le_refl _))
  have L37 := Lib.hid (L3.out.below B37.out (Nat.le_refl _))
  have B7 := Lib.hid (kp_call B3.out B37.out)
  have HZ : Hid (∀ g, blk A1 = some g → w.heap.size ≤ g ∧ g < W1.heap.size ∧ g < W3.heap.size) := fun g hg => by
    have h1 := O1.out.blk_lt hg
    have h2 := B12.out.size
    have h3 := B23.out.size
    exact ⟨h1.1, h1.2, by omega⟩
  have HWW := Lib.hid (And.intro B12.out.size B23.out.size)
  generalize hasQ l kd da = hv
  cases hv
  all_goals
    go_wp2
    go_loopw [12] (fun v wl => ∃ (i : Nat), v = .int .i64 (i : Int) ∧ i ≤ n ∧ Hid (∃ xs, OwnB wl w.heap.size A1 n c1 xs ∧ ListsOwn wl W1.heap.size A2 m c2 l ∧ ListsOwn wl W2.heap.size A3 m c3 l ∧ Below w.heap.size w wl)) (fun v _ => (n - (intOf v).toNat))
    case atStart => exact ⟨0, rfl, Nat.zero_le _, bs, O7.out, L27.out, by have := L37.out; exact this, B7.out⟩
    case round =>
      obtain ⟨i, rfl, hi, hS⟩ := hrel
      rcases Nat.lt_or_ge i n with hlt | hge
      · have l1 : decide ((i : Int) < (n : Int)) = true := decide_eq_true (by omega)
        have l2 : decide (i < n) = true := decide_eq_true hlt
        obtain ⟨xs, ho, h2, h3, hb⟩ := hS
        obtain ⟨g, hA, hg1, hg2⟩ := ho.shape (by have := ho.cap.1; omega)
        subst hA
        obtain ⟨x, hx⟩ : ∃ x, xs[i]? = some x := ⟨_, List.getElem?_eq_getElem (by rw [ho.len]; exact hlt)⟩
        have xc := ho.cellAt i x hx
        have xf := ho.free i
        have hgz := HZ.out g rfl
        have K : Hid (∃ xs, OwnB (wr.setCell ⟨g, i, none⟩ (.int .u8 85)) w.heap.size (some ⟨g, 0, none⟩) n c1 xs ∧ ListsOwn (wr.setCell ⟨g, i, none⟩ (.int .u8 85)) W1.heap.size A2 m c2 l ∧ ListsOwn (wr.setCell ⟨g, i, none⟩ (.int .u8 85)) W2.heap.size A3 m c3 l ∧ Below w.heap.size w (wr.setCell ⟨g, i, none⟩ (.int .u8 85))) :=
          ⟨_, ho.stored i 85, h2.far (grown_one _ _ _ _) hgz.2.1, h3.far (grown_one _ _ _ _) (by have := HWW.out.1; omega), hb.setCell hgz.1 _⟩
        have l5 : IntKind.i64.wrap ((i : Int) + 1) = ((i + 1 : Nat) : Int) := IntWalk.i64_in _ (by omega)
        clear ho h2 h3 hb hx hg1 hg2 hgz hi
        go_wp2
        go_roundw
        case rel => exact ⟨i + 1, rfl, hlt, K⟩
        case measure => simp [intOf]; omega
      · have l1 : decide ((i : Int) < (n : Int)) = false := decide_eq_false (by omega)
        have l2 : decide (i < n) = false := decide_eq_false (by omega)
        obtain ⟨xs, ho, h2, h3, hb⟩ := hS
        have SL := Lib.hid (same_r h2.r h3.r (fun x hx => Nat.le_trans (HLIM.out.1.m x hx) (by omega)) HLIM.out.2 (Below.refl _ _) (Below.refl _ _))
        rw [show decide (l = l) = true from decide_eq_true rfl] at SL
        have HB := Lib.hid hb
        clear ho h2 h3 hb hi hge
        go_wp2_with fail
        refine SL.out.mono ?_
        clear SL
        rintro e W9 ⟨rfl, hb9⟩
        have HB9 := Lib.hid (kp_call HB.out hb9)
        clear hb9
        go_wp2_with fail
        refine (WK.out _ (HB9.out)).mono ?_
        rintro e Wz ⟨rfl, hbz⟩
        have HBZ := Lib.hid (kp_call (HB9.out) hbz)
        clear hbz
        go_wp2
        go_ret
        exact ⟨rfl, HBZ.out⟩
end Go.Proofs.YtfampefflkkckaaDoor
