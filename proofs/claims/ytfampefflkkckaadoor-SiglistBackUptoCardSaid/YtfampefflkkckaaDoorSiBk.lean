/-
  siglist: the row SiglistBack (made by genSi2.py).
-/
import Derived.Test.YtfampefflkkckaaDoorSiBj
namespace Go.Proofs.YtfampefflkkckaaDoor
open Go.RowKit Go
set_option linter.unusedVariables false
set_option linter.unusedSimpArgs false
set_option maxRecDepth 100000

theorem write_own {w : World} {l : List Lst} {e : Ending} {w' : World} (h : WritePost w l e w') : ∃ (A : Option Addr) (n c : Nat), e = .returned (.tuple #[.slice A n c, .int .i64 (wErr l)]) ∧ OwnB w' w.heap.size A n c (wBytes l) ∧ Below w.heap.size w w' := by
  obtain ⟨h1, h2⟩ := h
  unfold wBytes wErr
  by_cases ha : l.all rightL = true
  · rw [if_pos ha] at h1 ⊢
    by_cases hb : 65536 < (allB l).length
    · rw [if_pos hb] at h1 ⊢
      exact ⟨none, 0, 0, h1, OwnB.nil _ _, h2⟩
    · rw [if_neg hb] at h1 ⊢
      obtain ⟨A, n, c, h3, h4⟩ := h1
      exact ⟨A, n, c, h3, h4, h2⟩
  · rw [if_neg ha] at h1 ⊢
    exact ⟨none, 0, 0, h1, OwnB.nil _ _, h2⟩
theorem flat_bound (l : List Lst) (N : Nat) (h : ∀ x ∈ l, x.2.length ≤ N) : (flatK l).length ≤ l.length * N := by
  induction l with
  | nil => exact Nat.zero_le _
  | cons x l ih =>
    rw [flatK_cons, List.length_append, List.length_map, List.length_cons, Nat.succ_mul]
    have h1 := ih fun y hy => h y (List.mem_cons_of_mem _ hy)
    have h2 := h x (List.mem_cons_self ..)
    omega
theorem flat_len100 {l : List Lst} (h : ∀ x ∈ l, x.2.length ≤ 1048576) (hl : l.length ≤ 100000) : (flatK l).length ≤ 200000000000 := by
  have h1 := flat_bound l 1048576 h
  omega
theorem flat_len100' {l : List Lst} (h : ∀ x ∈ l, x.2.length ≤ 2000000) (hl : l.length ≤ 100000) : (flatK l).length ≤ 200000000000 := by
  have h1 := flat_bound l 2000000 h
  omega

set_option maxHeartbeats 32000000 in
theorem back_row (A : Option Addr) (n c : Nat) (ls : List LM) (D : Option Addr) (m d : Nat) (ms : List LM) (E : Option Addr) (k f : Nat) (xb : List UInt8) (w : World) (B0 : IsLs w A n c 1048576 41943040 33554432 ls) (B1 : IsLs w D m d 1048576 41943040 33554432 ms) (B2 : IsBs w E k f xb) (hT : Sizes w) :
    Calls Tryd.prog 6 #[.slice A n c, .slice D m d, .slice E k f] w fun e w' => e = .returned (.bool true) ∧ Below w.heap.size w w' := by
  have HT := Lib.hid hT
  have WK : Hid (∀ W, Below w.heap.size w W → Calls Tryd.prog 9 #[] W fun e w' => e = .returned (.bool true) ∧ Below W.heap.size W w') := fun W h => works18_any W (hT.below' h)
  have la := B0.lim
  have lb := B1.lim
  have LR1 := Lib.hid B0.r
  have LR2 := Lib.hid B1.r
  have LEN1 := Lib.hid (show (ls.map LM.lst).length = n by rw [List.length_map]; exact B0.z.len)
  have LEN2 := Lib.hid (show (ms.map LM.lst).length = m by rw [List.length_map]; exact B1.z.len)
  have OWN1 := Lib.hid B0.own
  have OWN2 := Lib.hid B1.own
  have LM1 : Hid ((∀ x ∈ ls.map LM.lst, x.2.length ≤ 1048576) ∧ True) := ⟨fun x hx => Nat.le_trans (la.m x hx) (by omega), trivial⟩
  have LM2 : Hid ((∀ x ∈ ms.map LM.lst, x.2.length ≤ 1048576) ∧ True) := ⟨fun x hx => Nat.le_trans (lb.m x hx) (by omega), trivial⟩
  have VA := Lib.hid (vast_r (W := w) B0.r (fun x hx => Nat.le_trans (la.m x hx) (by omega)) (Below.refl _ _))
  have VB : Hid (∀ W, Below w.heap.size w W → Calls Tryd.prog 17 #[.slice D m d] W (VastR W m (ms.map LM.lst))) := fun W h => vast_r (W := W) B1.r (fun x hx => Nat.le_trans (lb.m x hx) (by omega)) h
  have HE := Lib.hid B2.rb
  have HB : Hid (Below w.heap.size w w) := Below.refl _ _
  clear B0 B1 B2 hT la lb
  generalize ls.map LM.lst = P at *
  generalize ms.map LM.lst = Q at *
  go_enter Tryd.func6, Tryd.ntmps6
  go_wp2_with fail
  refine VA.out.mono ?_
  clear VA
  rintro e Wa ⟨v, rfl, hv, hb⟩
  replace HB := Lib.hid (kp_call HB.out hb)
  clear hb
  cases v with
  | true =>
    clear hv
    go_wp2_with fail
    refine (WK.out _ HB.out).mono ?_
    rintro e Wz ⟨rfl, hbz⟩
    replace HB := Lib.hid (kp_call HB.out hbz)
    clear hbz
    go_wp2
    go_ret
    exact ⟨rfl, HB.out⟩
  | false =>
    have hv1 := hv rfl
    clear hv
    go_wp2_with fail
    refine (VB.out Wa HB.out).mono ?_
    clear VB
    rintro e Wb ⟨v, rfl, hv, hb⟩
    replace HB := Lib.hid (kp_call HB.out hb)
    clear hb
    cases v with
    | true =>
      clear hv
      go_wp2_with fail
      refine (WK.out _ HB.out).mono ?_
      rintro e Wz ⟨rfl, hbz⟩
      replace HB := Lib.hid (kp_call HB.out hbz)
      clear hbz
      go_wp2
      go_ret
      exact ⟨rfl, HB.out⟩
    | false =>
      have hv2 := hv rfl
      clear hv
      by_cases hkb : 65536 < k
      · have u1 : decide ((k : Int) > (65536 : Int)) = true := decide_eq_true (by omega)
        have u2 : decide ((65536 : Int) < (k : Int)) = true := decide_eq_true (by omega)
        have u3 : decide (65536 < k) = true := decide_eq_true hkb
        clear hkb
        go_wp2_with fail
        refine (WK.out _ HB.out).mono ?_
        rintro e Wz ⟨rfl, hbz⟩
        replace HB := Lib.hid (kp_call HB.out hbz)
        clear hbz
        go_wp2
        go_ret
        exact ⟨rfl, HB.out⟩
      have u1 : decide ((k : Int) > (65536 : Int)) = false := decide_eq_false (by omega)
      have u2 : decide ((65536 : Int) < (k : Int)) = false := decide_eq_false (by omega)
      have u3 : decide (65536 < k) = false := decide_eq_false hkb
      have hn : n ≤ 100000 := Nat.le_trans hv1.1 (by omega)
      have hm : m ≤ 100000 := Nat.le_trans hv2.1 (by omega)
      have LT1 : Hid (Lim P 2000000 1000000000) := ⟨fun x hx => Nat.le_trans (LM1.out.1 x hx) (by omega), fun x hx y hy => Nat.le_trans (hv1.2 x hx y hy) (by omega)⟩
      have LT2 : Hid (Lim Q 2000000 1000000000) := ⟨fun x hx => Nat.le_trans (LM2.out.1 x hx) (by omega), fun x hx y hy => Nat.le_trans (hv2.2 x hx y hy) (by omega)⟩
      have TW1 : Hid (∀ W, Below w.heap.size w W → Calls Tryd.prog 18 #[.slice A n c] W (TwinsPost W n P)) := fun W h => twins_r LR1.out (LT1.out.more (by omega) (by omega)) (by omega) h
      have TW2 : Hid (∀ W, Below w.heap.size w W → Calls Tryd.prog 18 #[.slice D m d] W (TwinsPost W m Q)) := fun W h => twins_r LR2.out (LT2.out.more (by omega) (by omega)) (by omega) h
      have TT := Lib.hid (twin_any E k f xb Wb (HE.out.below HB.out) (by omega))
      clear hv1 hv2
      go_wp2_with fail
      refine TT.out.mono ?_
      clear TT
      rintro e Wc ⟨A3, n3, c3, rfl, ho, hb⟩
      obtain rfl : n3 = k := ho.len.symm.trans HE.out.1
      replace HB := Lib.hid (kp_call HB.out hb)
      have hc3 := ho.cap
      have RD := sread_all A3 n3 c3 xb Wc ho.rb (HT.out.below' HB.out) hc3.1 (by have := hc3.2; unfold maxLen at this; omega)
      have LIM := Lib.hid (rLst_lim xb)
      obtain ⟨lr, hlr⟩ : ∃ lr, rLst xb = lr := ⟨_, rfl⟩
      obtain ⟨nr, hnr⟩ : ∃ nr, lr.length = nr := ⟨_, rfl⟩
      obtain ⟨ev, hev⟩ : ∃ ev, rErr xb = ev := ⟨_, rfl⟩
      rw [hlr, hnr, hev] at RD
      have RD := Lib.hid RD
      rw [hlr, hnr] at LIM
      have RE : Hid (ev = 0 → lr.all rightL = true ∧ allB lr = xb ∧ ¬ 65536 < (allB lr).length) := fun h => by
        rw [← hlr]; exact rd_err0 (hev.trans h)
      clear hb ho hc3 hlr hnr hev hkb
      go_wp2_with fail
      refine RD.out.mono ?_
      clear RD
      rintro e Wd ⟨A4, c4, rfl, hl4, hb⟩
      replace HB := Lib.hid (kp_call HB.out hb)
      have L4 := Lib.hid hl4.r
      clear hb hl4
      by_cases h0 : ev = 0
      · have RR := Lib.hid (RE.out h0)
        subst h0
        have WR := Lib.hid (write_r L4.out (LIM.out.1.more (by omega) (by omega)) LIM.out.2 (Below.refl _ _) (HT.out.below' HB.out))
        go_wp2_with fail
        refine WR.out.mono ?_
        clear WR
        rintro e We ⟨hw, hb⟩
        obtain ⟨r1, r2, r3⟩ := RR.out
        rw [if_pos r1, if_neg r3, r2] at hw
        obtain ⟨A5, n5, c5, rfl, ho⟩ := hw
        replace HB := Lib.hid (kp_call HB.out hb)
        have SM := Lib.hid (same_any A5 E n5 n3 c5 f xb xb We ho.rb (HE.out.below HB.out))
        rw [show (xb == xb) = true by simp] at SM
        clear hb ho r1 r2 r3
        go_wp2_with fail
        refine SM.out.mono ?_
        clear SM
        rintro e Wt ⟨rfl, rfl⟩
        obtain ⟨Wt, hWt⟩ : ∃ Wt, Wt = We := ⟨_, rfl⟩
        subst hWt
        clear u1 u2 u3 LIM RE L4 HE
        go_wp2_with fail
        refine (TW1.out Wt HB.out).mono ?_
        rintro e T1 ⟨A6, c6, rfl, hl6, hb⟩
        replace HB := Lib.hid (kp_call HB.out hb)
        have L6 := Lib.hid hl6.r
        clear hb hl6
        have WR := Lib.hid (write_r L6.out LT1.out hn (Below.refl _ _) (HT.out.below' HB.out))
        go_wp2_with fail
        refine WR.out.mono ?_
        clear WR
        rintro e T2 hw
        obtain ⟨A7, n7, c7, rfl, hx, hb⟩ := write_own hw
        replace HB := Lib.hid (kp_call HB.out hb)
        have OX := Lib.hid hx
        clear hb hx hw L6
        go_wp2_with fail
        refine (TW2.out T2 HB.out).mono ?_
        rintro e T3 ⟨A8, c8, rfl, hl8, hb⟩
        replace HB := Lib.hid (kp_call HB.out hb)
        replace OX := Lib.hid (OX.out.below hb (Nat.le_refl _))
        have L8 := Lib.hid hl8.r
        clear hb hl8
        have WR := Lib.hid (write_r L8.out LT2.out hm (Below.refl _ _) (HT.out.below' HB.out))
        go_wp2_with fail
        refine WR.out.mono ?_
        clear WR
        rintro e T4 hw
        obtain ⟨A9, n9, c9, rfl, hx, hb⟩ := write_own hw
        replace HB := Lib.hid (kp_call HB.out hb)
        replace OX := Lib.hid (OX.out.below hb (Nat.le_refl _))
        have OY := Lib.hid hx
        clear hb hx hw L8
        by_cases hex : wErr P = 0
        rotate_left
        · obtain ⟨ex, hxx⟩ : ∃ ex, wErr P = ex := ⟨_, rfl⟩
          rw [hxx] at hex ⊢
          have e1 : (ex != 0) = true := bne_iff_ne.2 hex
          have e2 : (ex == 0) = false := beq_eq_false_iff_ne.2 hex
          clear hxx hex
          go_wp2_with fail
          refine (WK.out _ HB.out).mono ?_
          rintro e Wz ⟨rfl, hbz⟩
          replace HB := Lib.hid (kp_call HB.out hbz)
          clear hbz
          go_wp2
          go_ret
          exact ⟨rfl, HB.out⟩
        by_cases hey : wErr Q = 0
        rotate_left
        · obtain ⟨ey, hyy⟩ : ∃ ey, wErr Q = ey := ⟨_, rfl⟩
          rw [hyy] at hey ⊢
          rw [hex]
          have e1 : (ey != 0) = true := bne_iff_ne.2 hey
          have e2 : (ey == 0) = false := beq_eq_false_iff_ne.2 hey
          clear hyy hey hex
          go_wp2_with fail
          refine (WK.out _ HB.out).mono ?_
          rintro e Wz ⟨rfl, hbz⟩
          replace HB := Lib.hid (kp_call HB.out hbz)
          clear hbz
          go_wp2
          go_ret
          exact ⟨rfl, HB.out⟩
        rw [hex, hey]
        obtain ⟨hp1, hp2, hp3⟩ := wErr_ok hex
        obtain ⟨hq1, hq2, hq3⟩ := wErr_ok hey
        rw [hp3] at OX
        rw [hq3] at OY
        have RP := Lib.hid (right_of_all hp1 OWN1.out)
        have RQ := Lib.hid (right_of_all hq1 OWN2.out)
        have LX := Lib.hid (And.intro hp2 OX.out.len)
        have LY := Lib.hid (And.intro hq2 OY.out.len)
        clear hex hey hp1 hp2 hp3 hq1 hq2 hq3
        have hcx := OX.out.cap
        have RD := sread_all A7 n7 c7 (allB P) T4 OX.out.rb (HT.out.below' HB.out) hcx.1 (by have := hcx.2; unfold maxLen at this; omega)
        rw [(rd_write RP.out LX.out.1).1, (rd_write RP.out LX.out.1).2, LEN1.out] at RD
        have RD := Lib.hid RD
        clear hcx
        go_wp2_with fail
        refine RD.out.mono ?_
        clear RD
        rintro e T5 ⟨Ap, cp, rfl, hlp, hb⟩
        replace HB := Lib.hid (kp_call HB.out hb)
        replace OX := Lib.hid (OX.out.below hb (Nat.le_refl _))
        replace OY := Lib.hid (OY.out.below hb (Nat.le_refl _))
        have SL := Lib.hid (same_r hlp.r LR1.out (fun x hx => Nat.le_trans (LM1.out.1 x hx) (by omega)) hn (Below.refl _ _) HB.out)
        rw [show decide (P = P) = true from decide_eq_true rfl] at SL
        clear hb hlp
        go_wp2_with fail
        refine SL.out.mono ?_
        clear SL
        rintro e T6 ⟨rfl, hb⟩
        replace HB := Lib.hid (kp_call HB.out hb)
        replace OX := Lib.hid (OX.out.below hb (Nat.le_refl _))
        replace OY := Lib.hid (OY.out.below hb (Nat.le_refl _))
        clear hb
        have IT := Lib.hid (items_r LR1.out (fun x hx => Nat.le_trans (LM1.out.1 x hx) (by omega)) hn HB.out)
        go_wp2_with fail
        refine IT.out.mono ?_
        clear IT
        rintro e T7 ⟨Aa, na, ca, rfl, hia, hb⟩
        replace HB := Lib.hid (kp_call HB.out hb)
        replace OX := Lib.hid (OX.out.below hb (Nat.le_refl _))
        replace OY := Lib.hid (OY.out.below hb (Nat.le_refl _))
        have IA := Lib.hid hia
        clear hb hia
        have IT := Lib.hid (items_r LR2.out (fun x hx => Nat.le_trans (LM2.out.1 x hx) (by omega)) hm HB.out)
        go_wp2_with fail
        refine IT.out.mono ?_
        clear IT
        rintro e T8 ⟨Ac, nc, cc, rfl, hic, hb⟩
        replace HB := Lib.hid (kp_call HB.out hb)
        replace OX := Lib.hid (OX.out.below hb (Nat.le_refl _))
        replace OY := Lib.hid (OY.out.below hb (Nat.le_refl _))
        replace IA := Lib.hid (IA.out.below hb)
        have IC := Lib.hid hic
        clear hb hic
        have hna := flat_len100 LM1.out.1 (by rw [LEN1.out]; exact hn)
        have hnc := flat_len100 LM2.out.1 (by rw [LEN2.out]; exact hm)
        rw [IA.out.len] at hna
        rw [IC.out.len] at hnc
        obtain ⟨t1, ht1⟩ : ∃ t1, t1 = na + nc := ⟨_, rfl⟩
        have w1 : IntKind.i64.wrap ((na : Int) + (nc : Int)) = (t1 : Int) := by rw [show (na : Int) + (nc : Int) = (t1 : Int) by omega]; exact IntWalk.i64_in _ (by omega)
        obtain ⟨t2, ht2⟩ : ∃ t2, t2 = n7 + n9 := ⟨_, rfl⟩
        have hn7 : n7 ≤ 65536 := by have := LX.out; omega
        have hn9 : n9 ≤ 65536 := by have := LY.out; omega
        have w2 : IntKind.i64.wrap ((n7 : Int) + (n9 : Int)) = (t2 : Int) := by rw [show (n7 : Int) + (n9 : Int) = (t2 : Int) by omega]; exact IntWalk.i64_in _ (by omega)
        have HTT := Lib.hid (And.intro ht1 (And.intro ht2 (And.intro hna (And.intro hnc (And.intro hn7 hn9)))))
        clear ht1 ht2 hna hnc hn7 hn9
        by_cases hb60 : 60 < t1
        · have u1 : decide ((t1 : Int) > (60 : Int)) = true := decide_eq_true (by omega)
          have u2 : decide ((60 : Int) < (t1 : Int)) = true := decide_eq_true (by omega)
          have u3 : decide (60 < t1) = true := decide_eq_true hb60
          clear hb60
          go_wp2_with fail
          refine (WK.out _ HB.out).mono ?_
          rintro e Wz ⟨rfl, hbz⟩
          replace HB := Lib.hid (kp_call HB.out hbz)
          clear hbz
          go_wp2
          go_ret
          exact ⟨rfl, HB.out⟩
        have u1 : decide ((t1 : Int) > (60 : Int)) = false := decide_eq_false (by omega)
        have u2 : decide ((60 : Int) < (t1 : Int)) = false := decide_eq_false (by omega)
        have u3 : decide (60 < t1) = false := decide_eq_false hb60
        by_cases hb65 : 65536 < t2
        · have v1 : decide ((t2 : Int) > (65536 : Int)) = true := decide_eq_true (by omega)
          have v2 : decide ((65536 : Int) < (t2 : Int)) = true := decide_eq_true (by omega)
          have v3 : decide (65536 < t2) = true := decide_eq_true hb65
          clear hb60 hb65
          go_wp2_with fail
          refine (WK.out _ HB.out).mono ?_
          rintro e Wz ⟨rfl, hbz⟩
          replace HB := Lib.hid (kp_call HB.out hbz)
          clear hbz
          go_wp2
          go_ret
          exact ⟨rfl, HB.out⟩
        have v1 : decide ((t2 : Int) > (65536 : Int)) = false := decide_eq_false (by omega)
        have v2 : decide ((65536 : Int) < (t2 : Int)) = false := decide_eq_false (by omega)
        have v3 : decide (65536 < t2) = false := decide_eq_false hb65
        have HSUM : Hid ((allB P).length + (allB Q).length ≤ 65536) := by have h1 := LX.out.2; have h2 := LY.out.2; have h3 := HTT.out.2.1; unfold Hid; omega
        clear hb60 hb65
        have TT := Lib.hid (twin_any A7 n7 c7 (allB P) _ OX.out.rb (by have := HTT.out; omega))
        go_wp2_with fail
        refine TT.out.mono ?_
        clear TT
        rintro e T9 ⟨Ad, nd, cd, rfl, ho, hb⟩
        replace HB := Lib.hid (kp_call HB.out hb)
        replace OX := Lib.hid (OX.out.below hb (Nat.le_refl _))
        replace OY := Lib.hid (OY.out.below hb (Nat.le_refl _))
        replace IA := Lib.hid (IA.out.below hb)
        replace IC := Lib.hid (IC.out.below hb)
        have D1 := Lib.hid ho
        clear hb ho
        have TT := Lib.hid (twin_any A7 n7 c7 (allB P) _ OX.out.rb (by have := HTT.out; omega))
        go_wp2_with fail
        refine TT.out.mono ?_
        clear TT
        rintro e T10 ⟨Ae, ne, ce, rfl, ho, hb⟩
        replace HB := Lib.hid (kp_call HB.out hb)
        replace OX := Lib.hid (OX.out.below hb (Nat.le_refl _))
        replace OY := Lib.hid (OY.out.below hb (Nat.le_refl _))
        replace IA := Lib.hid (IA.out.below hb)
        replace IC := Lib.hid (IC.out.below hb)
        replace D1 := Lib.hid (D1.out.below hb (Nat.le_refl _))
        have D2 := Lib.hid ho
        clear hb ho
        have h1 := D1.out.cap
        have h2 := D2.out.cap
        have MM := lmerge_any Ad nd cd (allB P) Ae ne ce (allB P) _ D1.out.rb D2.out.rb (HT.out.below' HB.out) h1.1 (by have := h1.2; unfold maxLen at this; omega) h2.1 (by have := h2.2; unfold maxLen at this; omega)
        unfold MergePost at MM
        rw [(merge_self_ok RP.out LX.out.1).1, (merge_self_ok RP.out LX.out.1).2] at MM
        have MM := Lib.hid MM
        clear h1 h2
        go_wp2_with fail
        refine MM.out.mono ?_
        clear MM
        rintro e T11 ⟨As, ns, cs, rfl, ho, hb⟩
        replace HB := Lib.hid (kp_call HB.out hb)
        replace OX := Lib.hid (OX.out.below hb (Nat.le_refl _))
        replace OY := Lib.hid (OY.out.below hb (Nat.le_refl _))
        replace IA := Lib.hid (IA.out.below hb)
        replace IC := Lib.hid (IC.out.below hb)
        have OS := Lib.hid ho
        clear hb ho
        clear D1 D2
        have TT := Lib.hid (twin_any A7 n7 c7 (allB P) _ OX.out.rb (by have := HTT.out; omega))
        go_wp2_with fail
        refine TT.out.mono ?_
        clear TT
        rintro e T12 ⟨Ad, nd, cd, rfl, ho, hb⟩
        replace HB := Lib.hid (kp_call HB.out hb)
        replace OX := Lib.hid (OX.out.below hb (Nat.le_refl _))
        replace OY := Lib.hid (OY.out.below hb (Nat.le_refl _))
        replace IA := Lib.hid (IA.out.below hb)
        replace IC := Lib.hid (IC.out.below hb)
        replace OS := Lib.hid (OS.out.below hb (Nat.le_refl _))
        have D1 := Lib.hid ho
        clear hb ho
        have TT := Lib.hid (twin_any A9 n9 c9 (allB Q) _ OY.out.rb (by have := HTT.out; omega))
        go_wp2_with fail
        refine TT.out.mono ?_
        clear TT
        rintro e T13 ⟨Ae, ne, ce, rfl, ho, hb⟩
        replace HB := Lib.hid (kp_call HB.out hb)
        replace OX := Lib.hid (OX.out.below hb (Nat.le_refl _))
        replace OY := Lib.hid (OY.out.below hb (Nat.le_refl _))
        replace IA := Lib.hid (IA.out.below hb)
        replace IC := Lib.hid (IC.out.below hb)
        replace OS := Lib.hid (OS.out.below hb (Nat.le_refl _))
        replace D1 := Lib.hid (D1.out.below hb (Nat.le_refl _))
        have D2 := Lib.hid ho
        clear hb ho
        have MB0 := Lib.hid (merge_both_ok RP.out RQ.out HSUM.out)
        have h1 := D1.out.cap
        have h2 := D2.out.cap
        have MM := lmerge_any Ad nd cd (allB P) Ae ne ce (allB Q) _ D1.out.rb D2.out.rb (HT.out.below' HB.out) h1.1 (by have := h1.2; unfold maxLen at this; omega) h2.1 (by have := h2.2; unfold maxLen at this; omega)
        unfold MergePost at MM
        rw [MB0.out.1, MB0.out.2.1] at MM
        have MM := Lib.hid MM
        clear h1 h2
        go_wp2_with fail
        refine MM.out.mono ?_
        clear MM
        rintro e T14 ⟨Ab, nb, cb, rfl, ho, hb⟩
        replace HB := Lib.hid (kp_call HB.out hb)
        replace OX := Lib.hid (OX.out.below hb (Nat.le_refl _))
        replace OY := Lib.hid (OY.out.below hb (Nat.le_refl _))
        replace IA := Lib.hid (IA.out.below hb)
        replace IC := Lib.hid (IC.out.below hb)
        replace OS := Lib.hid (OS.out.below hb (Nat.le_refl _))
        have OB := Lib.hid ho
        clear hb ho
        clear D1 D2
        have SM := Lib.hid (same_any As A7 ns n7 cs c7 (allB P) (allB P) _ OS.out.rb OX.out.rb)
        rw [show (allB P == allB P) = true by simp] at SM
        go_wp2_with fail
        refine SM.out.mono ?_
        clear SM
        rintro e T15 ⟨rfl, rfl⟩
        have RM := Lib.hid (merged_right RP.out RQ.out)
        have hcb := OB.out.cap
        have RD := sread_all Ab nb cb (allB (merged P Q)) _ OB.out.rb (HT.out.below' HB.out) hcb.1 (by have := hcb.2; unfold maxLen at this; omega)
        rw [(rd_write RM.out MB0.out.2.2.1).1, (rd_write RM.out MB0.out.2.2.1).2] at RD
        have LQ : Hid ((merged P Q).length ≤ 100000 ∧ ∀ x ∈ merged P Q, x.2.length ≤ 2000000) := by
          have h1 := rLst_lim (allB (merged P Q))
          rw [(rd_write RM.out MB0.out.2.2.1).2] at h1
          exact ⟨h1.2, fun x hx => Nat.le_trans (h1.1.m x hx) (by decide)⟩
        obtain ⟨nq, hnq⟩ : ∃ nq, (merged P Q).length = nq := ⟨_, rfl⟩
        rw [hnq] at RD LQ
        have RD := Lib.hid RD
        clear hnq
        have hbx : n7 ≤ nb := by
          obtain ⟨tl, htl⟩ := MB0.out.2.2.2
          have h1 := OB.out.len
          rw [htl, List.length_append] at h1
          have := LX.out.2
          omega
        have HBX : Hid (RB T14 Ab n7 (allB P)) := by
          obtain ⟨tl, htl⟩ := MB0.out.2.2.2
          have h1 := rb_take3 OB.out.rb n7 hbx
          have e : (allB (merged P Q)).take n7 = allB P := by rw [htl, ← LX.out.2, List.take_left]
          rw [e] at h1
          exact h1
        have s1 : decide ((nb : Int) < (n7 : Int)) = false := decide_eq_false (by omega)
        have s2 : decide (nb < n7) = false := decide_eq_false (by omega)
        have s3 : (n7 : Int) ≤ (cb : Int) := by have := hcb.1; omega
        have s4 : n7 ≤ cb := by have := hcb.1; omega
        clear hbx hcb
        go_wp2_with fail
        refine RD.out.mono ?_
        clear RD
        rintro e T16 ⟨Aq, cq, rfl, hlq, hb⟩
        replace HB := Lib.hid (kp_call HB.out hb)
        replace OX := Lib.hid (OX.out.below hb (Nat.le_refl _))
        replace OY := Lib.hid (OY.out.below hb (Nat.le_refl _))
        replace IA := Lib.hid (IA.out.below hb)
        replace IC := Lib.hid (IC.out.below hb)
        replace OS := Lib.hid (OS.out.below hb (Nat.le_refl _))
        replace OB := Lib.hid (OB.out.below hb (Nat.le_refl _))
        replace HBX := Lib.hid (HBX.out.below hb)
        have LQR := Lib.hid hlq.r
        clear hb hlq
        have SM := Lib.hid (same_any Ab A7 n7 n7 cb c7 (allB P) (allB P) _ HBX.out OX.out.rb)
        rw [show (allB P == allB P) = true by simp] at SM
        go_wp2_with fail
        refine SM.out.mono ?_
        clear SM
        rintro e T17 ⟨rfl, rfl⟩
        have IT := Lib.hid (items_r LQR.out LQ.out.2 LQ.out.1 (Below.refl _ _))
        go_wp2_with fail
        refine IT.out.mono ?_
        clear IT s1 s2 s3 s4
        rintro e T18 ⟨Az, nz, cz, rfl, hiz, hb⟩
        replace HB := Lib.hid (kp_call HB.out hb)
        replace IA := Lib.hid (IA.out.below hb)
        replace IC := Lib.hid (IC.out.below hb)
        have IZ := Lib.hid hiz
        clear hb hiz OX OY OS OB HBX
        have NZ : Hid (nz ≤ 200000000000) := by
          have h1 := flat_len100' LQ.out.2 (by have := LQR.out.len; rw [this]; exact LQ.out.1)
          rw [IZ.out.len] at h1
          exact h1
        go_wp2
        go_loopw [23] (fun v wl => ∃ (i : Nat), v = .int .i64 (i : Int) ∧ i ≤ nz ∧ Below T18.heap.size T18 wl) (fun v _ => (nz - (intOf v).toNat))
        case atStart => exact ⟨0, rfl, Nat.zero_le _, Below.refl _ _⟩
        case round =>
          obtain ⟨i, rfl, hi, hbl⟩ := hrel
          have hnz := NZ.out
          rcases Nat.lt_or_ge i nz with hlt | hge
          · have l1 : decide ((i : Int) < (nz : Int)) = true := decide_eq_true (by omega)
            have l2 : decide (i < nz) = true := decide_eq_true hlt
            have l3 : IntKind.i64.wrap ((i : Int) + 1) = ((i + 1 : Nat) : Int) := IntWalk.i64_in _ (by omega)
            obtain ⟨x, z, b, off, hz, hxz, hA, hbb, hr, hx⟩ := (IZ.out.below hbl).at_ hlt
            subst hA
            have f0 : ∀ y : Up wr, y.w.cell? ⟨b, off + i * 2, none⟩ = some (.int .u8 (x.k.toNat : Int)) := Up.cell (hr 0 _ rfl)
            have f1 : ∀ y : Up wr, y.w.cell? ⟨b, off + i * 2 + 1, none⟩ = some (.slice x.a x.n x.c) := Up.cell (hr 1 _ rfl)
            have C1 := fun y : Up wr => in_r (IA.out.below hbl) (by have := HTT.out; omega) x z hx hxz y.b
            have C2 := fun y : Up wr => in_r (IC.out.below hbl) (by have := HTT.out; omega) x z hx hxz y.b
            have C3 := fun y : Up wr => in_r (IZ.out.below hbl) (by omega) x z hx hxz y.b
            have g1 := merged_in P Q z hz
            have g2 := merged_count P Q z hz
            have g3 : (flatK P).count z + (flatK Q).count z ≠ 0 := by
              rcases g1 with h | h
              · have := List.count_pos_iff.2 h; omega
              · have := List.count_pos_iff.2 h; omega
            have g4 : (flatK P).count z ≤ 1000000000000 ∧ (flatK Q).count z ≤ 1000000000000 := by
              have h1 := List.count_le_length (a := z) (l := flatK P)
              have h2 := List.count_le_length (a := z) (l := flatK Q)
              rw [IA.out.len] at h1
              rw [IC.out.len] at h2
              have := HTT.out
              exact ⟨by omega, by omega⟩
            generalize (flatK P).count z = p1 at *
            generalize (flatK Q).count z = p2 at *
            generalize (flatK (merged P Q)).count z = p3 at *
            subst g2
            obtain ⟨t3, ht3⟩ : ∃ t3, t3 = p1 + p2 := ⟨_, rfl⟩
            have w3 : IntKind.i64.wrap ((p1 : Int) + (p2 : Int)) = (t3 : Int) := by rw [show (p1 : Int) + (p2 : Int) = (t3 : Int) by omega]; exact IntWalk.i64_in _ (by omega)
            have q1 : ((t3 : Int) == 0) = false := beq_eq_false_iff_ne.2 (by omega)
            have q2 : (t3 == 0) = false := beq_eq_false_iff_ne.2 (by omega)
            have q3 : t3 ≠ 0 := by omega
            have HP2 : Hid (p1 = 0 → p2 ≠ 0 ∧ p2 ≤ 1000000000000) := fun h => ⟨by omega, g4.2⟩
            have HC1 := Lib.hid C1
            have HC2 := Lib.hid C2
            have HC3 := Lib.hid C3
            have HBL := Lib.hid hbl
            clear hz hxz hbb hr hx g1 g3 g4 ht3 C1 C2 C3 hbl hi
            rcases Nat.lt_or_ge p1 1 with hp | hp
            · obtain rfl : p1 = 0 := by omega
              rw [show max 0 1 = 1 from rfl] at HC3
              obtain ⟨hp2, hp3⟩ := HP2.out rfl
              have w4 : IntKind.i64.wrap (p2 : Int) = (p2 : Int) := IntWalk.i64_in _ (by omega)
              have w5 : IntKind.i64.wrap (0 + (p2 : Int)) = (p2 : Int) := by rw [Int.zero_add]; exact w4
              have q4 : ((p2 : Int) == 0) = false := beq_eq_false_iff_ne.2 (by omega)
              have q5 : (p2 == 0) = false := beq_eq_false_iff_ne.2 hp2
              clear w3 q1 q2 q3
              go_upto_region 30 with fail
              refine wp_region_up (by kernel_rfl) (by kernel_rfl) ?_
              repeat (go_big_quiet_step (first | (go_at_call 24; first | with_reducible exact Up.calls (HC1.out _) | with_reducible exact Up.calls (HC2.out _) | with_reducible exact Up.calls (HC3.out _))))
              refine wpQuiet_nil ?_
              rintro _ ⟨y, rfl⟩
              go_wp2
              go_roundw
              case rel => exact ⟨i + 1, rfl, hlt, kp_call HBL.out y.b⟩
              case measure => simp [intOf]; omega
            · rw [show max p1 1 = p1 by omega] at HC3
              have m1 : ¬ ((p1 : Int) < 1) := by omega
              have m2 : ¬ (p1 < 1) := by omega
              have m3 : (1 : Int) ≤ (p1 : Int) := by omega
              go_upto_region 30 with fail
              refine wp_region_up (by kernel_rfl) (by kernel_rfl) ?_
              repeat (go_big_quiet_step (first | (go_at_call 24; first | with_reducible exact Up.calls (HC1.out _) | with_reducible exact Up.calls (HC2.out _) | with_reducible exact Up.calls (HC3.out _))))
              refine wpQuiet_nil ?_
              rintro _ ⟨y, rfl⟩
              go_wp2
              go_roundw
              case rel => exact ⟨i + 1, rfl, hlt, kp_call HBL.out y.b⟩
              case measure => simp [intOf]; omega
          · have l1 : decide ((i : Int) < (nz : Int)) = false := decide_eq_false (by omega)
            have l2 : decide (i < nz) = false := decide_eq_false (by omega)
            have HBL := Lib.hid hbl
            have HSZ := Lib.hid HB.out.size
            clear hbl hi hge
            go_wp2
            go_loopw [24] (fun v wl => ∃ (i : Nat), v = .int .i64 (i : Int) ∧ i ≤ nc ∧ Below T18.heap.size T18 wl) (fun v _ => (nc - (intOf v).toNat))
            case atStart => exact ⟨0, rfl, Nat.zero_le _, HBL.out⟩
            case round =>
              obtain ⟨j, rfl, hi, hbl⟩ := hrel
              rcases Nat.lt_or_ge j nc with hlt | hge
              · have l1 : decide ((j : Int) < (nc : Int)) = true := decide_eq_true (by omega)
                have l2 : decide (j < nc) = true := decide_eq_true hlt
                have hnc := HTT.out.2.2.2.1
                have l3 : IntKind.i64.wrap ((j : Int) + 1) = ((j + 1 : Nat) : Int) := IntWalk.i64_in _ (by omega)
                obtain ⟨x, z, b, off, hz, hxz, hA, hbb, hr, hx⟩ := (IC.out.below hbl).at_ hlt
                subst hA
                have r0 : wr.cell? ⟨b, off + j * 2, none⟩ = some (.int .u8 (x.k.toNat : Int)) := hr 0 _ rfl
                have r1 : wr.cell? ⟨b, off + j * 2 + 1, none⟩ = some (.slice x.a x.n x.c) := hr 1 _ rfl
                have C3 := Lib.hid (in_r (IZ.out.below hbl) (by omega) x z hx hxz (Below.refl _ _))
                have g1 := List.count_pos_iff.2 (merged_has P Q z (.inr hz))
                generalize (flatK (merged P Q)).count z = p3 at *
                have q1 : ((p3 : Int) == 0) = false := beq_eq_false_iff_ne.2 (by omega)
                have q2 : (p3 == 0) = false := beq_eq_false_iff_ne.2 (by omega)
                have q3 : p3 ≠ 0 := by omega
                have HBL := Lib.hid hbl
                clear hz hxz hbb hr hx g1 hbl hi
                go_wp2_with fail
                refine C3.out.mono ?_
                clear C3 r0 r1
                rintro e w9 ⟨rfl, hb9⟩
                have HB9 := Lib.hid (kp_call HBL.out hb9)
                clear hb9
                go_wp2
                go_roundw
                case rel => exact ⟨j + 1, rfl, hlt, HB9.out⟩
                case measure => simp [intOf]; omega
              · have l1 : decide ((j : Int) < (nc : Int)) = false := decide_eq_false (by omega)
                have l2 : decide (j < nc) = false := decide_eq_false (by omega)
                replace HB := Lib.hid (HB.out.trans (hbl.mono HSZ.out))
                clear hbl hi hge
                go_wp2_with fail
                refine (WK.out _ HB.out).mono ?_
                rintro e Wz ⟨rfl, hbz⟩
                replace HB := Lib.hid (kp_call HB.out hbz)
                clear hbz
                go_wp2
                go_ret
                exact ⟨rfl, HB.out⟩
      · have e1 : (ev == 0) = false := beq_eq_false_iff_ne.2 h0
        have e2 : (ev != 0) = true := bne_iff_ne.2 h0
        obtain ⟨Wt, hWt⟩ : ∃ Wt, Wt = Wd := ⟨_, rfl⟩
        subst hWt
        clear u1 u2 u3 LIM RE L4 HE h0
        go_wp2_with fail
        clear e1 e2
        refine (TW1.out Wt HB.out).mono ?_
        rintro e T1 ⟨A6, c6, rfl, hl6, hb⟩
        replace HB := Lib.hid (kp_call HB.out hb)
        have L6 := Lib.hid hl6.r
        clear hb hl6
        have WR := Lib.hid (write_r L6.out LT1.out hn (Below.refl _ _) (HT.out.below' HB.out))
        go_wp2_with fail
        refine WR.out.mono ?_
        clear WR
        rintro e T2 hw
        obtain ⟨A7, n7, c7, rfl, hx, hb⟩ := write_own hw
        replace HB := Lib.hid (kp_call HB.out hb)
        have OX := Lib.hid hx
        clear hb hx hw L6
        go_wp2_with fail
        refine (TW2.out T2 HB.out).mono ?_
        rintro e T3 ⟨A8, c8, rfl, hl8, hb⟩
        replace HB := Lib.hid (kp_call HB.out hb)
        replace OX := Lib.hid (OX.out.below hb (Nat.le_refl _))
        have L8 := Lib.hid hl8.r
        clear hb hl8
        have WR := Lib.hid (write_r L8.out LT2.out hm (Below.refl _ _) (HT.out.below' HB.out))
        go_wp2_with fail
        refine WR.out.mono ?_
        clear WR
        rintro e T4 hw
        obtain ⟨A9, n9, c9, rfl, hx, hb⟩ := write_own hw
        replace HB := Lib.hid (kp_call HB.out hb)
        replace OX := Lib.hid (OX.out.below hb (Nat.le_refl _))
        have OY := Lib.hid hx
        clear hb hx hw L8
        by_cases hex : wErr P = 0
        rotate_left
        · obtain ⟨ex, hxx⟩ : ∃ ex, wErr P = ex := ⟨_, rfl⟩
          rw [hxx] at hex ⊢
          have e1 : (ex != 0) = true := bne_iff_ne.2 hex
          have e2 : (ex == 0) = false := beq_eq_false_iff_ne.2 hex
          clear hxx hex
          go_wp2_with fail
          refine (WK.out _ HB.out).mono ?_
          rintro e Wz ⟨rfl, hbz⟩
          replace HB := Lib.hid (kp_call HB.out hbz)
          clear hbz
          go_wp2
          go_ret
          exact ⟨rfl, HB.out⟩
        by_cases hey : wErr Q = 0
        rotate_left
        · obtain ⟨ey, hyy⟩ : ∃ ey, wErr Q = ey := ⟨_, rfl⟩
          rw [hyy] at hey ⊢
          rw [hex]
          have e1 : (ey != 0) = true := bne_iff_ne.2 hey
          have e2 : (ey == 0) = false := beq_eq_false_iff_ne.2 hey
          clear hyy hey hex
          go_wp2_with fail
          refine (WK.out _ HB.out).mono ?_
          rintro e Wz ⟨rfl, hbz⟩
          replace HB := Lib.hid (kp_call HB.out hbz)
          clear hbz
          go_wp2
          go_ret
          exact ⟨rfl, HB.out⟩
        rw [hex, hey]
        obtain ⟨hp1, hp2, hp3⟩ := wErr_ok hex
        obtain ⟨hq1, hq2, hq3⟩ := wErr_ok hey
        rw [hp3] at OX
        rw [hq3] at OY
        have RP := Lib.hid (right_of_all hp1 OWN1.out)
        have RQ := Lib.hid (right_of_all hq1 OWN2.out)
        have LX := Lib.hid (And.intro hp2 OX.out.len)
        have LY := Lib.hid (And.intro hq2 OY.out.len)
        clear hex hey hp1 hp2 hp3 hq1 hq2 hq3
        have hcx := OX.out.cap
        have RD := sread_all A7 n7 c7 (allB P) T4 OX.out.rb (HT.out.below' HB.out) hcx.1 (by have := hcx.2; unfold maxLen at this; omega)
        rw [(rd_write RP.out LX.out.1).1, (rd_write RP.out LX.out.1).2, LEN1.out] at RD
        have RD := Lib.hid RD
        clear hcx
        go_wp2_with fail
        refine RD.out.mono ?_
        clear RD
        rintro e T5 ⟨Ap, cp, rfl, hlp, hb⟩
        replace HB := Lib.hid (kp_call HB.out hb)
        replace OX := Lib.hid (OX.out.below hb (Nat.le_refl _))
        replace OY := Lib.hid (OY.out.below hb (Nat.le_refl _))
        have SL := Lib.hid (same_r hlp.r LR1.out (fun x hx => Nat.le_trans (LM1.out.1 x hx) (by omega)) hn (Below.refl _ _) HB.out)
        rw [show decide (P = P) = true from decide_eq_true rfl] at SL
        clear hb hlp
        go_wp2_with fail
        refine SL.out.mono ?_
        clear SL
        rintro e T6 ⟨rfl, hb⟩
        replace HB := Lib.hid (kp_call HB.out hb)
        replace OX := Lib.hid (OX.out.below hb (Nat.le_refl _))
        replace OY := Lib.hid (OY.out.below hb (Nat.le_refl _))
        clear hb
        have IT := Lib.hid (items_r LR1.out (fun x hx => Nat.le_trans (LM1.out.1 x hx) (by omega)) hn HB.out)
        go_wp2_with fail
        refine IT.out.mono ?_
        clear IT
        rintro e T7 ⟨Aa, na, ca, rfl, hia, hb⟩
        replace HB := Lib.hid (kp_call HB.out hb)
        replace OX := Lib.hid (OX.out.below hb (Nat.le_refl _))
        replace OY := Lib.hid (OY.out.below hb (Nat.le_refl _))
        have IA := Lib.hid hia
        clear hb hia
        have IT := Lib.hid (items_r LR2.out (fun x hx => Nat.le_trans (LM2.out.1 x hx) (by omega)) hm HB.out)
        go_wp2_with fail
        refine IT.out.mono ?_
        clear IT
        rintro e T8 ⟨Ac, nc, cc, rfl, hic, hb⟩
        replace HB := Lib.hid (kp_call HB.out hb)
        replace OX := Lib.hid (OX.out.below hb (Nat.le_refl _))
        replace OY := Lib.hid (OY.out.below hb (Nat.le_refl _))
        replace IA := Lib.hid (IA.out.below hb)
        have IC := Lib.hid hic
        clear hb hic
        have hna := flat_len100 LM1.out.1 (by rw [LEN1.out]; exact hn)
        have hnc := flat_len100 LM2.out.1 (by rw [LEN2.out]; exact hm)
        rw [IA.out.len] at hna
        rw [IC.out.len] at hnc
        obtain ⟨t1, ht1⟩ : ∃ t1, t1 = na + nc := ⟨_, rfl⟩
        have w1 : IntKind.i64.wrap ((na : Int) + (nc : Int)) = (t1 : Int) := by rw [show (na : Int) + (nc : Int) = (t1 : Int) by omega]; exact IntWalk.i64_in _ (by omega)
        obtain ⟨t2, ht2⟩ : ∃ t2, t2 = n7 + n9 := ⟨_, rfl⟩
        have hn7 : n7 ≤ 65536 := by have := LX.out; omega
        have hn9 : n9 ≤ 65536 := by have := LY.out; omega
        have w2 : IntKind.i64.wrap ((n7 : Int) + (n9 : Int)) = (t2 : Int) := by rw [show (n7 : Int) + (n9 : Int) = (t2 : Int) by omega]; exact IntWalk.i64_in _ (by omega)
        have HTT := Lib.hid (And.intro ht1 (And.intro ht2 (And.intro hna (And.intro hnc (And.intro hn7 hn9)))))
        clear ht1 ht2 hna hnc hn7 hn9
        by_cases hb60 : 60 < t1
        · have u1 : decide ((t1 : Int) > (60 : Int)) = true := decide_eq_true (by omega)
          have u2 : decide ((60 : Int) < (t1 : Int)) = true := decide_eq_true (by omega)
          have u3 : decide (60 < t1) = true := decide_eq_true hb60
          clear hb60
          go_wp2_with fail
          refine (WK.out _ HB.out).mono ?_
          rintro e Wz ⟨rfl, hbz⟩
          replace HB := Lib.hid (kp_call HB.out hbz)
          clear hbz
          go_wp2
          go_ret
          exact ⟨rfl, HB.out⟩
        have u1 : decide ((t1 : Int) > (60 : Int)) = false := decide_eq_false (by omega)
        have u2 : decide ((60 : Int) < (t1 : Int)) = false := decide_eq_false (by omega)
        have u3 : decide (60 < t1) = false := decide_eq_false hb60
        by_cases hb65 : 65536 < t2
        · have v1 : decide ((t2 : Int) > (65536 : Int)) = true := decide_eq_true (by omega)
          have v2 : decide ((65536 : Int) < (t2 : Int)) = true := decide_eq_true (by omega)
          have v3 : decide (65536 < t2) = true := decide_eq_true hb65
          clear hb60 hb65
          go_wp2_with fail
          refine (WK.out _ HB.out).mono ?_
          rintro e Wz ⟨rfl, hbz⟩
          replace HB := Lib.hid (kp_call HB.out hbz)
          clear hbz
          go_wp2
          go_ret
          exact ⟨rfl, HB.out⟩
        have v1 : decide ((t2 : Int) > (65536 : Int)) = false := decide_eq_false (by omega)
        have v2 : decide ((65536 : Int) < (t2 : Int)) = false := decide_eq_false (by omega)
        have v3 : decide (65536 < t2) = false := decide_eq_false hb65
        have HSUM : Hid ((allB P).length + (allB Q).length ≤ 65536) := by have h1 := LX.out.2; have h2 := LY.out.2; have h3 := HTT.out.2.1; unfold Hid; omega
        clear hb60 hb65
        have TT := Lib.hid (twin_any A7 n7 c7 (allB P) _ OX.out.rb (by have := HTT.out; omega))
        go_wp2_with fail
        refine TT.out.mono ?_
        clear TT
        rintro e T9 ⟨Ad, nd, cd, rfl, ho, hb⟩
        replace HB := Lib.hid (kp_call HB.out hb)
        replace OX := Lib.hid (OX.out.below hb (Nat.le_refl _))
        replace OY := Lib.hid (OY.out.below hb (Nat.le_refl _))
        replace IA := Lib.hid (IA.out.below hb)
        replace IC := Lib.hid (IC.out.below hb)
        have D1 := Lib.hid ho
        clear hb ho
        have TT := Lib.hid (twin_any A7 n7 c7 (allB P) _ OX.out.rb (by have := HTT.out; omega))
        go_wp2_with fail
        refine TT.out.mono ?_
        clear TT
        rintro e T10 ⟨Ae, ne, ce, rfl, ho, hb⟩
        replace HB := Lib.hid (kp_call HB.out hb)
        replace OX := Lib.hid (OX.out.below hb (Nat.le_refl _))
        replace OY := Lib.hid (OY.out.below hb (Nat.le_refl _))
        replace IA := Lib.hid (IA.out.below hb)
        replace IC := Lib.hid (IC.out.below hb)
        replace D1 := Lib.hid (D1.out.below hb (Nat.le_refl _))
        have D2 := Lib.hid ho
        clear hb ho
        have h1 := D1.out.cap
        have h2 := D2.out.cap
        have MM := lmerge_any Ad nd cd (allB P) Ae ne ce (allB P) _ D1.out.rb D2.out.rb (HT.out.below' HB.out) h1.1 (by have := h1.2; unfold maxLen at this; omega) h2.1 (by have := h2.2; unfold maxLen at this; omega)
        unfold MergePost at MM
        rw [(merge_self_ok RP.out LX.out.1).1, (merge_self_ok RP.out LX.out.1).2] at MM
        have MM := Lib.hid MM
        clear h1 h2
        go_wp2_with fail
        refine MM.out.mono ?_
        clear MM
        rintro e T11 ⟨As, ns, cs, rfl, ho, hb⟩
        replace HB := Lib.hid (kp_call HB.out hb)
        replace OX := Lib.hid (OX.out.below hb (Nat.le_refl _))
        replace OY := Lib.hid (OY.out.below hb (Nat.le_refl _))
        replace IA := Lib.hid (IA.out.below hb)
        replace IC := Lib.hid (IC.out.below hb)
        have OS := Lib.hid ho
        clear hb ho
        clear D1 D2
        have TT := Lib.hid (twin_any A7 n7 c7 (allB P) _ OX.out.rb (by have := HTT.out; omega))
        go_wp2_with fail
        refine TT.out.mono ?_
        clear TT
        rintro e T12 ⟨Ad, nd, cd, rfl, ho, hb⟩
        replace HB := Lib.hid (kp_call HB.out hb)
        replace OX := Lib.hid (OX.out.below hb (Nat.le_refl _))
        replace OY := Lib.hid (OY.out.below hb (Nat.le_refl _))
        replace IA := Lib.hid (IA.out.below hb)
        replace IC := Lib.hid (IC.out.below hb)
        replace OS := Lib.hid (OS.out.below hb (Nat.le_refl _))
        have D1 := Lib.hid ho
        clear hb ho
        have TT := Lib.hid (twin_any A9 n9 c9 (allB Q) _ OY.out.rb (by have := HTT.out; omega))
        go_wp2_with fail
        refine TT.out.mono ?_
        clear TT
        rintro e T13 ⟨Ae, ne, ce, rfl, ho, hb⟩
        replace HB := Lib.hid (kp_call HB.out hb)
        replace OX := Lib.hid (OX.out.below hb (Nat.le_refl _))
        replace OY := Lib.hid (OY.out.below hb (Nat.le_refl _))
        replace IA := Lib.hid (IA.out.below hb)
        replace IC := Lib.hid (IC.out.below hb)
        replace OS := Lib.hid (OS.out.below hb (Nat.le_refl _))
        replace D1 := Lib.hid (D1.out.below hb (Nat.le_refl _))
        have D2 := Lib.hid ho
        clear hb ho
        have MB0 := Lib.hid (merge_both_ok RP.out RQ.out HSUM.out)
        have h1 := D1.out.cap
        have h2 := D2.out.cap
        have MM := lmerge_any Ad nd cd (allB P) Ae ne ce (allB Q) _ D1.out.rb D2.out.rb (HT.out.below' HB.out) h1.1 (by have := h1.2; unfold maxLen at this; omega) h2.1 (by have := h2.2; unfold maxLen at this; omega)
        unfold MergePost at MM
        rw [MB0.out.1, MB0.out.2.1] at MM
        have MM := Lib.hid MM
        clear h1 h2
        go_wp2_with fail
        refine MM.out.mono ?_
        clear MM
        rintro e T14 ⟨Ab, nb, cb, rfl, ho, hb⟩
        replace HB := Lib.hid (kp_call HB.out hb)
        replace OX := Lib.hid (OX.out.below hb (Nat.le_refl _))
        replace OY := Lib.hid (OY.out.below hb (Nat.le_refl _))
        replace IA := Lib.hid (IA.out.below hb)
        replace IC := Lib.hid (IC.out.below hb)
        replace OS := Lib.hid (OS.out.below hb (Nat.le_refl _))
        have OB := Lib.hid ho
        clear hb ho
        clear D1 D2
        have SM := Lib.hid (same_any As A7 ns n7 cs c7 (allB P) (allB P) _ OS.out.rb OX.out.rb)
        rw [show (allB P == allB P) = true by simp] at SM
        go_wp2_with fail
        refine SM.out.mono ?_
        clear SM
        rintro e T15 ⟨rfl, rfl⟩
        have RM := Lib.hid (merged_right RP.out RQ.out)
        have hcb := OB.out.cap
        have RD := sread_all Ab nb cb (allB (merged P Q)) _ OB.out.rb (HT.out.below' HB.out) hcb.1 (by have := hcb.2; unfold maxLen at this; omega)
        rw [(rd_write RM.out MB0.out.2.2.1).1, (rd_write RM.out MB0.out.2.2.1).2] at RD
        have LQ : Hid ((merged P Q).length ≤ 100000 ∧ ∀ x ∈ merged P Q, x.2.length ≤ 2000000) := by
          have h1 := rLst_lim (allB (merged P Q))
          rw [(rd_write RM.out MB0.out.2.2.1).2] at h1
          exact ⟨h1.2, fun x hx => Nat.le_trans (h1.1.m x hx) (by decide)⟩
        obtain ⟨nq, hnq⟩ : ∃ nq, (merged P Q).length = nq := ⟨_, rfl⟩
        rw [hnq] at RD LQ
        have RD := Lib.hid RD
        clear hnq
        have hbx : n7 ≤ nb := by
          obtain ⟨tl, htl⟩ := MB0.out.2.2.2
          have h1 := OB.out.len
          rw [htl, List.length_append] at h1
          have := LX.out.2
          omega
        have HBX : Hid (RB T14 Ab n7 (allB P)) := by
          obtain ⟨tl, htl⟩ := MB0.out.2.2.2
          have h1 := rb_take3 OB.out.rb n7 hbx
          have e : (allB (merged P Q)).take n7 = allB P := by rw [htl, ← LX.out.2, List.take_left]
          rw [e] at h1
          exact h1
        have s1 : decide ((nb : Int) < (n7 : Int)) = false := decide_eq_false (by omega)
        have s2 : decide (nb < n7) = false := decide_eq_false (by omega)
        have s3 : (n7 : Int) ≤ (cb : Int) := by have := hcb.1; omega
        have s4 : n7 ≤ cb := by have := hcb.1; omega
        clear hbx hcb
        go_wp2_with fail
        refine RD.out.mono ?_
        clear RD
        rintro e T16 ⟨Aq, cq, rfl, hlq, hb⟩
        replace HB := Lib.hid (kp_call HB.out hb)
        replace OX := Lib.hid (OX.out.below hb (Nat.le_refl _))
        replace OY := Lib.hid (OY.out.below hb (Nat.le_refl _))
        replace IA := Lib.hid (IA.out.below hb)
        replace IC := Lib.hid (IC.out.below hb)
        replace OS := Lib.hid (OS.out.below hb (Nat.le_refl _))
        replace OB := Lib.hid (OB.out.below hb (Nat.le_refl _))
        replace HBX := Lib.hid (HBX.out.below hb)
        have LQR := Lib.hid hlq.r
        clear hb hlq
        have SM := Lib.hid (same_any Ab A7 n7 n7 cb c7 (allB P) (allB P) _ HBX.out OX.out.rb)
        rw [show (allB P == allB P) = true by simp] at SM
        go_wp2_with fail
        refine SM.out.mono ?_
        clear SM
        rintro e T17 ⟨rfl, rfl⟩
        have IT := Lib.hid (items_r LQR.out LQ.out.2 LQ.out.1 (Below.refl _ _))
        go_wp2_with fail
        refine IT.out.mono ?_
        clear IT s1 s2 s3 s4
        rintro e T18 ⟨Az, nz, cz, rfl, hiz, hb⟩
        replace HB := Lib.hid (kp_call HB.out hb)
        replace IA := Lib.hid (IA.out.below hb)
        replace IC := Lib.hid (IC.out.below hb)
        have IZ := Lib.hid hiz
        clear hb hiz OX OY OS OB HBX
        have NZ : Hid (nz ≤ 200000000000) := by
          have h1 := flat_len100' LQ.out.2 (by have := LQR.out.len; rw [this]; exact LQ.out.1)
          rw [IZ.out.len] at h1
          exact h1
        go_wp2
        go_loopw [23] (fun v wl => ∃ (i : Nat), v = .int .i64 (i : Int) ∧ i ≤ nz ∧ Below T18.heap.size T18 wl) (fun v _ => (nz - (intOf v).toNat))
        case atStart => exact ⟨0, rfl, Nat.zero_le _, Below.refl _ _⟩
        case round =>
          obtain ⟨i, rfl, hi, hbl⟩ := hrel
          have hnz := NZ.out
          rcases Nat.lt_or_ge i nz with hlt | hge
          · have l1 : decide ((i : Int) < (nz : Int)) = true := decide_eq_true (by omega)
            have l2 : decide (i < nz) = true := decide_eq_true hlt
            have l3 : IntKind.i64.wrap ((i : Int) + 1) = ((i + 1 : Nat) : Int) := IntWalk.i64_in _ (by omega)
            obtain ⟨x, z, b, off, hz, hxz, hA, hbb, hr, hx⟩ := (IZ.out.below hbl).at_ hlt
            subst hA
            have f0 : ∀ y : Up wr, y.w.cell? ⟨b, off + i * 2, none⟩ = some (.int .u8 (x.k.toNat : Int)) := Up.cell (hr 0 _ rfl)
            have f1 : ∀ y : Up wr, y.w.cell? ⟨b, off + i * 2 + 1, none⟩ = some (.slice x.a x.n x.c) := Up.cell (hr 1 _ rfl)
            have C1 := fun y : Up wr => in_r (IA.out.below hbl) (by have := HTT.out; omega) x z hx hxz y.b
            have C2 := fun y : Up wr => in_r (IC.out.below hbl) (by have := HTT.out; omega) x z hx hxz y.b
            have C3 := fun y : Up wr => in_r (IZ.out.below hbl) (by omega) x z hx hxz y.b
            have g1 := merged_in P Q z hz
            have g2 := merged_count P Q z hz
            have g3 : (flatK P).count z + (flatK Q).count z ≠ 0 := by
              rcases g1 with h | h
              · have := List.count_pos_iff.2 h; omega
              · have := List.count_pos_iff.2 h; omega
            have g4 : (flatK P).count z ≤ 1000000000000 ∧ (flatK Q).count z ≤ 1000000000000 := by
              have h1 := List.count_le_length (a := z) (l := flatK P)
              have h2 := List.count_le_length (a := z) (l := flatK Q)
              rw [IA.out.len] at h1
              rw [IC.out.len] at h2
              have := HTT.out
              exact ⟨by omega, by omega⟩
            generalize (flatK P).count z = p1 at *
            generalize (flatK Q).count z = p2 at *
            generalize (flatK (merged P Q)).count z = p3 at *
            subst g2
            obtain ⟨t3, ht3⟩ : ∃ t3, t3 = p1 + p2 := ⟨_, rfl⟩
            have w3 : IntKind.i64.wrap ((p1 : Int) + (p2 : Int)) = (t3 : Int) := by rw [show (p1 : Int) + (p2 : Int) = (t3 : Int) by omega]; exact IntWalk.i64_in _ (by omega)
            have q1 : ((t3 : Int) == 0) = false := beq_eq_false_iff_ne.2 (by omega)
            have q2 : (t3 == 0) = false := beq_eq_false_iff_ne.2 (by omega)
            have q3 : t3 ≠ 0 := by omega
            have HP2 : Hid (p1 = 0 → p2 ≠ 0 ∧ p2 ≤ 1000000000000) := fun h => ⟨by omega, g4.2⟩
            have HC1 := Lib.hid C1
            have HC2 := Lib.hid C2
            have HC3 := Lib.hid C3
            have HBL := Lib.hid hbl
            clear hz hxz hbb hr hx g1 g3 g4 ht3 C1 C2 C3 hbl hi
            rcases Nat.lt_or_ge p1 1 with hp | hp
            · obtain rfl : p1 = 0 := by omega
              rw [show max 0 1 = 1 from rfl] at HC3
              obtain ⟨hp2, hp3⟩ := HP2.out rfl
              have w4 : IntKind.i64.wrap (p2 : Int) = (p2 : Int) := IntWalk.i64_in _ (by omega)
              have w5 : IntKind.i64.wrap (0 + (p2 : Int)) = (p2 : Int) := by rw [Int.zero_add]; exact w4
              have q4 : ((p2 : Int) == 0) = false := beq_eq_false_iff_ne.2 (by omega)
              have q5 : (p2 == 0) = false := beq_eq_false_iff_ne.2 hp2
              clear w3 q1 q2 q3
              go_upto_region 30 with fail
              refine wp_region_up (by kernel_rfl) (by kernel_rfl) ?_
              repeat (go_big_quiet_step (first | (go_at_call 24; first | with_reducible exact Up.calls (HC1.out _) | with_reducible exact Up.calls (HC2.out _) | with_reducible exact Up.calls (HC3.out _))))
              refine wpQuiet_nil ?_
              rintro _ ⟨y, rfl⟩
              go_wp2
              go_roundw
              case rel => exact ⟨i + 1, rfl, hlt, kp_call HBL.out y.b⟩
              case measure => simp [intOf]; omega
            · rw [show max p1 1 = p1 by omega] at HC3
              have m1 : ¬ ((p1 : Int) < 1) := by omega
              have m2 : ¬ (p1 < 1) := by omega
              have m3 : (1 : Int) ≤ (p1 : Int) := by omega
              go_upto_region 30 with fail
              refine wp_region_up (by kernel_rfl) (by kernel_rfl) ?_
              repeat (go_big_quiet_step (first | (go_at_call 24; first | with_reducible exact Up.calls (HC1.out _) | with_reducible exact Up.calls (HC2.out _) | with_reducible exact Up.calls (HC3.out _))))
              refine wpQuiet_nil ?_
              rintro _ ⟨y, rfl⟩
              go_wp2
              go_roundw
              case rel => exact ⟨i + 1, rfl, hlt, kp_call HBL.out y.b⟩
              case measure => simp [intOf]; omega
          · have l1 : decide ((i : Int) < (nz : Int)) = false := decide_eq_false (by omega)
            have l2 : decide (i < nz) = false := decide_eq_false (by omega)
            have HBL := Lib.hid hbl
            have HSZ := Lib.hid HB.out.size
            clear hbl hi hge
            go_wp2
            go_loopw [24] (fun v wl => ∃ (i : Nat), v = .int .i64 (i : Int) ∧ i ≤ nc ∧ Below T18.heap.size T18 wl) (fun v _ => (nc - (intOf v).toNat))
            case atStart => exact ⟨0, rfl, Nat.zero_le _, HBL.out⟩
            case round =>
              obtain ⟨j, rfl, hi, hbl⟩ := hrel
              rcases Nat.lt_or_ge j nc with hlt | hge
              · have l1 : decide ((j : Int) < (nc : Int)) = true := decide_eq_true (by omega)
                have l2 : decide (j < nc) = true := decide_eq_true hlt
                have hnc := HTT.out.2.2.2.1
                have l3 : IntKind.i64.wrap ((j : Int) + 1) = ((j + 1 : Nat) : Int) := IntWalk.i64_in _ (by omega)
                obtain ⟨x, z, b, off, hz, hxz, hA, hbb, hr, hx⟩ := (IC.out.below hbl).at_ hlt
                subst hA
                have r0 : wr.cell? ⟨b, off + j * 2, none⟩ = some (.int .u8 (x.k.toNat : Int)) := hr 0 _ rfl
                have r1 : wr.cell? ⟨b, off + j * 2 + 1, none⟩ = some (.slice x.a x.n x.c) := hr 1 _ rfl
                have C3 := Lib.hid (in_r (IZ.out.below hbl) (by omega) x z hx hxz (Below.refl _ _))
                have g1 := List.count_pos_iff.2 (merged_has P Q z (.inr hz))
                generalize (flatK (merged P Q)).count z = p3 at *
                have q1 : ((p3 : Int) == 0) = false := beq_eq_false_iff_ne.2 (by omega)
                have q2 : (p3 == 0) = false := beq_eq_false_iff_ne.2 (by omega)
                have q3 : p3 ≠ 0 := by omega
                have HBL := Lib.hid hbl
                clear hz hxz hbb hr hx g1 hbl hi
                go_wp2_with fail
                refine C3.out.mono ?_
                clear C3 r0 r1
                rintro e w9 ⟨rfl, hb9⟩
                have HB9 := Lib.hid (kp_call HBL.out hb9)
                clear hb9
                go_wp2
                go_roundw
                case rel => exact ⟨j + 1, rfl, hlt, HB9.out⟩
                case measure => simp [intOf]; omega
              · have l1 : decide ((j : Int) < (nc : Int)) = false := decide_eq_false (by omega)
                have l2 : decide (j < nc) = false := decide_eq_false (by omega)
                replace HB := Lib.hid (HB.out.trans (hbl.mono HSZ.out))
                clear hbl hi hge
                go_wp2_with fail
                refine (WK.out _ HB.out).mono ?_
                rintro e Wz ⟨rfl, hbz⟩
                replace HB := Lib.hid (kp_call HB.out hbz)
                clear hbz
                go_wp2
                go_ret
                exact ⟨rfl, HB.out⟩
end Go.Proofs.YtfampefflkkckaaDoor
