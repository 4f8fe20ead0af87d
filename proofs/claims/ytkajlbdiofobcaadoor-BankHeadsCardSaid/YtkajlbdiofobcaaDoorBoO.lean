/-
  bank: the row BankHeads, walked (made by genBoO.py).
-/
import Derived.Test.YtkajlbdiofobcaaDoorBoN
namespace Go.Proofs.YtkajlbdiofobcaaDoor
open Go.RowKit Go
set_option linter.unusedVariables false
set_option linter.unusedSimpArgs false
set_option maxRecDepth 100000
set_option maxHeartbeats 32000000 in
theorem heads_row (A : Option Addr) (n c : Nat) (os : Nat → BOp) (gi ni pi : Int) (w : World) (ho : IsBOps w A n c os ∧ ∀ r, r < n → (os r).kn ≤ 140737488351232 ∧ (os r).vn ≤ 140737488351232) (hgi : (Lit.int .u32 gi).wf = true) (hni : (Lit.int .u16 ni).wf = true) (hpi : (Lit.int .u8 pi).wf = true) (ht : Tabs w) :
    Calls Tryd.prog 7 #[.slice A n c, .int .u32 gi, .int .u16 ni, .int .u8 pi] w fun e w' => e = .returned (.bool true) ∧ Below w.heap.size w w' := by
  have HT := Lib.hid ht
  have WK := Lib.hid (fun (W : World) (hb : Below w.heap.size w W) => works8_any W (HT.out.below hb))
  by_cases hn : 20 < n
  · have p1 : decide ((n : Int) > 20) = true := decide_eq_true (by omega)
    clear ho
    go_enter Tryd.func7, Tryd.ntmps7
    go_wp2_with fail
    refine (WK.out _ (Below.refl _ _)).mono ?_
    rintro e w2 ⟨rfl, hb2⟩
    go_wp2
    go_ret
    exact ⟨rfl, hb2⟩
  have p1 : decide ((n : Int) > 20) = false := decide_eq_false (by omega)
  have b1 := bounds_u32 hgi
  have b2 := bounds_u16 hni
  have b3 := bounds_u8 hpi
  obtain ⟨gen, rfl⟩ : ∃ q : Nat, gi = (q : Int) := ⟨gi.toNat, by omega⟩
  obtain ⟨nn, rfl⟩ : ∃ q : Nat, ni = (q : Int) := ⟨ni.toNat, by omega⟩
  obtain ⟨pp, rfl⟩ : ∃ q : Nat, pi = (q : Int) := ⟨pi.toNat, by omega⟩
  obtain ⟨L, hL⟩ : ∃ L, nn % 40 = L := ⟨_, rfl⟩
  have ew : IntKind.i64.wrap (nn : Int) = (nn : Int) := IntWalk.i64_in _ (by omega)
  have ep : IntKind.i64.wrap (pp : Int) = (pp : Int) := IntWalk.i64_in _ (by omega)
  have tm : Int.tmod (nn : Int) 40 = (L : Int) := by rw [Int.tmod_eq_emod_of_nonneg (by omega)]; omega
  have HG : Hid (gen < 4294967296 ∧ L < 40) := ⟨by omega, by omega⟩
  have BG := Lib.hid (begun_any A n c os w ho.1 ho.2 (by omega) ht)
  clear b1 b2 b3 hgi hni hpi hL ho ht
  go_enter Tryd.func7, Tryd.ntmps7
  go_wp2_with fail
  refine BG.out.mono ?_
  rintro e w1 ⟨b, g, a, cc, S, rs, k, hb1, hcase⟩
  rcases hcase with rfl | ⟨rfl, hbeg⟩
  · clear BG
    go_wp2_with fail
    refine (WK.out _ hb1).mono ?_
    rintro e w2 ⟨rfl, hb2⟩
    have HB2 := Lib.hid (kp_call hb1 hb2)
    clear hb1 hb2
    go_wp2
    go_ret
    exact ⟨rfl, HB2.out⟩
  have HBEG := Lib.hid hbeg
  clear BG hb1 hbeg
  go_wp2_with fail
  refine (fimage_any HBEG.out.bk.fl).mono ?_
  rintro e w2 ⟨AW, nW, cW, rfl, hoW, hb2⟩
  have hblen : S.bs.length = 2048 := by have := HBEG.out.bk.bytes; rw [HBEG.out.n8, HBEG.out.s8] at this; exact this
  obtain rfl : nW = 2048 := hoW.len.symm.trans hblen
  have HOW := Lib.hid hoW
  have HK2 := Lib.hid (HBEG.out.bk.below hb2)
  have HB2 := Lib.hid (kp_call HBEG.out.bel hb2)
  have GA : Hid (g < w1.heap.size ∧ a < w1.heap.size) := ⟨HBEG.out.bk.fl.alt, (HBEG.out.bk.fl.own.blk_lt rfl).2⟩
  have S0 : Hid (S.off = false ∧ S.n = 8 ∧ S.s = 256 ∧ S.bs.length = 2048 ∧ S.bs = bankL (hdR 1) rs k ∧ S.wr ≤ 100000000) := ⟨HBEG.out.off, HBEG.out.n8, HBEG.out.s8, hblen, HBEG.out.bs, by have := HBEG.out.wr; omega⟩
  clear hoW hb2 hblen HBEG
  go_wp2_with fail
  refine (farm_any HK2.out.fl S0.out.1 L pp (by have := HG.out; omega)).mono ?_
  rintro e w3 ⟨rfl, hf3, hfar3⟩
  have hK3 := HK2.out.next hf3 rfl rfl hfar3
  obtain ⟨S', hS'⟩ : ∃ S' : FS, { S with left := L, part := pp } = S' := ⟨_, rfl⟩
  have S1 : Hid (S'.off = false ∧ S'.n = 8 ∧ S'.s = 256 ∧ S'.bs.length = 2048 ∧ S'.bs = S.bs ∧ S'.wr ≤ 100000000) := by
    subst hS'; obtain ⟨a1, a2, a3, a4, a5, a6⟩ := S0.out; exact ⟨a1, a2, a3, a4, rfl, a6⟩
  rw [hS'] at hK3
  have HK3 := Lib.hid hK3
  have HB3 : Hid (Below w.heap.size w w3) := HB2.out.trans (hfar3.below HK2.out.fl.gb (HK2.out.fl.own.blk_lt rfl).1 HB2.out.size)
  have HOW3 : Hid (OwnB w3 w1.heap.size AW 2048 cW S.bs) := OwnR.far HOW.out.row hfar3 GA.out.1 GA.out.2
  clear hf3 hfar3 hK3 hS' HK2 HB2 HOW tm ew ep
  go_wp2_with fail
  refine (format_any HT.out (Nat.le_refl _) HB3.out HK3.out (by have := S1.out.2.2.2.2.2; omega) gen HG.out.1).mono ?_
  rintro e w4 ⟨rfl, hK4, hfar4⟩
  have HK4 := Lib.hid hK4
  have HB4 : Hid (Below w.heap.size w w4) := HB3.out.trans (hfar4.below HK3.out.fl.gb (HK3.out.fl.own.blk_lt rfl).1 HB3.out.size)
  have HOW4 : Hid (OwnB w4 w1.heap.size AW 2048 cW S.bs) := OwnR.far HOW3.out.row hfar4 GA.out.1 GA.out.2
  have FO := fmt_out gen S' S1.out.1 S1.out.2.1 S1.out.2.2.1 S1.out.2.2.2.1
  have FW : Hid ((fmtQ gen 0 8 S').1.wr ≤ 200000000) := by
    rcases Nat.lt_or_ge 200000000 (fmtQ gen 0 8 S').1.wr with h | h
    · exact absurd h (by have := fmtQ_wr gen 0 8 S'; have := S1.out.2.2.2.2.2; omega)
    · exact h
  clear hK4 hfar4 HK3 HB3 HOW3
  rw [S1.out.2.2.2.2.1] at FO
  generalize fmtQ gen 0 8 S' = R at *
  obtain ⟨T, r⟩ := R
  simp only at FO HK4 FW ⊢
  rcases FO with ⟨rfl, ft1, ft2, ft3, ft4⟩ | ⟨rfl, ft1, ft2, ft3, ft4⟩
  · have RO := ready_out gen T ft1 ft2 ft3 ft4
    go_wp2_with fail
    refine (ready_any HK4.out (by have := FW.out; omega)).mono ?_
    rintro e w5 ⟨rfl, hK5, hfar5⟩
    have HK5 := Lib.hid hK5
    have HB5 : Hid (Below w.heap.size w w5) := HB4.out.trans (hfar5.below HK4.out.fl.gb (HK4.out.fl.own.blk_lt rfl).1 HB4.out.size)
    have HOW5 : Hid (OwnB w5 w1.heap.size AW 2048 cW S.bs) := OwnR.far HOW4.out.row hfar5 GA.out.1 GA.out.2
    clear hK5 hfar5 HK4 HB4 HOW4 ft1 ft2 ft3 ft4 FW
    generalize progR [254] (0 * T.s + 12) T = R at *
    obtain ⟨T, r⟩ := R
    simp only at RO HK5 ⊢
    rcases RO with ⟨rfl, ft1, ft2, ft3, ft4⟩ | ⟨rfl, ft1, ft2, ft3, ft4⟩
    · have TF : Hid (T.off = false ∧ T.n = 8 ∧ T.s = 256 ∧ T.bs = bankL (hdR gen) [] 2032) := ⟨ft1, ft2, ft3, ft4⟩
      clear ft1 ft2 ft3 ft4
      go_wp2_with fail
      refine (fdead_any HK5.out.fl).mono ?_
      rintro e v5 ⟨he5, hv5⟩
      rw [TF.out.1] at he5
      subst he5
      subst v5
      go_wp2_with fail
      refine (fon_on HK5.out.fl TF.out.1).mono ?_
      rintro e w6 ⟨rfl, hf6, hfar6⟩
      have hK6 := HK5.out.next hf6 rfl rfl hfar6
      have HK6 := Lib.hid hK6
      have HB6 : Hid (Below w.heap.size w w6) := HB5.out.trans (hfar6.below HK5.out.fl.gb (HK5.out.fl.own.blk_lt rfl).1 HB5.out.size)
      have hbk : T.bank 0 8 = bankL (hdR gen) [] 2032 := bank_of (A := []) (B := []) (by simpa using TF.out.2.2.2) (by simp) (by rw [TF.out.2.2.1, bankL_len, hdR_len]; rfl)
      have HD := Lib.hid (head_on (HT.out.below HB6.out) hK6 TF.out.1)
      rw [hbk, head_hd gen HG.out.1] at HD
      have HBK := Lib.hid hbk
      clear hf6 hfar6 hK6 HK5 HB5 HOW5 hbk
      go_wp2_with fail
      refine HD.out.mono ?_
      rintro e w7 ⟨rfl, hb7⟩
      have HB7 := Lib.hid (kp_call HB6.out hb7)
      have SC := Lib.hid (scan_any (HT.out.below HB7.out) (HK6.out.below hb7) TF.out.1)
      rw [HBK.out] at SC
      clear HD hb7 HK6 HB6
      go_wp2_with fail
      refine SC.out.mono ?_
      intro e w8 hp
      obtain ⟨A8, c8, ys, rfl, hm, ho8, hv8, hb8⟩ := scan_calm (hdR_len gen) (fun r hr => by cases hr) hp
      have HB8 := Lib.hid (kp_call HB7.out hb8)
      have e16 : ((16 + (layAll ([] : List RL)).length : Nat) : Int) = 16 := rfl
      rw [e16, show (([] : List RL).length) = 0 from rfl]
      clear SC hp hm ho8 hv8 hb8 HB7
      go_wp2_with fail
      refine (WK.out _ HB8.out).mono ?_
      rintro e w9 ⟨rfl, hb9⟩
      have HB9 := Lib.hid (kp_call HB8.out hb9)
      clear hb9 HB8
      go_wp2
      go_ret
      exact ⟨rfl, HB9.out⟩
    · have HKd := HK5
      have HBd := HB5
      have HOWd := HOW5
      have TF : Hid (T.off = true ∧ T.n = 8 ∧ T.s = 256 ∧ (T.bs = S.bs ∨ T.bs[0]? = some 255 ∨ T.bs[12]? = some 255)) := ⟨ft1, ft2, ft3, .inr (.inr ft4)⟩
      clear ft1 ft2 ft3 ft4 HK5 HB5 HOW5
      go_wp2_with fail
      refine (fdead_any HKd.out.fl).mono ?_
      rintro e v5 ⟨he5, hv5⟩
      rw [TF.out.1] at he5
      subst he5
      subst v5
      go_wp2_with fail
      refine (fon_off HKd.out.fl TF.out.1).mono ?_
      rintro e w6 ⟨rfl, hf6, hfar6⟩
      have hK6 := HKd.out.next hf6 rfl rfl hfar6
      have HK6 := Lib.hid hK6
      have HB6 : Hid (Below w.heap.size w w6) := HBd.out.trans (hfar6.below HKd.out.fl.gb (HKd.out.fl.own.blk_lt rfl).1 HBd.out.size)
      have HOW6 : Hid (OwnB w6 w1.heap.size AW 2048 cW S.bs) := OwnR.far HOWd.out.row hfar6 GA.out.1 GA.out.2
      have hbk : (FS.bank { T with off := false } 0 8) = T.bs := by
        have hl := hK6.bytes
        have h2 : (FS.n { T with off := false }) = 8 := TF.out.2.1
        have h3 : (FS.s { T with off := false }) = 256 := TF.out.2.2.1
        rw [h2, h3] at hl
        exact bank_of (A := []) (B := []) (by simp) (by simp) (by rw [h3]; exact hl)
      have hTl : Hid (T.bs.length = 2048) := by
        have hl := hK6.bytes
        have h2 : (FS.n { T with off := false }) = 8 := TF.out.2.1
        have h3 : (FS.s { T with off := false }) = 256 := TF.out.2.2.1
        rw [h2, h3] at hl
        exact hl
      have HD := Lib.hid (head_on (HT.out.below HB6.out) hK6 rfl)
      rw [hbk] at HD
      clear hf6 hfar6 hK6 HKd HBd HOWd hbk
      rcases TF.out.2.2.2 with hc | hc
      · rw [hc, S0.out.2.2.2.2.1, head_hd 1 (by omega)] at HD
        have HTB : Hid (T.bs = S.bs) := hc
        clear hc
        go_wp2_with fail
        refine HD.out.mono ?_
        rintro e w7 ⟨rfl, hb7⟩
        have hOW7 := HOW6.out.below hb7 (Nat.le_refl _)
        have HB7 := Lib.hid (kp_call HB6.out hb7)
        have IM := Lib.hid (fun W (hb : Below w7.heap.size w7 W) => fimage_any ((HK6.out.below hb7).fl.below hb))
        have HFI : Hid ((FS.bs { T with off := false }) = S.bs) := HTB.out
        rw [HFI.out] at IM
        obtain ⟨GW, rfl, hg1, hg2⟩ := hOW7.shape (by have := hOW7.cap.1; omega)
        have RW : Hid (∀ W, Below w7.heap.size w7 W → RB W (some ⟨GW, 0, none⟩) 13 (S.bs.take 13)) := fun W hb => rb_take (hOW7.rb.below hb) (by omega)
        have hcW : (13 : Int) ≤ (cW : Int) := by have := hOW7.cap.1; omega
        have hcW' : 13 ≤ cW := by have := hOW7.cap.1; omega
        have B7 := Lib.hid (Below.refl w7.heap.size w7)
        have HSL : Hid (S.bs.length = 2048) := S0.out.2.2.2.1
        clear HD hb7 HOW6 HK6 hOW7 HTB
        go_wp2_with fail
        go_region_held3 (fun W => Below w7.heap.size w7 W) (repeat (with_reducible (first | assumption | exact B7.out | refine kp_drew ?_ | refine kp_call ?_ (by assumption))))
          (first
            | (go_at_call 27; (with_reducible refine (IM.out _ (by first | assumption | exact B7.out | exact kp_drew B7.out)).mono ?_); (rintro e X1 ⟨A1, n1, c1, rfl, ho1, hb1⟩; have H1 : Below w7.heap.size w7 X1 := (by first | exact hb1 | exact (kp_drew (Below.refl _ _)).trans hb1); obtain rfl : n1 = 2048 := ho1.len.symm.trans HSL.out; obtain ⟨G1, rfl, hq1, hq2⟩ := ho1.shape (by have := ho1.cap.1; omega); have hc1 : (13 : Int) ≤ (c1 : Int) := (by have := ho1.cap.1; omega); have hc1' : 13 ≤ c1 := (by have := ho1.cap.1; omega); have R1 := Lib.hid (rb_take ho1.rb (show 13 ≤ 2048 by omega)); have HH1 := Lib.hid H1; clear ho1))
            | (go_at_call 28; (with_reducible refine (same7_one (some ⟨G1, 0, none⟩) (some ⟨GW, 0, none⟩) 13 c1 cW (S.bs.take 13) X1 R1.out (RW.out _ HH1.out) (by omega)).mono ?_); (rintro e X2 ⟨rfl, hb2⟩; have H2 : Below w7.heap.size w7 X2 := kp_call HH1.out hb2; have HH2 := Lib.hid H2))
            | (go_at_call 10; (with_reducible refine (WK.out _ (kp_call HB7.out (by first | assumption | exact HH2.out))).mono ?_); (rintro e X3 ⟨rfl, hb3⟩; have H3 : Below w7.heap.size w7 X3 := kp_call HH2.out hb3)))
        all_goals
          have HF := Lib.hid (kp_call HB7.out H3)
          clear H1 H2 H3 hb1 hb2 hb3
          go_wp2
          go_ret
          exact ⟨rfl, HF.out⟩
      · have hrd := cut_head (by have := hTl.out; omega) hc
        obtain ⟨gq, hgq⟩ : ∃ gq, (headQ T.bs).1 = gq := ⟨_, rfl⟩
        rw [hrd, hgq] at HD
        clear hrd hgq hc
        go_wp2_with fail
        refine HD.out.mono ?_
        rintro e w7 ⟨rfl, hb7⟩
        have HB7 := Lib.hid (kp_call HB6.out hb7)
        clear HD hb7 HOW6 HK6
        go_wp2_with fail
        refine wp_region_up (by kernel_rfl) (by kernel_rfl) ?_
        repeat (go_big_quiet_step (first | (go_at_call 10; with_reducible exact Up.calls (WK.out _ (kp_call HB7.out (Up.b _))))))
        refine wpQuiet_nil ?_
        rintro _ ⟨x, rfl⟩
        have hbx := Lib.hid (kp_call HB7.out x.b)
        go_wp2
        go_ret
        exact ⟨rfl, hbx.out⟩
  · have HKd := HK4
    have HBd := HB4
    have HOWd := HOW4
    have TF : Hid (T.off = true ∧ T.n = 8 ∧ T.s = 256 ∧ (T.bs = S.bs ∨ T.bs[0]? = some 255 ∨ T.bs[12]? = some 255)) := ⟨ft1, ft2, ft3, ft4⟩
    clear ft1 ft2 ft3 ft4 HK4 HB4 HOW4
    go_wp2_with fail
    refine (fdead_any HKd.out.fl).mono ?_
    rintro e v5 ⟨he5, hv5⟩
    rw [TF.out.1] at he5
    subst he5
    subst v5
    go_wp2_with fail
    refine (fon_off HKd.out.fl TF.out.1).mono ?_
    rintro e w6 ⟨rfl, hf6, hfar6⟩
    have hK6 := HKd.out.next hf6 rfl rfl hfar6
    have HK6 := Lib.hid hK6
    have HB6 : Hid (Below w.heap.size w w6) := HBd.out.trans (hfar6.below HKd.out.fl.gb (HKd.out.fl.own.blk_lt rfl).1 HBd.out.size)
    have HOW6 : Hid (OwnB w6 w1.heap.size AW 2048 cW S.bs) := OwnR.far HOWd.out.row hfar6 GA.out.1 GA.out.2
    have hbk : (FS.bank { T with off := false } 0 8) = T.bs := by
      have hl := hK6.bytes
      have h2 : (FS.n { T with off := false }) = 8 := TF.out.2.1
      have h3 : (FS.s { T with off := false }) = 256 := TF.out.2.2.1
      rw [h2, h3] at hl
      exact bank_of (A := []) (B := []) (by simp) (by simp) (by rw [h3]; exact hl)
    have hTl : Hid (T.bs.length = 2048) := by
      have hl := hK6.bytes
      have h2 : (FS.n { T with off := false }) = 8 := TF.out.2.1
      have h3 : (FS.s { T with off := false }) = 256 := TF.out.2.2.1
      rw [h2, h3] at hl
      exact hl
    have HD := Lib.hid (head_on (HT.out.below HB6.out) hK6 rfl)
    rw [hbk] at HD
    clear hf6 hfar6 hK6 HKd HBd HOWd hbk
    rcases TF.out.2.2.2 with hc | hc
    · rw [hc, S0.out.2.2.2.2.1, head_hd 1 (by omega)] at HD
      have HTB : Hid (T.bs = S.bs) := hc
      clear hc
      go_wp2_with fail
      refine HD.out.mono ?_
      rintro e w7 ⟨rfl, hb7⟩
      have hOW7 := HOW6.out.below hb7 (Nat.le_refl _)
      have HB7 := Lib.hid (kp_call HB6.out hb7)
      have IM := Lib.hid (fun W (hb : Below w7.heap.size w7 W) => fimage_any ((HK6.out.below hb7).fl.below hb))
      have HFI : Hid ((FS.bs { T with off := false }) = S.bs) := HTB.out
      rw [HFI.out] at IM
      obtain ⟨GW, rfl, hg1, hg2⟩ := hOW7.shape (by have := hOW7.cap.1; omega)
      have RW : Hid (∀ W, Below w7.heap.size w7 W → RB W (some ⟨GW, 0, none⟩) 13 (S.bs.take 13)) := fun W hb => rb_take (hOW7.rb.below hb) (by omega)
      have hcW : (13 : Int) ≤ (cW : Int) := by have := hOW7.cap.1; omega
      have hcW' : 13 ≤ cW := by have := hOW7.cap.1; omega
      have B7 := Lib.hid (Below.refl w7.heap.size w7)
      have HSL : Hid (S.bs.length = 2048) := S0.out.2.2.2.1
      clear HD hb7 HOW6 HK6 hOW7 HTB
      go_wp2_with fail
      go_region_held3 (fun W => Below w7.heap.size w7 W) (repeat (with_reducible (first | assumption | exact B7.out | refine kp_drew ?_ | refine kp_call ?_ (by assumption))))
        (first
          | (go_at_call 27; (with_reducible refine (IM.out _ (by first | assumption | exact B7.out | exact kp_drew B7.out)).mono ?_); (rintro e X1 ⟨A1, n1, c1, rfl, ho1, hb1⟩; have H1 : Below w7.heap.size w7 X1 := (by first | exact hb1 | exact (kp_drew (Below.refl _ _)).trans hb1); obtain rfl : n1 = 2048 := ho1.len.symm.trans HSL.out; obtain ⟨G1, rfl, hq1, hq2⟩ := ho1.shape (by have := ho1.cap.1; omega); have hc1 : (13 : Int) ≤ (c1 : Int) := (by have := ho1.cap.1; omega); have hc1' : 13 ≤ c1 := (by have := ho1.cap.1; omega); have R1 := Lib.hid (rb_take ho1.rb (show 13 ≤ 2048 by omega)); have HH1 := Lib.hid H1; clear ho1))
          | (go_at_call 28; (with_reducible refine (same7_one (some ⟨G1, 0, none⟩) (some ⟨GW, 0, none⟩) 13 c1 cW (S.bs.take 13) X1 R1.out (RW.out _ HH1.out) (by omega)).mono ?_); (rintro e X2 ⟨rfl, hb2⟩; have H2 : Below w7.heap.size w7 X2 := kp_call HH1.out hb2; have HH2 := Lib.hid H2))
          | (go_at_call 10; (with_reducible refine (WK.out _ (kp_call HB7.out (by first | assumption | exact HH2.out))).mono ?_); (rintro e X3 ⟨rfl, hb3⟩; have H3 : Below w7.heap.size w7 X3 := kp_call HH2.out hb3)))
      all_goals
        have HF := Lib.hid (kp_call HB7.out H3)
        clear H1 H2 H3 hb1 hb2 hb3
        go_wp2
        go_ret
        exact ⟨rfl, HF.out⟩
    · have hrd := cut_head (by have := hTl.out; omega) hc
      obtain ⟨gq, hgq⟩ : ∃ gq, (headQ T.bs).1 = gq := ⟨_, rfl⟩
      rw [hrd, hgq] at HD
      clear hrd hgq hc
      go_wp2_with fail
      refine HD.out.mono ?_
      rintro e w7 ⟨rfl, hb7⟩
      have HB7 := Lib.hid (kp_call HB6.out hb7)
      clear HD hb7 HOW6 HK6
      go_wp2_with fail
      refine wp_region_up (by kernel_rfl) (by kernel_rfl) ?_
      repeat (go_big_quiet_step (first | (go_at_call 10; with_reducible exact Up.calls (WK.out _ (kp_call HB7.out (Up.b _))))))
      refine wpQuiet_nil ?_
      rintro _ ⟨x, rfl⟩
      have hbx := Lib.hid (kp_call HB7.out x.b)
      go_wp2
      go_ret
      exact ⟨rfl, hbx.out⟩
end Go.Proofs.YtkajlbdiofobcaaDoor
