/-
  bank: the row BankKills, walked (made by genBoG.py).
-/
import Derived.Test.YtkajlbdiofobcaaDoorBo2
namespace Go.Proofs.YtkajlbdiofobcaaDoor
open Go.RowKit Go
set_option linter.unusedVariables false
set_option linter.unusedSimpArgs false
set_option maxRecDepth 100000
set_option maxHeartbeats 16000000 in
theorem kills_row (A : Option Addr) (n c : Nat) (os : Nat → BOp) (i : Int) (dk : Bool) (w : World) (ho : IsBOps w A n c os ∧ ∀ r, r < n → (os r).kn ≤ 140737488351232 ∧ (os r).vn ≤ 140737488351232) (hi : (Lit.int .i64 i).wf = true) (ht : Tabs w) :
    Calls Tryd.prog 5 #[.slice A n c, .int .i64 i, .bool dk] w fun e w' => e = .returned (.bool true) ∧ Below w.heap.size w w' := by
  have HT := Lib.hid ht
  have WK := Lib.hid (fun (W : World) (hb : Below w.heap.size w W) => works8_any W (HT.out.below hb))
  by_cases hn : 20 < n
  · have p1 : decide ((n : Int) > 20) = true := decide_eq_true (by omega)
    clear ho
    go_enter Tryd.func5, Tryd.ntmps5
    go_wp2_with fail
    refine (WK.out _ (Below.refl _ _)).mono ?_
    rintro e w2 ⟨rfl, hb2⟩
    go_wp2
    go_ret
    exact ⟨rfl, hb2⟩
  have p1 : decide ((n : Int) > 20) = false := decide_eq_false (by omega)
  have BG := Lib.hid (begun_any A n c os w ho.1 ho.2 (by omega) ht)
  clear ho ht
  go_enter Tryd.func5, Tryd.ntmps5
  go_wp2_with fail
  refine BG.out.mono ?_
  rintro e w1 ⟨b, g, a, cc, S, rs, k, hb1, hcase⟩
  rcases hcase with rfl | ⟨rfl, hbeg⟩
  · clear BG
    go_wp2_with fail
    refine (WK.out _ hb1).mono ?_
    rintro e w2 ⟨rfl, hb2⟩
    have HB2 := Lib.hid (kp_call hb1 hb2)
    clear hb1 hb2
    go_wp2
    go_ret
    exact ⟨rfl, HB2.out⟩
  have HBEG := Lib.hid hbeg
  have LK := Lib.hid (look_seen (HT.out.below hb1) hbeg.bk hbeg.off hbeg.bs hbeg.blen hbeg.ok (by have := hbeg.len; omega))
  clear BG hb1 hbeg
  go_wp2_with fail
  refine LK.out.mono ?_
  rintro e w2 ⟨B, d, ds, rfl, hpl, hD, hb2⟩
  have SN := Lib.hid (seen_of HBEG.out (by omega) hD hpl hb2)
  have hoff : Hid (S.off = false) := HBEG.out.off
  have hleft : Hid (S.left = 0) := HBEG.out.left
  have hlen20 : Hid (rs.length ≤ 20) := SN.out.len
  have HB1 := Lib.hid HBEG.out.bel
  clear LK hpl hD hb2 HBEG
  have HPL := Lib.hid SN.out.pl
  have GA := Lib.hid SN.out.ga
  have HBL := Lib.hid SN.out.blen
  cases dk with
  | true =>
    have AR := Lib.hid (farm_any SN.out.bk.fl hoff.out 1 0 (by omega))
    go_wp2_with fail
    refine AR.out.mono ?_
    rintro e w3 ⟨rfl, hf3, hfar3⟩
    have hK3 := SN.out.bk.next hf3 rfl rfl hfar3
    obtain ⟨hD3, hb3⟩ := SN.out.far hK3 hfar3 (rs' := rs)
    have SN3 : Hid (Seen w w3 w1.heap.size b g a cc { S with left := 1, part := 0 } rs k B d ds) := ⟨hK3, SN.out.s8, SN.out.n8, SN.out.bs, SN.out.ok, SN.out.len, SN.out.wr, hD3, SN.out.pl, SN.out.ga, hb3⟩
    have KL := Lib.hid (kill_any (HT.out.below hb3) hK3 hoff.out i (by have := SN.out.wr; show S.wr < _; omega))
    clear AR hf3 hfar3 hK3 hD3 hb3 SN
    go_wp2_with fail
    refine KL.out.mono ?_
    rintro e w4 ⟨T, r, rfl, hki, hK4, hfar4⟩
    obtain ⟨hD4, hb4⟩ := SN3.out.far hK4 hfar4 (rs' := rs)
    have hcs := kill_cases 0 8 { S with left := 1, part := 0 } [] (hdR 1) [] rs k i T r (by simpa using SN3.out.bs) (by simp) SN3.out.blen (hdR_len 1) SN3.out.ok hki
    rcases hcs with ⟨hno, rfl, rfl⟩ | ⟨j, r0, rfl, hr0, ⟨_, rfl, rfl⟩ | ⟨hne, _, _⟩⟩
    · have hoffT : (FS.off { S with left := 1, part := 0 }) = false := hoff.out
      have hbsT : (FS.bs { S with left := 1, part := 0 }) = bankL (hdR 1) rs k := SN3.out.bs
      have SOK := Lib.hid SN3.out.ok
      clear SN3
      have hlenR : Hid ((rs).length = rs.length) := rfl
      have ON := Lib.hid (fon_on hK4.fl hoffT)
      have HK4 := Lib.hid hK4
      have HD4 := Lib.hid hD4
      have HB4 := Lib.hid hb4
      have HBS := Lib.hid hbsT
      clear hK4 hD4 hb4 hbsT hoffT hfar4 KL hki
      go_wp2_with fail
      refine ON.out.mono ?_
      rintro e w5 ⟨rfl, hf5, hfar5⟩
      have hK5 := HK4.out.next hf5 rfl rfl hfar5
      have hD5 := HD4.out.far hfar5 GA.out.1 GA.out.2
      have hb5 := HB4.out.trans (hfar5.below HK4.out.fl.gb (HK4.out.fl.own.blk_lt rfl).1 HB4.out.size)
      have hbl : (bankL (hdR 1) (rs) k).length = 8 * S.s := by
        have h1 := HBL.out
        rw [bankL_len] at h1 ⊢
        have h2 := (rfl : (layAll rs).length = _)
        omega
      have LK := Lib.hid (look_seen (HT.out.below hb5) hK5 hoff.out HBS.out hbl SOK.out (by have := hlenR.out; have := hlen20.out; omega))
      have HD5 := Lib.hid hD5
      have HB5 := Lib.hid hb5
      clear ON hf5 hfar5 hK5 hD5 hb5 hbl HK4 HD4 HB4 HBS
      go_wp2_with fail
      refine LK.out.mono ?_
      rintro e w6 ⟨B2, d2, ds2, he6, hpl2, hD2, hb6⟩
      subst he6
      have HD6 := Lib.hid (HD5.out.below hb6)
      have HB6 := Lib.hid (kp_call HB5.out hb6)
      have HD2 := Lib.hid hD2
      have HPL2 := Lib.hid hpl2
      clear LK hpl2 hD2 hb6 HD5 HB5
      rcases (show i < 0 ∨ (0 ≤ i ∧ (rs.length : Int) ≤ i) by omega) with hi1 | ⟨hi1, hi2⟩
      · have q1 : decide (i < 0) = true := decide_eq_true hi1
        clear hi1 hno
        go_wp2_with fail
        refine (samerecs_any B B2 rs.length d rs.length d2 ds ds2 w6 HD6.out.dvs HD2.out.dvs (by have := hlen20.out; omega) (by have := hlen20.out; omega)).mono ?_
        rintro e w7 ⟨v, rfl, hv, hb7⟩
        obtain rfl : v = true := hv.2 (by rw [HPL2.out]; exact HPL.out)
        have HB7 := Lib.hid (kp_call HB6.out hb7)
        clear hv hb7 HB6 HD6 HD2
        go_wp2_with fail
        refine (WK.out _ HB7.out).mono ?_
        rintro e w8 ⟨rfl, hb8⟩
        have HB8 := Lib.hid (kp_call HB7.out hb8)
        clear hb8 HB7
        go_wp2
        go_ret
        exact ⟨rfl, HB8.out⟩
      · have q1 : decide (i < 0) = false := decide_eq_false (by omega)
        have q2 : decide (i ≥ (rs.length : Int)) = true := decide_eq_true hi2
        clear hi1 hi2 hno
        go_wp2_with fail
        refine (samerecs_any B B2 rs.length d rs.length d2 ds ds2 w6 HD6.out.dvs HD2.out.dvs (by have := hlen20.out; omega) (by have := hlen20.out; omega)).mono ?_
        rintro e w7 ⟨v, rfl, hv, hb7⟩
        obtain rfl : v = true := hv.2 (by rw [HPL2.out]; exact HPL.out)
        have HB7 := Lib.hid (kp_call HB6.out hb7)
        clear hv hb7 HB6 HD6 HD2
        go_wp2_with fail
        refine (WK.out _ HB7.out).mono ?_
        rintro e w8 ⟨rfl, hb8⟩
        have HB8 := Lib.hid (kp_call HB7.out hb8)
        clear hb8 HB7
        go_wp2
        go_ret
        exact ⟨rfl, HB8.out⟩
    · have hoffT : (FS.off { S with off := true, left := 0, part := 0 }) = true := rfl
      have hbsT : (FS.bs { S with off := true, left := 0, part := 0 }) = bankL (hdR 1) rs k := SN3.out.bs
      have SOK := Lib.hid SN3.out.ok
      clear SN3
      have hlenR : Hid ((rs).length = rs.length) := rfl
      have ON := Lib.hid (fon_off hK4.fl hoffT)
      have HK4 := Lib.hid hK4
      have HD4 := Lib.hid hD4
      have HB4 := Lib.hid hb4
      have HBS := Lib.hid hbsT
      clear hK4 hD4 hb4 hbsT hoffT hfar4 KL hki
      go_wp2_with fail
      refine ON.out.mono ?_
      rintro e w5 ⟨rfl, hf5, hfar5⟩
      have hK5 := HK4.out.next hf5 rfl rfl hfar5
      have hD5 := HD4.out.far hfar5 GA.out.1 GA.out.2
      have hb5 := HB4.out.trans (hfar5.below HK4.out.fl.gb (HK4.out.fl.own.blk_lt rfl).1 HB4.out.size)
      have hbl : (bankL (hdR 1) (rs) k).length = 8 * S.s := by
        have h1 := HBL.out
        rw [bankL_len] at h1 ⊢
        have h2 := (rfl : (layAll rs).length = _)
        omega
      have LK := Lib.hid (look_seen (HT.out.below hb5) hK5 rfl HBS.out hbl SOK.out (by have := hlenR.out; have := hlen20.out; omega))
      have HD5 := Lib.hid hD5
      have HB5 := Lib.hid hb5
      clear ON hf5 hfar5 hK5 hD5 hb5 hbl HK4 HD4 HB4 HBS
      go_wp2_with fail
      refine LK.out.mono ?_
      rintro e w6 ⟨B2, d2, ds2, he6, hpl2, hD2, hb6⟩
      subst he6
      have HD6 := Lib.hid (HD5.out.below hb6)
      have HB6 := Lib.hid (kp_call HB5.out hb6)
      have HD2 := Lib.hid hD2
      have HPL2 := Lib.hid hpl2
      clear LK hpl2 hD2 hb6 HD5 HB5
      have hjl : j < rs.length := (List.getElem?_eq_some_iff.1 hr0).1
      have q1 : decide ((j : Int) < 0) = false := decide_eq_false (by omega)
      have q2 : decide ((j : Int) ≥ (rs.length : Int)) = false := decide_eq_false (by omega)
      clear hr0
      go_wp2_with fail
      refine (samerecs_any B B2 rs.length d rs.length d2 ds ds2 w6 HD6.out.dvs HD2.out.dvs (by have := hlen20.out; omega) (by have := hlen20.out; omega)).mono ?_
      rintro e w7 ⟨v, rfl, hv, hb7⟩
      obtain rfl : v = true := hv.2 (by rw [HPL2.out]; exact HPL.out)
      have HB7 := Lib.hid (kp_call HB6.out hb7)
      clear hv hb7 HB6 HD6 HD2
      go_wp2_with fail
      refine (WK.out _ HB7.out).mono ?_
      rintro e w8 ⟨rfl, hb8⟩
      have HB8 := Lib.hid (kp_call HB7.out hb8)
      clear hb8 HB7
      go_wp2
      go_ret
      exact ⟨rfl, HB8.out⟩
    · exact absurd rfl hne
  | false =>
    have KL := Lib.hid (kill_any (HT.out.below SN.out.bel) SN.out.bk hoff.out i (by have := SN.out.wr; omega))
    go_wp2_with fail
    refine KL.out.mono ?_
    rintro e w4 ⟨T, r, rfl, hki, hK4, hfar4⟩
    obtain ⟨hD4, hb4⟩ := SN.out.far hK4 hfar4 (rs' := rs)
    have hcs := kill_cases 0 8 S [] (hdR 1) [] rs k i T r (by simpa using SN.out.bs) (by simp) SN.out.blen (hdR_len 1) SN.out.ok hki
    rcases hcs with ⟨hno, hTS, rfl⟩ | ⟨j, r0, rfl, hr0, ⟨hne, _, _⟩ | ⟨_, rfl, rfl⟩⟩
    · have hTS2 := hTS.symm
      clear hTS
      subst hTS2
      have hoffT : S.off = false := hoff.out
      have hbsT : S.bs = bankL (hdR 1) rs k := SN.out.bs
      have SOK := Lib.hid SN.out.ok
      clear SN
      have hlenR : Hid ((rs).length = rs.length) := rfl
      have ON := Lib.hid (fon_on hK4.fl hoffT)
      have HK4 := Lib.hid hK4
      have HD4 := Lib.hid hD4
      have HB4 := Lib.hid hb4
      have HBS := Lib.hid hbsT
      clear hK4 hD4 hb4 hbsT hoffT hfar4 KL hki
      go_wp2_with fail
      refine ON.out.mono ?_
      rintro e w5 ⟨rfl, hf5, hfar5⟩
      have hK5 := HK4.out.next hf5 rfl rfl hfar5
      have hD5 := HD4.out.far hfar5 GA.out.1 GA.out.2
      have hb5 := HB4.out.trans (hfar5.below HK4.out.fl.gb (HK4.out.fl.own.blk_lt rfl).1 HB4.out.size)
      have hbl : (bankL (hdR 1) (rs) k).length = 8 * S.s := by
        have h1 := HBL.out
        rw [bankL_len] at h1 ⊢
        have h2 := (rfl : (layAll rs).length = _)
        omega
      have LK := Lib.hid (look_seen (HT.out.below hb5) hK5 hoff.out HBS.out hbl SOK.out (by have := hlenR.out; have := hlen20.out; omega))
      have HD5 := Lib.hid hD5
      have HB5 := Lib.hid hb5
      clear ON hf5 hfar5 hK5 hD5 hb5 hbl HK4 HD4 HB4 HBS
      go_wp2_with fail
      refine LK.out.mono ?_
      rintro e w6 ⟨B2, d2, ds2, he6, hpl2, hD2, hb6⟩
      subst he6
      have HD6 := Lib.hid (HD5.out.below hb6)
      have HB6 := Lib.hid (kp_call HB5.out hb6)
      have HD2 := Lib.hid hD2
      have HPL2 := Lib.hid hpl2
      clear LK hpl2 hD2 hb6 HD5 HB5
      rcases (show i < 0 ∨ (0 ≤ i ∧ (rs.length : Int) ≤ i) by omega) with hi1 | ⟨hi1, hi2⟩
      · have q1 : decide (i < 0) = true := decide_eq_true hi1
        clear hi1 hno
        go_wp2_with fail
        refine (samerecs_any B B2 rs.length d rs.length d2 ds ds2 w6 HD6.out.dvs HD2.out.dvs (by have := hlen20.out; omega) (by have := hlen20.out; omega)).mono ?_
        rintro e w7 ⟨v, rfl, hv, hb7⟩
        obtain rfl : v = true := hv.2 (by rw [HPL2.out]; exact HPL.out)
        have HB7 := Lib.hid (kp_call HB6.out hb7)
        clear hv hb7 HB6 HD6 HD2
        go_wp2_with fail
        refine (WK.out _ HB7.out).mono ?_
        rintro e w8 ⟨rfl, hb8⟩
        have HB8 := Lib.hid (kp_call HB7.out hb8)
        clear hb8 HB7
        go_wp2
        go_ret
        exact ⟨rfl, HB8.out⟩
      · have q1 : decide (i < 0) = false := decide_eq_false (by omega)
        have q2 : decide (i ≥ (rs.length : Int)) = true := decide_eq_true hi2
        clear hi1 hi2 hno
        go_wp2_with fail
        refine (samerecs_any B B2 rs.length d rs.length d2 ds ds2 w6 HD6.out.dvs HD2.out.dvs (by have := hlen20.out; omega) (by have := hlen20.out; omega)).mono ?_
        rintro e w7 ⟨v, rfl, hv, hb7⟩
        obtain rfl : v = true := hv.2 (by rw [HPL2.out]; exact HPL.out)
        have HB7 := Lib.hid (kp_call HB6.out hb7)
        clear hv hb7 HB6 HD6 HD2
        go_wp2_with fail
        refine (WK.out _ HB7.out).mono ?_
        rintro e w8 ⟨rfl, hb8⟩
        have HB8 := Lib.hid (kp_call HB7.out hb8)
        clear hb8 HB7
        go_wp2
        go_ret
        exact ⟨rfl, HB8.out⟩
    · exact absurd (hleft.out.symm.trans hne) (by decide)
    · have hoffT : (FS.off { S with left := S.left - 1, wr := S.wr + 1, bs := [] ++ bankL (hdR 1) (rs.set j r0.kill) k ++ [] }) = false := hoff.out
      have hbsT : (FS.bs { S with left := S.left - 1, wr := S.wr + 1, bs := [] ++ bankL (hdR 1) (rs.set j r0.kill) k ++ [] }) = bankL (hdR 1) (rs.set j r0.kill) k := by simp
      have SOK := Lib.hid SN.out.ok
      clear SN
      have hlenR : Hid ((rs.set j r0.kill).length = rs.length) := by unfold Hid; simp
      have ON := Lib.hid (fon_on hK4.fl hoffT)
      have HK4 := Lib.hid hK4
      have HD4 := Lib.hid hD4
      have HB4 := Lib.hid hb4
      have HBS := Lib.hid hbsT
      clear hK4 hD4 hb4 hbsT hoffT hfar4 KL hki
      go_wp2_with fail
      refine ON.out.mono ?_
      rintro e w5 ⟨rfl, hf5, hfar5⟩
      have hK5 := HK4.out.next hf5 rfl rfl hfar5
      have hD5 := HD4.out.far hfar5 GA.out.1 GA.out.2
      have hb5 := HB4.out.trans (hfar5.below HK4.out.fl.gb (HK4.out.fl.own.blk_lt rfl).1 HB4.out.size)
      have hbl : (bankL (hdR 1) (rs.set j r0.kill) k).length = 8 * S.s := by
        have h1 := HBL.out
        rw [bankL_len] at h1 ⊢
        have h2 := layAll_kill_len rs j r0 hr0
        omega
      have LK := Lib.hid (look_seen (HT.out.below hb5) hK5 hoff.out HBS.out hbl (set_ok SOK.out (kill_ok (SOK.out r0 (List.mem_of_getElem? hr0)))) (by have := hlenR.out; have := hlen20.out; omega))
      have HD5 := Lib.hid hD5
      have HB5 := Lib.hid hb5
      clear ON hf5 hfar5 hK5 hD5 hb5 hbl HK4 HD4 HB4 HBS
      go_wp2_with fail
      refine LK.out.mono ?_
      rintro e w6 ⟨B2, d2, ds2, he6, hpl2, hD2, hb6⟩
      rw [hlenR.out] at he6 hD2
      subst he6
      have HD6 := Lib.hid (HD5.out.below hb6)
      have HB6 := Lib.hid (kp_call HB5.out hb6)
      have HD2 := Lib.hid hD2
      have HPL2 := Lib.hid hpl2
      have HD6L : Hid (∀ G, blk B = some G → G < w5.heap.size) := fun G hG => (HD5.out.row.blk_lt hG).2
      clear LK hpl2 hD2 hb6 HD5 HB5
      have hjl : j < rs.length := (List.getElem?_eq_some_iff.1 hr0).1
      have q1 : decide ((j : Int) < 0) = false := decide_eq_false (by omega)
      have q2 : decide ((j : Int) ≥ (rs.length : Int)) = false := decide_eq_false (by omega)
      have hj3 : (0 : Int) ≤ (j : Int) := by omega
      have hj4 : (j : Int) < (rs.length : Int) := by omega
      obtain ⟨x, hx⟩ : ∃ x, ds[j]? = some x := ⟨_, List.getElem?_eq_getElem (by have := congrArg List.length HPL.out; simp at this; omega)⟩
      obtain ⟨G, rfl, hG1, hG2⟩ := HD6.out.row.shape (by have := HD6.out.row.cap.1; omega)
      have cx : w6.cell? ⟨G, j * 3 + 2, none⟩ = some (.bool x.lives) := by
        rw [World.ownsRow.cellAt HD6.out.row (j * 3 + 2) (by omega)]; exact (flat3_at ds j x hx).2.2
      have fx : w6.frozen? ⟨G, j * 3 + 2, none⟩ = false := HD6.out.row.free _
      have HD7 := Lib.hid (HD6.out.setLives hx false)
      have HB7' : Hid (Below w.heap.size w (w6.setCell ⟨G, j * 3 + 2, none⟩ (.bool false))) := kp_set HB6.out (by have := HB1.out.size; omega)
      have HD2' : Hid (DOwn (w6.setCell ⟨G, j * 3 + 2, none⟩ (.bool false)) w5.heap.size B2 rs.length d2 ds2) := HD2.out.grown (grown_one _ _ _ _) (HD6L.out G rfl)
      have HPLK := Lib.hid (pl_set ds j x rs r0 hx HPL.out hr0)
      clear HD6 HB6 HD2
      go_wp2_with fail
      refine (samerecs_any (some ⟨G, 0, none⟩) B2 rs.length d rs.length d2 _ ds2 _ HD7.out.dvs HD2'.out.dvs (by have := hlen20.out; omega) (by have := hlen20.out; omega)).mono ?_
      rintro e w7 ⟨v, rfl, hv, hb7⟩
      obtain rfl : v = true := hv.2 (by rw [HPL2.out]; exact HPLK.out)
      have HB7 := Lib.hid (kp_call HB7'.out hb7)
      clear hv hb7 HB7' HD7 HD2' cx fx
      go_wp2_with fail
      refine (WK.out _ HB7.out).mono ?_
      rintro e w8 ⟨rfl, hb8⟩
      have HB8 := Lib.hid (kp_call HB7.out hb8)
      clear hb8 HB7
      go_wp2
      go_ret
      exact ⟨rfl, HB8.out⟩
end Go.Proofs.YtkajlbdiofobcaaDoor
