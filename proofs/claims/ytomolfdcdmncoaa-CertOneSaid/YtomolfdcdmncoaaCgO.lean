/-
  cert: the statement on what is read.
-/
import Derived.Test.YtomolfdcdmncoaaCgG
namespace Go.Proofs.Ytomolfdcdmncoaa
open Go.RowKit Go
set_option linter.unusedVariables false
set_option linter.unusedSimpArgs false
set_option maxRecDepth 100000

theorem cert0_is : cert0 = certC n0S n0S n0S n0S n0S Tm.zero Tm.zero n0S 0 n0S ⟨false, 0, 0, false⟩ := rfl
theorem same_zero (w : World) : Calls Try.prog 16 #[.agg cert0, .agg cert0] w fun e' w' => e' = .returned (.bool true) ∧ Below w.heap.size w w' := by
  have h : RB w none 0 [] := ⟨rfl, fun h => absurd rfl h⟩
  rw [cert0_is]
  exact same12_s Tm.zero Tm.zero 0 ⟨false, 0, 0, false⟩ w h h h h h h h h h h h h h h
theorem wrQ_ge (t : UInt8) (b : List UInt8) : b.length + 2 ≤ (wrQ t b).length := by
  unfold wrQ
  split <;> simp only [List.length_cons, List.length_append] <;> omega
theorem cert_er {b : List UInt8} {er : Nat} (h : certQ b = .inl er) : er ≠ 0 := by
  unfold certQ at h
  split at h
  · injection h with h; omega
  · split at h
    · rename_i h2
      injection h with h
      rw [← h]; exact h2
    · split at h
      · injection h with h; omega
      · cases h
theorem right_y {t : Tm} (h : rightB t = true) : t.y < 65536 := by
  unfold rightB at h
  have := of_decide_eq_true h
  omega
theorem split_one (body : List UInt8) (hb : body.length < 4294967296) : splitQ (wrQ 48 body) = some ((wrQ 48 body).length - body.length, (wrQ 48 body).length) := by
  have h := split_wr 48 body [] (by decide) hb
  rwa [List.append_nil] at h
theorem wr_head (body : List UInt8) : (wrQ 48 body).getD 0 0 = 48 := by
  unfold wrQ
  split <;> rfl

theorem one_big (A : Option Addr) (n c : Nat) (w : World) (hn : 16384 < n) : Calls Try.prog 4 #[.slice A n c] w fun e w' => e = .returned (.bool true) ∧ Below w.heap.size w w' := by
  have q1 : decide ((16384 : Int) < (n : Int)) = true := decide_eq_true (by omega)
  go_enter Try.func4, Try.ntmps4
  go_wp2_with fail
  refine (works12_any _).mono ?_
  rintro e w' ⟨rfl, hb⟩
  have HB := Lib.hid hb
  clear hb
  go_wp2
  go_ret
  exact ⟨rfl, HB.out⟩

set_option maxHeartbeats 32000000 in
theorem one_go (A : Option Addr) (n c : Nat) (bs : List UInt8) (w : World) (hR : RB w A n bs) (hnc : n ≤ c) (hc : c ≤ maxLen) (hn : n ≤ 16384) : Calls Try.prog 4 #[.slice A n c] w fun e w' => e = .returned (.bool true) ∧ Below w.heap.size w w' := by
  have q1 : decide ((16384 : Int) < (n : Int)) = false := decide_eq_false (by omega)
  have HR := Lib.hid hR
  have hbl := hR.1
  clear hR
  go_enter Try.func4, Try.ntmps4
  go_wp2_with fail
  refine (parse9_any A n c bs w HR.out hnc hc (by omega)).mono ?_
  rintro e' w1 ⟨D, rfl, hp, hb⟩
  have HS := Lib.hid hp.size
  have ID := Lib.hid (info24 hp.size.1)
  have HP := Lib.hid hp
  have HB := Lib.hid hb
  replace HR := Lib.hid (HR.out.below hb)
  clear hp hb q1
  go_upto_region 4 with (refine wpList_store_row rfl _ _ _ rfl w1.heap.size D rfl rfl _ _ (has_new w1 _) ID.out (by rw [HS.out.1]; rfl) HS.out.2 ?_)
  refine wp_nm fun w2 hw => ?_
  have HD := Lib.hid (show w2.heap[w1.heap.size]? = some (.cells D 33) by rw [← hw]; exact setRow_heap _ _ _ _ _ _ (has_new w1 _))
  have hb : Below w1.heap.size w1 w2 := by rw [← hw]; exact below_setRow (kp_alloc (Below.refl _ _) _) (Nat.le_refl _) _
  replace HP := Lib.hid (HP.out.below hb)
  replace HB := Lib.hid (kp_call HB.out hb)
  replace HR := Lib.hid (HR.out.below hb)
  obtain ⟨G, hG⟩ : ∃ x, x = w1.heap.size := ⟨_, rfl⟩
  rw [← hG] at HD ⊢
  clear hw hb hG
  cases hq : certQ bs with
  | inl er =>
    have her : er ≠ 0 := cert_er hq
    have HE := Lib.hid (show erQ bs = er by unfold erQ; rw [hq])
    have hD : D = cert0 := by have h9 := HP.out; unfold PA at h9; rw [hq] at h9; exact h9
    rw [HE.out]
    have q1 : ((er : Int) != 0) = true := bne_iff_ne.2 (by omega)
    have q2 : (er != 0) = true := bne_iff_ne.2 her
    have q3 : ¬ er = 0 := her
    have q4 : ¬ (er : Int) = 0 := by omega
    clear hq HP
    rw [hD] at HD ID
    have H0 := Lib.hid same_zero
    obtain ⟨Z, hZ⟩ : ∃ Z, cert0 = Z := ⟨_, rfl⟩
    have HZ := Lib.hid hZ
    rw [hZ] at HD ID H0
    clear hZ hD
    go_wp2_with (first | (refine wpList_load_row rfl _ _ rfl G rfl _ Z _ _ HD.out Try.underlying33 rfl ID.out ?_) | (refine wpList_buildTo rfl 33 _ rfl _ rfl Z (by rw [← HZ.out]; kernel_rfl) ?_))
    refine (H0.out _).mono ?_
    rintro e' w3 ⟨rfl, hb⟩
    replace HB := Lib.hid (kp_call HB.out hb)
    clear hb
    go_wp2_with fail
    refine (works12_any _).mono ?_
    rintro e w' ⟨rfl, hb⟩
    have HBE := Lib.hid (kp_call HB.out hb)
    clear hb
    go_wp2
    go_ret
    exact ⟨rfl, HBE.out⟩
  | inr ce =>
    have HE := Lib.hid (show erQ bs = 0 by unfold erQ; rw [hq])
    obtain ⟨raw, tbs, iss, sub, ser, nn, sig, hD, hraw, htbs, _, _, hser, _, hsig⟩ := PA.yes HP.out hq
    obtain ⟨h1, h2, h3, ⟨body, h4, h4l⟩, ⟨ns, h5, h5l⟩, h6, h7, h8, h9, h10, h11⟩ := one_back hq
    rw [HE.out]
    rw [hD] at HD
    have hy1 := right_y h8
    have hy2 := right_y h9
    have hsl : ce.sig.length ≤ 8192 ∧ ce.tbs.length ≤ 8192 := by
      have e := congrArg List.length h3
      unfold certB at e
      have a := wrQ_ge 48 (ce.tbs ++ (sgnB ++ wrQ 3 (0 :: ce.sig)))
      have b := wrQ_ge 3 (0 :: ce.sig)
      simp only [List.length_append, List.length_cons] at a b e
      omega
    rw [h2] at hraw
    have htl : 0 < ce.tbs.length := by rw [h4]; have := wrQ_ge 48 body; omega
    have W1 := Lib.hid (OwnB.rb hraw)
    have W2 := Lib.hid (OwnB.rb htbs)
    have W3 := Lib.hid (OwnB.rb hser)
    have W4 := Lib.hid (OwnB.rb hsig)
    have W2c := (OwnB.cap htbs)
    have W3c := (OwnB.cap hser)
    have ll2 := OwnB.len htbs
    have ll3 := OwnB.len hser
    have ll4 := OwnB.len hsig
    have H3 := Lib.hid h3
    have H4 := Lib.hid h4
    have HSP := Lib.hid (split_one body h4l)
    have HHD := Lib.hid (wr_head body)
    have H5 := Lib.hid h5
    have H7 := Lib.hid h7
    have H8 := Lib.hid h8
    have H9 := Lib.hid h9
    obtain ⟨x1, x2, x3, x4, x5, x6⟩ := h11
    simp only at x1 x2 x3 x4 x5 x6
    clear hq HP hD hraw htbs hser hsig h3 h4 h5 h7 h8 h9 HE HS ID h2
    obtain ⟨A1, n1, c1⟩ := raw
    obtain ⟨A2, n2, c2⟩ := tbs
    obtain ⟨A3, n3, c3⟩ := ser
    obtain ⟨A4, n4, c4⟩ := sig
    simp only at W1 W2 W3 W4 ll2 ll3 ll4 W2c W3c
    have C0 := Lib.hid (show ∀ W : World, W.heap[G]? = some (.cells (certC (A1, n1, c1) (A2, n2, c2) iss sub (A3, n3, c3) ce.frm ce.til nn ce.e (A4, n4, c4) ce.xt) 33) → W.cell? ⟨G, 0, none⟩ = some (.slice A1 n1 c1) ∧ W.cell? ⟨G, 1, none⟩ = some (.slice A2 n2 c2) ∧ W.cell? ⟨G, 4, none⟩ = some (.slice A3 n3 c3) ∧ W.cell? ⟨G, 19, none⟩ = some (.slice A4 n4 c4) ∧ W.cell? ⟨G, 18, none⟩ = some (.int .u64 (ce.e : Int)) ∧ W.cell? ⟨G, 20, none⟩ = some (.bool ce.ca) ∧ W.cell? ⟨G, 21, none⟩ = some (.int .i64 ce.path) ∧ W.cell? ⟨G, 22, none⟩ = some (.int .i64 ce.usage) from fun W h9 => by
      exact ⟨Lib.cell_of_heap h9 0, Lib.cell_of_heap h9 1, Lib.cell_of_heap h9 4, Lib.cell_of_heap h9 19, Lib.cell_of_heap h9 18, Lib.cell_of_heap h9 20, Lib.cell_of_heap h9 21, Lib.cell_of_heap h9 22⟩)
    have CT := Lib.hid (show ∀ W : World, W.heap[G]? = some (.cells (certC (A1, n1, c1) (A2, n2, c2) iss sub (A3, n3, c3) ce.frm ce.til nn ce.e (A4, n4, c4) ce.xt) 33) → W.cell? ⟨G, 5, none⟩ = some (.int .u16 (ce.frm.y : Int)) ∧ W.cell? ⟨G, 6, none⟩ = some (.int .u8 (ce.frm.mo.toNat : Int)) ∧ W.cell? ⟨G, 7, none⟩ = some (.int .u8 (ce.frm.d.toNat : Int)) ∧ W.cell? ⟨G, 8, none⟩ = some (.int .u8 (ce.frm.h.toNat : Int)) ∧ W.cell? ⟨G, 9, none⟩ = some (.int .u8 (ce.frm.mi.toNat : Int)) ∧ W.cell? ⟨G, 10, none⟩ = some (.int .u8 (ce.frm.s.toNat : Int)) ∧ W.cell? ⟨G, 11, none⟩ = some (.int .u16 (ce.til.y : Int)) ∧ W.cell? ⟨G, 12, none⟩ = some (.int .u8 (ce.til.mo.toNat : Int)) ∧ W.cell? ⟨G, 13, none⟩ = some (.int .u8 (ce.til.d.toNat : Int)) ∧ W.cell? ⟨G, 14, none⟩ = some (.int .u8 (ce.til.h.toNat : Int)) ∧ W.cell? ⟨G, 15, none⟩ = some (.int .u8 (ce.til.mi.toNat : Int)) ∧ W.cell? ⟨G, 16, none⟩ = some (.int .u8 (ce.til.s.toNat : Int)) from fun W h9 => ⟨Lib.cell_of_heap h9 5, Lib.cell_of_heap h9 6, Lib.cell_of_heap h9 7, Lib.cell_of_heap h9 8, Lib.cell_of_heap h9 9, Lib.cell_of_heap h9 10, Lib.cell_of_heap h9 11, Lib.cell_of_heap h9 12, Lib.cell_of_heap h9 13, Lib.cell_of_heap h9 14, Lib.cell_of_heap h9 15, Lib.cell_of_heap h9 16⟩)
    obtain ⟨d0, d1, d4, d19, _, _, _, _⟩ := C0.out w2 HD.out
    have q1 : ((n2 : Int) == 0) = false := beq_eq_false_iff_ne.2 (by omega)
    have q2 : (n2 == 0) = false := beq_eq_false_iff_ne.2 (by omega)
    go_upto_region 8 with (fail)
    go_wp2_with fail
    refine (wwrite_any A2 n2 c2 ce.tbs A4 n4 c4 ce.sig w2 W2.out W4.out (by omega) (by omega)).mono ?_
    rintro e' w3 ⟨A5, n5, c5, rfl, ho, hb⟩
    rw [← H3.out] at ho
    have HO5 := Lib.hid ho.rb
    replace HB := Lib.hid (kp_call HB.out hb)
    replace HD := Lib.hid (has_below HD.out hb)
    replace W1 := Lib.hid (W1.out.below hb)
    replace W2 := Lib.hid (W2.out.below hb)
    replace W3 := Lib.hid (W3.out.below hb)
    replace HR := Lib.hid (HR.out.below hb)
    clear ho hb d0 d1 d4 d19
    obtain ⟨d0, d1, d4, d19, _, _, _, _⟩ := C0.out w3 HD.out
    go_wp2_with fail
    refine (eq_same A5 A n5 n c5 c bs w3 HO5.out HR.out).mono ?_
    rintro e' wq ⟨rfl, he⟩
    rw [he]
    clear he wq
    have q3 : decide ((8192 : Int) < (n : Int)) = false := decide_eq_false (by omega)
    have q4 : decide (8192 < n) = false := decide_eq_false (by omega)
    go_wp2_with fail
    refine (eq_same A1 A n1 n c1 c bs w3 W1.out HR.out).mono ?_
    rintro e' wq ⟨rfl, he⟩
    rw [he]
    clear he wq
    go_upto_region 10 with (fail)
    go_wp2_with fail
    refine (rint_any A3 n3 c3 ce.ser w3 W3.out W3c.1 (by omega) (maxLen_i64 W3c.2)).mono ?_
    intro e' w4 hp
    unfold IntPost at hp
    rw [H5.out] at hp
    obtain ⟨⟨A6, n6, c6, rfl, ho⟩, hb⟩ := hp
    have ll6 := ho.len
    replace HB := Lib.hid (kp_call HB.out hb)
    replace HD := Lib.hid (has_below HD.out hb)
    replace W2 := Lib.hid (W2.out.below hb)
    clear ho hb d0 d1 d4 d19 HO5 HR W1 W3
    obtain ⟨d0, d1, d4, _, _, _, _, _⟩ := C0.out w4 HD.out
    go_wp2_with fail
    refine (rparse_any A2 n2 c2 ce.tbs w4 W2.out W2c.1 (by omega) (maxLen_i64 W2c.2)).mono ?_
    intro e' w5 hp
    unfold ParsePost at hp
    rw [H4.out, HSP.out] at hp
    simp only at hp
    obtain ⟨⟨A7, n7, c7, A8, n8, c8, A9, n9, c9, rfl, _, _, ho9, _⟩, hb⟩ := hp
    rw [HHD.out]
    have ll9 : n9 = 0 := by have h9 := ho9.len; rw [List.drop_length] at h9; exact h9.symm
    subst ll9
    replace HB := Lib.hid (kp_call HB.out hb)
    replace HD := Lib.hid (has_below HD.out hb)
    clear hb d0 d1 d4 ho9 W2
    go_upto_region 12 with (fail)
    refine wp_nm fun w6 hw6 => ?_
    have hb : Below w5.heap.size w5 w6 := by rw [← hw6]; exact kp_alloc (Below.refl _ _) _
    have HT := Lib.hid (show w6.heap[w5.heap.size]? = some (.cells #[.int .u8 48, .slice A7 n7 c7, .slice A8 n8 c8] 46) by rw [← hw6]; exact has_new _ _)
    clear hw6
    replace HB := Lib.hid (kp_call HB.out hb)
    replace HD := Lib.hid (has_below HD.out hb)
    have t0 : w6.cell? ⟨w5.heap.size, 0, none⟩ = some (.int .u8 48) := Lib.cell_of_heap HT.out 0
    obtain ⟨_, _, d4, _, _, _, _, _⟩ := C0.out w6 HD.out
    have q5 : decide ((0 : Int) < (n6 : Int)) = true := decide_eq_true (by omega)
    have q6 : decide (0 < n6) = true := decide_eq_true (by omega)
    have q7 : decide ((n3 : Int) ≤ 20) = true := decide_eq_true (by omega)
    have q8 : decide (n3 ≤ 20) = true := decide_eq_true (by omega)
    obtain ⟨e5, e6, e7, e8, e9, e10, e11, e12, e13, e14, e15, e16⟩ := CT.out w6 HD.out
    go_wp2_with fail
    refine (refLess_any ce.til ce.frm w6 hy2 hy1).mono ?_
    rintro e' w7 ⟨rfl, hb⟩
    rw [H7.out]
    replace HB := Lib.hid (kp_call HB.out hb)
    replace HD := Lib.hid (has_below HD.out hb)
    replace HT := Lib.hid (has_below HT.out hb)
    clear hb d4 t0 q5 q6 q7 q8 e5 e6 e7 e8 e9 e10 e11 e12 e13 e14 e15 e16
    obtain ⟨e5, e6, e7, e8, e9, e10, e11, e12, e13, e14, e15, e16⟩ := CT.out w7 HD.out
    go_wp2_with fail
    refine (refRight_any ce.frm w7 hy1).mono ?_
    rintro e' w8 ⟨rfl, hb⟩
    rw [H8.out]
    replace HB := Lib.hid (kp_call HB.out hb)
    replace HD := Lib.hid (has_below HD.out hb)
    replace HT := Lib.hid (has_below HT.out hb)
    clear hb e5 e6 e7 e8 e9 e10 e11 e12 e13 e14 e15 e16
    obtain ⟨e5, e6, e7, e8, e9, e10, e11, e12, e13, e14, e15, e16⟩ := CT.out w8 HD.out
    go_wp2_with fail
    refine (refRight_any ce.til w8 hy2).mono ?_
    rintro e' w9 ⟨rfl, hb⟩
    rw [H9.out]
    replace HB := Lib.hid (kp_call HB.out hb)
    replace HD := Lib.hid (has_below HD.out hb)
    replace HT := Lib.hid (has_below HT.out hb)
    clear hb e5 e6 e7 e8 e9 e10 e11 e12 e13 e14 e15 e16
    obtain ⟨_, _, _, _, d18, d20, d21, d22⟩ := C0.out w9 HD.out
    have q5 : decide ((ce.e : Int) < 8589934592) = true := decide_eq_true (by omega)
    have q6 : decide (ce.e < 8589934592) = true := decide_eq_true h10
    obtain ⟨pa, hpa⟩ : ∃ x, ce.path = x := ⟨_, rfl⟩
    obtain ⟨us, hus⟩ : ∃ x, ce.usage = x := ⟨_, rfl⟩
    obtain ⟨ca, hca⟩ : ∃ x, ce.ca = x := ⟨_, rfl⟩
    rw [hpa] at d21 x1 x2 x3
    rw [hus] at d22 x4 x5 x6
    rw [hca] at d20 x3
    have r1 : decide (-1 ≤ pa) = true := decide_eq_true x1
    have r2 : decide (pa ≤ 255) = true := decide_eq_true x2
    have r3 : decide (-1 ≤ us) = true := decide_eq_true x4
    have r4 : (us != 0) = true := bne_iff_ne.2 x5
    have r5 : decide (us < 512) = true := decide_eq_true x6
    have r6 : ¬ us = 0 := x5
    cases ca with
    | true =>
      clear x1 x2 x3 x4 x5 x6 hpa hus hca h10
      go_wp2_with fail
      refine (works12_any _).mono ?_
      rintro e w' ⟨rfl, hb⟩
      have HBE := Lib.hid (kp_call HB.out hb)
      clear hb
      go_wp2
      go_ret
      exact ⟨rfl, HBE.out⟩
    | false =>
      have x7 : pa = -1 := by rcases x3 with h | h; cases h; exact h
      have r7 : (pa == -1) = true := beq_iff_eq.2 x7
      subst x7
      clear x1 x2 x3 x4 x5 x6 hpa hus hca h10
      go_wp2_with fail
      refine (works12_any _).mono ?_
      rintro e w' ⟨rfl, hb⟩
      have HBE := Lib.hid (kp_call HB.out hb)
      clear hb
      go_wp2
      go_ret
      exact ⟨rfl, HBE.out⟩

theorem one_row (A : Option Addr) (n c : Nat) (bs : List UInt8) (w : World) (h : IsBs w A n c bs) : Calls Try.prog 4 #[.slice A n c] w fun e w' => e = .returned (.bool true) ∧ Below w.heap.size w w' := by
  by_cases hn : 16384 < n
  · exact one_big A n c w hn
  · exact one_go A n c bs w h.rb h.le h.max (by omega)
end Go.Proofs.Ytomolfdcdmncoaa
