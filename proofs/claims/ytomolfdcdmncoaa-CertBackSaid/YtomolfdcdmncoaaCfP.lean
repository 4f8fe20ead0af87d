/-
  cert: the stage's theorem: a certificate of any case is read as what it says; cut, or with something behind it, it is refused.
-/
import Derived.Test.YtomolfdcdmncoaaCc8
namespace Go.Proofs.Ytomolfdcdmncoaa
open Go.RowKit Go
set_option linter.unusedVariables false
set_option linter.unusedSimpArgs false
set_option maxRecDepth 100000
theorem KC.made (k : KC) (w : World) (h : IsKC w k) (W : World) (hb : Below w.heap.size w W) : Calls Try.prog 14 #[.agg k.cells] W (MadeP W k.sb k.nb k.gb k.is.data.toList k.ss.data.toList k.f k.t k.e k.ca k.code k.pa k.us) :=
  made_any k.s k.n k.g k.is k.ss k.f k.t k.e k.ca k.code k.pa k.us k.sb k.nb k.gb W (h.s.rb.below hb) (h.n.rb.below hb) (h.g.rb.below hb) h.s.le h.n.le h.g.le h.is h.ss h.f h.t
theorem kc_size (k : KC) : k.cells.size = 22 := rfl
theorem kc_info (k : KC) : (Try.prog.info? 28).map (·.size) = some k.cells.size := by rw [kc_size]; kernel_rfl
/-- What a case's certificate is read as. -/
def KC.ce (k : KC) : Ce := ⟨rawM k.sb k.nb k.gb k.is.data.toList k.ss.data.toList k.f k.t k.e k.ca k.code k.pa k.us, tbsM k.sb k.nb k.is.data.toList k.ss.data.toList k.f k.t k.e k.ca k.code k.pa k.us, nameB (k.is.data.toList.take 200), nameB (k.ss.data.toList.take 200), serM k.sb, fM k.f, tM k.f k.t, nM k.nb, k.e % 8589934592, k.gb.take 600, k.ca, pathI (pathM k.ca k.pa), usI (usM k.us), k.code⟩
theorem KC.reads (k : KC) : certQ k.ce.raw = .inr k.ce := made_reads ..
theorem raw_wr (k : KC) : ∃ b, k.ce.raw = wrQ 48 b ∧ b.length < 4294967296 := ⟨_, rfl, by
  have h := rawM_len k.sb k.nb k.gb k.is.data.toList k.ss.data.toList k.f k.t k.e k.ca k.code k.pa k.us
  have h1 := tbsM_len k.sb k.nb k.is.data.toList k.ss.data.toList k.f k.t k.e k.ca k.code k.pa k.us
  have h2 := take_len k.gb 600
  have h3 := wrQ_len 3 (0 :: k.gb.take 600) (by simp only [List.length_cons]; omega)
  have b : sgnB.length = 15 := rfl
  simp only [List.length_append, List.length_cons] at h3 ⊢
  omega⟩
theorem back_big (k : KC) (x : Int) (A : Option Addr) (n c : Nat) (w : World) (hn : 100 < n) : Calls Try.prog 3 #[k.val, .int .i64 x, .slice A n c] w fun e w' => e = .returned (.bool true) ∧ Below w.heap.size w w' := by
  have q1 : decide ((100 : Int) < (n : Int)) = true := decide_eq_true (by omega)
  unfold KC.val
  obtain ⟨CC, HCC⟩ : ∃ CC, Hid (k.cells = CC) := ⟨_, Lib.hid rfl⟩
  rw [HCC.out]
  go_enter Try.func3, Try.ntmps3
  go_wp2_with fail
  refine (works12_any _).mono ?_
  rintro e w' ⟨rfl, hb⟩
  have HB := Lib.hid (kp_call (kp_alloc (Below.refl _ _) _) hb)
  clear hb
  go_wp2
  go_ret
  exact ⟨rfl, HB.out⟩
set_option maxHeartbeats 8000000 in
theorem back_go (k : KC) (x : Int) (A : Option Addr) (n c : Nat) (mb : List UInt8) (w : World) (hk : IsKC w k) (hx : -9223372036854775808 ≤ x ∧ x ≤ 9223372036854775807) (hM : RB w A n mb) (hn : n ≤ 100) : Calls Try.prog 3 #[k.val, .int .i64 x, .slice A n c] w fun e w' => e = .returned (.bool true) ∧ Below w.heap.size w w' := by
  have q1 : decide ((100 : Int) < (n : Int)) = false := decide_eq_false (by omega)
  have HMd := Lib.hid (k.made w hk)
  have HQ := Lib.hid k.reads
  have HM := Lib.hid hM
  have hrl : k.ce.raw.length ≤ 3300 := rawM_len ..
  have HRL := Lib.hid hrl
  unfold KC.val
  obtain ⟨CC, HCC⟩ : ∃ CC, Hid (k.cells = CC) := ⟨_, Lib.hid rfl⟩
  have ICC : Hid ((Try.prog.info? 28).map (·.size) = some CC.size) := by rw [← HCC.out]; exact Lib.hid (kc_info k)
  clear hM hrl
  rw [HCC.out]
  go_enter Try.func3, Try.ntmps3
  go_upto_region 3 with (fail)
  clear q1
  refine wp_nm fun w0 hw0 => ?_
  have HB := Lib.hid (show Below w.heap.size w w0 by rw [← hw0]; exact kp_alloc (Below.refl _ _) _)
  have HK := Lib.hid (show w0.heap[w.heap.size]? = some (.cells CC 28) by rw [← hw0]; exact has_new _ _)
  clear hw0
  go_wp2_with (refine wpList_load_row rfl _ _ rfl w.heap.size rfl _ CC _ _ HK.out Try.underlying28 rfl ICC.out ?_)
  rw [← HCC.out]
  refine (HMd.out w0 HB.out).mono ?_
  rw [HCC.out]
  rintro e' w2 ⟨raw, tbs, iss, sub, ser, nn, sig, AR, nR, cR, rfl, hMd, hraw, htb, hA, hb⟩
  have X := Lib.hid (show MDf w2 w0.heap.size iss sub ser nn sig k.ce.iss k.ce.sub k.ce.ser k.ce.n k.ce.sig ∧ OwnS3 w2 w0.heap.size raw k.ce.raw ∧ OwnS3 w2 w0.heap.size tbs k.ce.tbs from ⟨hMd, hraw, htb⟩)
  have HA := Lib.hid (show OwnB w2 w0.heap.size AR nR cR k.ce.raw from hA)
  have hnR : nR ≤ 3300 := by rw [← HA.out.len]; exact HRL.out
  have HW0 := Lib.hid HB.out.size
  have HB0 := Lib.hid hb
  replace HB := Lib.hid (kp_call HB.out hb)
  clear hMd hraw htb hA hb HK HMd HCC ICC
  obtain ⟨D1, HD1⟩ : ∃ x, Hid (certC raw tbs iss sub ser (fM k.f) (tM k.f k.t) nn (k.e % 8589934592) sig ⟨k.ca, pathI (pathM k.ca k.pa), usI (usM k.us), k.code⟩ = x) := ⟨_, Lib.hid rfl⟩
  have ID1 : Hid ((Try.prog.info? 33).map (·.size) = some D1.size) := by rw [← HD1.out]; exact Lib.hid (certC_info ..)
  rw [HD1.out]
  go_upto_region 4 with (refine wpList_store_row rfl _ _ _ rfl w2.heap.size D1 rfl rfl _ _ (has_new w2 _) ID1.out (by rw [← HD1.out]; rfl) (by rw [← HD1.out]; exact certC_one ..) ?_)
  refine wp_nm fun w3 hw3 => ?_
  have HC1 := Lib.hid (show w3.heap[w2.heap.size]? = some (.cells D1 33) by rw [← hw3]; exact setRow_heap _ _ _ _ _ _ (has_new w2 _))
  have hb3 : Below w2.heap.size w2 w3 := by rw [← hw3]; exact below_setRow (kp_alloc (Below.refl _ _) _) (Nat.le_refl _) _
  replace X := Lib.hid (And.intro (X.out.1.call hb3) (And.intro (OwnB.below X.out.2.1 hb3 (Nat.le_refl _)) (OwnB.below X.out.2.2 hb3 (Nat.le_refl _))))
  replace HA := Lib.hid (HA.out.below hb3 (Nat.le_refl _))
  replace HB := Lib.hid (kp_call HB.out hb3)
  replace HB0 := Lib.hid (kp_call HB0.out hb3)
  clear hw3 hb3
  go_wp2_with fail
  refine (cparse_any AR nR cR k.ce.raw w3 HA.out.rb HA.out.cap.1 HA.out.cap.2 (by omega)).mono ?_
  intro e' w4 hp
  unfold CeP at hp
  rw [HQ.out] at hp
  obtain ⟨⟨raw', tbs', iss', sub', ser', nn', sig', rfl, q0, q1, q2, q3, q4, q5, q6, _, _, _⟩, hb⟩ := hp
  have Y := Lib.hid (show OwnS3 w4 w3.heap.size raw' k.ce.raw ∧ OwnS3 w4 w3.heap.size tbs' k.ce.tbs ∧ OwnS3 w4 w3.heap.size iss' k.ce.iss ∧ OwnS3 w4 w3.heap.size sub' k.ce.sub ∧ OwnS3 w4 w3.heap.size ser' k.ce.ser ∧ OwnS3 w4 w3.heap.size nn' k.ce.n ∧ OwnS3 w4 w3.heap.size sig' k.ce.sig from ⟨q0, q1, q2, q3, q4, q5, q6⟩)
  replace X := Lib.hid (And.intro (X.out.1.call hb) (And.intro (OwnB.below X.out.2.1 hb (Nat.le_refl _)) (OwnB.below X.out.2.2 hb (Nat.le_refl _))))
  replace HA := Lib.hid (HA.out.below hb (Nat.le_refl _))
  replace HB := Lib.hid (kp_call HB.out hb)
  replace HB0 := Lib.hid (kp_call HB0.out hb)
  replace HC1 := Lib.hid (has_below HC1.out hb)
  clear q0 q1 q2 q3 q4 q5 q6 hb
  obtain ⟨D2, HD2⟩ : ∃ x, Hid (certC raw' tbs' iss' sub' ser' k.ce.frm k.ce.til nn' k.ce.e sig' k.ce.xt = x) := ⟨_, Lib.hid rfl⟩
  have ID2 : Hid ((Try.prog.info? 33).map (·.size) = some D2.size) := by rw [← HD2.out]; exact Lib.hid (certC_info ..)
  rw [HD2.out]
  go_upto_region 5 with (refine wpList_store_row rfl _ _ _ rfl w4.heap.size D2 rfl rfl _ _ (has_new w4 _) ID2.out (by rw [← HD2.out]; rfl) (by rw [← HD2.out]; exact certC_one ..) ?_)
  refine wp_nm fun w5 hw5 => ?_
  have HC2 := Lib.hid (show w5.heap[w4.heap.size]? = some (.cells D2 33) by rw [← hw5]; exact setRow_heap _ _ _ _ _ _ (has_new w4 _))
  have hb5 : Below w4.heap.size w4 w5 := by rw [← hw5]; exact below_setRow (kp_alloc (Below.refl _ _) _) (Nat.le_refl _) _
  replace X := Lib.hid (And.intro (X.out.1.call hb5) (And.intro (OwnB.below X.out.2.1 hb5 (Nat.le_refl _)) (OwnB.below X.out.2.2 hb5 (Nat.le_refl _))))
  replace HA := Lib.hid (HA.out.below hb5 (Nat.le_refl _))
  replace HB := Lib.hid (kp_call HB.out hb5)
  replace HB0 := Lib.hid (kp_call HB0.out hb5)
  replace HC1 := Lib.hid (has_below HC1.out hb5)
  have YB := Lib.hid hb5
  clear hw5 hb5
  go_wp2_with (first | (refine wpList_load_rowG9 rfl _ _ rfl w2.heap.size rfl _ D1 _ _ HC1.out Try.underlying33 rfl ID1.out ?_) | (refine wpList_load_rowG9 rfl _ _ rfl w4.heap.size rfl _ D2 _ _ HC2.out Try.underlying33 rfl ID2.out ?_))
  rw [← HD1.out, ← HD2.out]
  obtain ⟨y0, y1, y2, y3, y4, y5, y6⟩ := Y.out
  refine (same12_s (l0 := k.ce.raw) (l1 := k.ce.tbs) (l2 := k.ce.iss) (l3 := k.ce.sub) (l4 := k.ce.ser) (l5 := k.ce.n) (l6 := k.ce.sig) k.ce.frm k.ce.til k.ce.e k.ce.xt w5 (OwnB.rb X.out.2.1) (OwnB.rb X.out.2.2) (OwnB.rb X.out.1.i) (OwnB.rb X.out.1.s) (OwnB.rb X.out.1.r) (OwnB.rb X.out.1.n) (OwnB.rb X.out.1.g)
    ((OwnB.rb y0).below YB.out) ((OwnB.rb y1).below YB.out) ((OwnB.rb y2).below YB.out) ((OwnB.rb y3).below YB.out) ((OwnB.rb y4).below YB.out) ((OwnB.rb y5).below YB.out) ((OwnB.rb y6).below YB.out)).mono ?_
  rw [HD1.out, HD2.out]
  rintro e' w6 ⟨rfl, hb⟩
  replace HA := Lib.hid (HA.out.below hb (Nat.le_refl _))
  replace HB := Lib.hid (kp_call HB.out hb)
  replace HB0 := Lib.hid (kp_call HB0.out hb)
  clear hb y0 y1 y2 y3 y4 y5 y6 X Y YB HC1 HC2 HD1 HD2 ID1 ID2
  have HRL2 := HA.out.len
  go_upto_region 7 with (fail)
  obtain ⟨RB0, HRB, HRBl⟩ : ∃ b, Hid (k.ce.raw = wrQ 48 b) ∧ b.length < 4294967296 := raw_wr k
  -- cut
  go_cut [40] from 33 (fun v wx => ∃ d : Bool, v = .bool d ∧ Hid (d = decide (0 ≤ x ∧ x < (nR : Int))) ∧ w6 = wx)
  case first =>
    as_aux_lemma =>
    obtain h0 | h0 : x < 0 ∨ 0 ≤ x := by omega
    · have q1 : decide ((0 : Int) ≤ x) = false := decide_eq_false (by omega)
      have Q2 := Lib.hid (show decide (0 ≤ x ∧ x < (nR : Int)) = false from decide_eq_false (by omega))
      clear h0
      go_wp2
      go_meet
      exact ⟨_, rfl, Lib.hid Q2.out.symm, rfl⟩
    · have q1 : decide ((0 : Int) ≤ x) = true := decide_eq_true (by omega)
      obtain h1 | h1 : x < (nR : Int) ∨ (nR : Int) ≤ x := by omega
      · have q3 : decide (x < (nR : Int)) = true := decide_eq_true (by omega)
        have Q2 := Lib.hid (show decide (0 ≤ x ∧ x < (nR : Int)) = true from decide_eq_true ⟨h0, h1⟩)
        clear h0 h1
        go_wp2
        go_meet
        exact ⟨_, rfl, Lib.hid Q2.out.symm, rfl⟩
      · have q3 : decide (x < (nR : Int)) = false := decide_eq_false (by omega)
        have Q2 := Lib.hid (show decide (0 ≤ x ∧ x < (nR : Int)) = false from decide_eq_false (by omega))
        clear h0 h1
        go_wp2
        go_meet
        exact ⟨_, rfl, Lib.hid Q2.out.symm, rfl⟩
  obtain ⟨d, rfl, HD, hwc⟩ := hcut
  subst hwc
  go_upto_if 40 with (fail)
  go_cut [10, 40] from 33 (fun v10 v40 wx => Hid (Below w6.heap.size w6 wx))
  case first =>
    as_aux_lemma =>
    cases d with
    | false =>
      go_wp2
      go_meet
      exact Lib.hid (Below.refl _ _)
    | true =>
      have hx2 := of_decide_eq_true HD.out.symm
      obtain ⟨xn, rfl⟩ : ∃ xn : Nat, x = (xn : Int) := ⟨x.toNat, by omega⟩
      have hxn : xn < nR := by omega
      have hcap := HA.out.cap
      have i1 : (xn : Int) ≤ (cR : Int) := by omega
      have i2 : xn ≤ cR := by omega
      have HC := Lib.hid (cut_no 48 RB0 (by decide) HRBl xn (by rw [← HRB.out]; omega) (by omega))
      have HP := Lib.hid (cparse_any AR xn cR (k.ce.raw.take xn) w6 (rb_take HA.out.rb (by omega)) i2 hcap.2 (by omega))
      clear HD hx2 hcap
      go_wp2_with fail
      refine HP.out.mono ?_
      intro e' w7 hp
      unfold CeP at hp
      rw [HRB.out, HC.out] at hp
      obtain ⟨rfl, hb⟩ := hp
      have HBB := Lib.hid hb
      clear hb
      go_wp2
      go_meet
      exact HBB
  obtain ⟨w7, rfl⟩ : ∃ x, x = wc := ⟨_, rfl⟩
  replace HA := Lib.hid (HA.out.below hcut.out (Nat.le_refl _))
  replace HB := Lib.hid (kp_call HB.out hcut.out)
  replace HB0 := Lib.hid (kp_call HB0.out hcut.out)
  clear hcut
  obtain h0 | h0 : n = 0 ∨ 0 < n := by omega
  · subst h0
    go_wp2_with fail
    refine (works12_any _).mono ?_
    rintro e' w8 ⟨rfl, hb⟩
    have HB8 := Lib.hid (kp_call HB.out hb)
    clear hb
    go_wp2
    go_ret
    exact ⟨rfl, HB8.out⟩
  · have q1 : decide ((0 : Int) < (n : Int)) = true := decide_eq_true (by omega)
    have q2 : decide (0 < n) = true := decide_eq_true h0
    have hln := HM.out.1
    have HMN := Lib.hid (more_no 48 RB0 mb (by decide) HRBl (by intro h; rw [h] at hln; simp at hln; omega) (by rw [List.length_append, ← HRB.out]; omega))
    clear h0 hln
    go_wp2_with (at_builtin; refine wpList_apn _ _ rfl rfl rfl w0.heap.size AR nR cR _ rfl HA.out A n c mb rfl (HM.out.below HB.out) (by omega) HB0.out.size ?_)
    intro A' c' w8 ho hg
    have HB8 := Lib.hid (show Below w.heap.size w w8 from HB.out.grown hg HB.out.size (fun g hg' => Nat.le_trans HW0.out (HA.out.blk_lt hg').1))
    have HO := Lib.hid ho
    clear ho hg
    go_wp2_with fail
    refine (cparse_any A' (nR + n) c' _ w8 HO.out.rb HO.out.cap.1 HO.out.cap.2 (by omega)).mono ?_
    intro e' w9 hp
    unfold CeP at hp
    rw [HRB.out, HMN.out] at hp
    obtain ⟨rfl, hb⟩ := hp
    replace HB8 := Lib.hid (kp_call HB8.out hb)
    clear hb
    go_wp2_with fail
    refine (works12_any _).mono ?_
    rintro e' w10 ⟨rfl, hb⟩
    replace HB8 := Lib.hid (kp_call HB8.out hb)
    clear hb
    go_wp2
    go_ret
    exact ⟨rfl, HB8.out⟩
theorem back_row (k : KC) (x : Int) (A : Option Addr) (n c : Nat) (mb : List UInt8) (w : World) (hk : IsKC w k) (wf : (Lit.int .i64 x).wf = true) (h : IsBs w A n c mb) : Calls Try.prog 3 #[k.val, .int .i64 x, .slice A n c] w fun e w' => e = .returned (.bool true) ∧ Below w.heap.size w w' := by
  by_cases hn : 100 < n
  · exact back_big k x A n c w hn
  · exact back_go k x A n c mb w hk (bounds_i64 wf) h.rb (by omega)
end Go.Proofs.Ytomolfdcdmncoaa
