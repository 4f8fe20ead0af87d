/-
  cert: the statement on numbers of certificates.
-/
import Derived.Test.YtomolfdcdmncoaaCfQ
import Derived.Test.YtomolfdcdmncoaaMyC
namespace Go.Proofs.Ytomolfdcdmncoaa
open Go.RowKit Go
set_option linter.unusedVariables false
set_option linter.unusedSimpArgs false
set_option maxRecDepth 100000

theorem se_int (bb : List UInt8) : seQ (wrQ 2 bb, bb) = (intQ bb).bind fun n => if 0 < n.length ∧ bb.length ≤ 20 then some bb else none := by
  unfold seQ nuQ
  rw [tg_wr, gd_yes (show (2 : UInt8).toNat = 2 from rfl)]
  simp only [Option.bind_some]
  cases intQ bb with
  | none => rfl
  | some n =>
    simp only [Option.bind_some]
    split
    · rename_i h; rw [gd_yes h]; rfl
    · rename_i h; rw [gd_no h]; rfl
theorem ser_all (k : KC) (bb : List UInt8) (hl : bb.length ≤ 100) : allQ (k.L.set 1 (wrQ 2 bb)).flatten = some [E0, (wrQ 2 bb, bb), E2, E3 k.is.data.toList, E4 k.f k.t, E3 k.ss.data.toList, E6 k.nb k.e] := by
  have h2 := in_len _ (take_len k.is.data.toList 200)
  have h3 := in_len _ (take_len k.ss.data.toList 200)
  have h4 := nM_len k.nb
  have d := spanB_len (fM k.f) (tM k.f k.t)
  have g := spkB_len (nM k.nb) (k.e % 8589934592) (by omega)
  have e3 : ∀ s : List UInt8, (inM (s.take 200)).length ≤ 300 := fun s => in_len _ (take_len s 200)
  have i1 := e3 k.is.data.toList
  have i2 := e3 k.ss.data.toList
  rw [E3_is, E3_is]
  unfold E0 E2 E4 E6 KC.L elL elP
  simp only [List.map_cons, List.map_nil, List.set_cons_succ, List.set_cons_zero, List.flatten_cons, List.flatten_nil]
  rw [nameB_is, nameB_is]
  exact sall (by decide) (by decide) (sall (by decide) (by omega) (sall (by decide) (by decide) (sall (by decide) (by omega) (sall (by decide) (by omega) (sall (by decide) (by omega) (sall (by decide) (by omega) all_nil))))))
theorem ser_len (k : KC) (bb : List UInt8) (hl : bb.length ≤ 100) : (k.L.set 1 (wrQ 2 bb)).flatten.length ≤ 2200 := by
  have h1 := set_len k.L 1 (wrQ 2 bb)
  have h2 := k.Llen
  have h3 := wrQ_len 2 bb (by omega)
  omega
def serC (k : KC) (bb : List UInt8) : List UInt8 := certB (wrQ 48 (k.L.set 1 (wrQ 2 bb)).flatten) (k.gb.take 100)
theorem ser_chk (k : KC) (bb : List UInt8) : ∀ p ∈ [E0, (wrQ 2 bb, bb), E2, E3 k.is.data.toList, E4 k.f k.t, E3 k.ss.data.toList, E6 k.nb k.e], chk 13 p.1 p.2 = 0 :=
  all7 (p := fun p => chk 13 p.1 p.2 = 0) ck0 (chk_flat 13 2 bb (by decide)) ck2 (ck3 _) (ck4 _ _) (ck3 _) (ck6 _ _) (fun x h => by cases h)
theorem ser_no (k : KC) (bb : List UInt8) (hl : bb.length ≤ 100) (h : seQ (wrQ 2 bb, bb) = none) : certQ (serC k bb) = .inl 9 := by
  refine cert_no _ _ _ (ser_all k bb hl) (ser_chk k bb) (by have := ser_len k bb hl; omega) (by have := take_len k.gb 100; omega) ?_
  rw [tb_run _ _ _ _ _ _ _ _ _ (ser_all k bb hl), rd0]
  simp only [Option.bind_some]
  rw [h]
  rfl
theorem ser_yes (k : KC) (bb : List UInt8) (hl : bb.length ≤ 100) (h : seQ (wrQ 2 bb, bb) = some bb) : ∃ c, certQ (serC k bb) = .inr c ∧ c.ser = bb := by
  have ht : tbQ (wrQ 48 (k.L.set 1 (wrQ 2 bb)).flatten, (k.L.set 1 (wrQ 2 bb)).flatten) = some ⟨[], [], nameB (k.is.data.toList.take 200), nameB (k.ss.data.toList.take 200), bb, fM k.f, tM k.f k.t, nM k.nb, k.e % 8589934592, [], false, -1, -1, true⟩ := by
    rw [tb_run _ _ _ _ _ _ _ _ _ (ser_all k bb hl), rd0]
    simp only [Option.bind_some]
    rw [h, rd2, rd3, rd4, rd3, rd6]
    simp only [Option.bind_some, exsQ]
    rfl
  exact ⟨_, cert_yes _ _ _ _ (ser_all k bb hl) (ser_chk k bb) (by have := ser_len k bb hl; omega) (by have := take_len k.gb 100; omega) ht, rfl⟩
theorem er_no {bs : List UInt8} {er : Nat} (h : certQ bs = .inl er) : erQ bs = er := by unfold erQ; rw [h]
theorem er_yes {bs : List UInt8} {c : Ce} (h : certQ bs = .inr c) : erQ bs = 0 := by unfold erQ; rw [h]
theorem PA.yes {base : Nat} {bs : List UInt8} {D : Array Value} {W : World} {c : Ce} (h : PA base bs D W) (hc : certQ bs = .inr c) : ∃ raw tbs iss sub ser n sig : S3, D = certC raw tbs iss sub ser c.frm c.til n c.e sig c.xt ∧ OwnS3 W base raw c.raw ∧ OwnS3 W base tbs c.tbs ∧ OwnS3 W base iss c.iss ∧ OwnS3 W base sub c.sub ∧ OwnS3 W base ser c.ser ∧ OwnS3 W base n c.n ∧ OwnS3 W base sig c.sig := by
  unfold PA at h
  rw [hc] at h
  exact h

theorem serials_big (k : KC) (A : Option Addr) (n c : Nat) (w : World) (hn : 100 < n) : Calls Try.prog 11 #[k.val, .slice A n c] w fun e w' => e = .returned (.bool true) ∧ Below w.heap.size w w' := by
  have q1 : decide ((100 : Int) < (n : Int)) = true := decide_eq_true (by omega)
  unfold KC.val
  obtain ⟨CC, HCC⟩ : ∃ CC, Hid (k.cells = CC) := ⟨_, Lib.hid rfl⟩
  rw [HCC.out]
  go_enter Try.func11, Try.ntmps11
  go_wp2_with fail
  refine (works12_any _).mono ?_
  rintro e w' ⟨rfl, hb⟩
  have HB := Lib.hid (kp_call (kp_alloc (Below.refl _ _) _) hb)
  clear hb
  go_wp2
  go_ret
  exact ⟨rfl, HB.out⟩

set_option maxHeartbeats 8000000 in
theorem serials_go (k : KC) (A : Option Addr) (n c : Nat) (bb : List UInt8) (w : World) (hk : IsKC w k) (h : IsBs w A n c bb) (hn : n ≤ 100) : Calls Try.prog 11 #[k.val, .slice A n c] w fun e w' => e = .returned (.bool true) ∧ Below w.heap.size w w' := by

  have q1 : decide ((100 : Int) < (n : Int)) = false := decide_eq_false (by omega)
  have HM := Lib.hid h.rb
  have hbl := h.len
  have hle := h.le
  have hmx := h.max
  clear h
  have HKC := Lib.hid hk
  have HCS := Lib.hid (kc_info k)
  unfold KC.val
  obtain ⟨CC, HCC⟩ : ∃ CC, Hid (k.cells = CC) := ⟨_, Lib.hid rfl⟩
  have ICC : Hid ((Try.prog.info? 28).map (·.size) = some CC.size) := by rw [← HCC.out]; exact Lib.hid (kc_info k)
  clear hk HCS
  rw [HCC.out]
  go_enter Try.func11, Try.ntmps11
  go_upto_region 3 with (fail)
  refine wp_nm fun w0 hw0 => ?_
  have HB := Lib.hid (show Below w.heap.size w w0 by rw [← hw0]; exact kp_alloc (Below.refl _ _) _)
  have HK := Lib.hid (show w0.heap[w.heap.size]? = some (.cells CC 28) by rw [← hw0]; exact has_new _ _)
  clear hw0
  clear q1
  refine wp_region_monoS (by kernel_rfl) (by kernel_rfl) [14, 15, 16, 17, 18, 13, 19, 20, 5] (by rfl) (by rfl) (by decide) (by rfl) (fun j => ([MR.eq (.agg CC), MR.eq (.slice A n c), MR.own (w.heap.size) (wrQ 2 bb), MR.own (w.heap.size) (serC k bb), MR.par (w.heap.size) (serC k bb), MR.par (w.heap.size) (serC k bb), MR.par0 (w.heap.size) (serC k bb), MR.eq (.int .i64 (erQ (serC k bb) : Int)), MR.fresh0 (w0.heap.size)] : List MR).getD j MR.any) [] [[], [], [1], [0, 1, 2], [0, 1, 2, 3], [0, 1, 2, 3, 4], [0, 1, 2, 3, 4, 5], [0, 1, 2, 3, 4, 5], [], [0, 1, 2, 3, 4, 5, 6, 8], [0, 1, 2, 3, 4, 5, 6, 7, 8, 9]] (by kernel_rfl) (by kernel_rfl) 7 (by decide) (by kernel_rfl) (by kernel_rfl) _ (by rfl) _ 5 19 (by rfl) (by rfl) (by rfl) (by decide) (by decide) _ (by rfl) (by rfl) ?_ (by rfl) ?_ ?_
  · intro ρ W E
    obtain ⟨D13, e13, P13⟩ : (MR.par (w.heap.size) (serC k bb)).p (ρ (.tmp 13)) W := E.dep 5 (by kernel_rfl)
    exact ⟨_, pure_extract rfl e13 (fun _ => by kernel_rfl), rfl⟩
  · intro i hi ρ W E
    simp only [List.length_cons, List.length_nil] at hi
    have hbW : w.heap.size ≤ W.heap.size := Nat.le_trans HB.out.size E.up.size
    rcases (show i = 0 ∨ i = 1 ∨ i = 2 ∨ i = 3 ∨ i = 4 ∨ i = 5 ∨ i = 6 ∨ i = 7 ∨ i = 8 by omega) with rfl | rfl | rfl | rfl | rfl | rfl | rfl | rfl | rfl
    · -- 0: load 28 t2
      refine mono_at (by rfl) rfl ?_
      have e2 : ρ (.tmp 2) = .pointer (some ⟨w.heap.size, 0, none⟩) := E.old 2 rfl
      exact mo_loadr rfl e2 (has_below HK.out E.up) Try.underlying28 rfl ICC.out ⟨Below.refl _ _, rfl⟩
    · -- 1: move t1
      refine mono_at (by rfl) rfl ?_
      have e1 : ρ (.tmp 1) = .slice A n c := E.old 1 rfl
      exact mo_move rfl ⟨Below.refl _ _, e1⟩
    · -- 2: call { value (Operand.func 26), args := #[const (2:u8), t15]
      refine mono_at (by rfl) rfl ?_
      have e15 : ρ (.tmp 15) = .slice A n c := E.dep 1 (by kernel_rfl)
      refine mo_call rfl (E.fn _) (fun _ _ => by kernel_rfl) (args := #[.int .u8 2, .slice A n c]) (by simp only [List.map_toArray, List.map_cons, List.map_nil, List.length_cons, List.length_nil, Nat.reduceAdd, E.cst, e15]) ?_
      exact writeM 2 (HM.out.below (HB.out.trans (E.up.mono HB.out.size))) (by omega) hbW
    · -- 3: call { value (Operand.func 29), args := #[t14, const (1:i64)
      refine mono_at (by rfl) rfl ?_
      have e14 : ρ (.tmp 14) = .agg CC := E.dep 0 (by kernel_rfl)
      obtain ⟨A16, n16, c16, e16, o16⟩ : (MR.own (w.heap.size) (wrQ 2 bb)).p (ρ (.tmp 16)) W := E.dep 2 (by kernel_rfl)
      refine mo_call rfl (E.fn _) (fun _ _ => by kernel_rfl) (args := #[.agg CC, .int .i64 1, .slice A16 n16 c16]) (by simp only [List.map_toArray, List.map_cons, List.map_nil, List.length_cons, List.length_nil, Nat.reduceAdd, E.cst, e14, e16]) ?_
      rw [← HCC.out]
      exact fresh_own (k.put w HKC.out W (HB.out.trans (E.up.mono HB.out.size)) 1 1 rfl (by omega) o16.rb (by have := wrQ_len 2 bb (by omega); omega)) hbW
    · -- 4: call { value (Operand.func 15), args := #[t17], argTypes := 
      refine mono_at (by rfl) rfl ?_
      obtain ⟨A17, n17, c17, e17, o17⟩ : (MR.own (w.heap.size) (serC k bb)).p (ρ (.tmp 17)) W := E.dep 3 (by kernel_rfl)
      refine mo_call rfl (E.fn _) (fun _ _ => by kernel_rfl) (args := #[.slice A17 n17 c17]) (by simp only [List.map_toArray, List.map_cons, List.map_nil, List.length_cons, List.length_nil, Nat.reduceAdd, E.cst, e17]) ?_
      exact parM o17.rb o17.cap.1 o17.cap.2 (by have h1 := ser_len k bb (by omega); have h2 := cert_len (wrQ 48 (k.L.set 1 (wrQ 2 bb)).flatten) (k.gb.take 100) (by have := wrQ_len 48 (k.L.set 1 (wrQ 2 bb)).flatten (by omega); omega) (by have := take_len k.gb 100; omega); have h3 := wrQ_len 48 (k.L.set 1 (wrQ 2 bb)).flatten (by omega); have h4 := take_len k.gb 100; unfold serC; omega) hbW
    · -- 5: move t18
      refine mono_at (by rfl) rfl ?_
      obtain ⟨D18, e18, P18⟩ : (MR.par (w.heap.size) (serC k bb)).p (ρ (.tmp 18)) W := E.dep 4 (by kernel_rfl)
      exact mo_move rfl ⟨Below.refl _ _, E.dep 4 (by kernel_rfl)⟩
    · -- 6: extract t13 0
      refine mono_at (by rfl) rfl ?_
      obtain ⟨D13, e13, P13⟩ : (MR.par (w.heap.size) (serC k bb)).p (ρ (.tmp 13)) W := E.dep 5 (by kernel_rfl)
      exact mo_extract rfl e13 (by kernel_rfl) ⟨Below.refl _ _, _, rfl, P13⟩
    · -- 7: extract t13 1
      refine mono_at (by rfl) rfl ?_
      obtain ⟨D13, e13, P13⟩ : (MR.par (w.heap.size) (serC k bb)).p (ρ (.tmp 13)) W := E.dep 5 (by kernel_rfl)
      exact mo_extract rfl e13 (by kernel_rfl) ⟨Below.refl _ _, rfl⟩
    · -- 8: alloc 33
      refine mono_at (by rfl) rfl ?_
      exact mo_alloc rfl run_alloc0 ⟨kp_alloc (Below.refl _ _) _, _, rfl, E.up.size, has_new _ _⟩
  · intro u W hbU hR
    obtain ⟨Du19, eu19, Pu19⟩ : (MR.par0 (w.heap.size) (serC k bb)).p (u 6) W := hR 6 (by decide)
    have hu20 : u 7 = .int .i64 (erQ (serC k bb) : Int) := hR 7 (by decide)
    obtain ⟨gu5, eu5, Lu5, Zu5⟩ : (MR.fresh0 (w0.heap.size)).p (u 8) W := hR 8 (by decide)
    clear hR
    simp only [lay, Nat.reduceAdd, List.setIfInBounds_toArray, List.set_cons_zero, List.set_cons_succ]
    refine ⟨_, (by show (Instr.storeAt _ (u 8) (u 6)).run _ W = _; rw [eu5, eu19]; exact run_storeAt_row9 W gu5 _ _ _ Du19 Zu5 (info24 Pu19.size.1) (by rw [Pu19.size.1]; rfl) Pu19.size.2), wpOp_val (v := u 7) (by rfl) rfl (by rfl) ?_⟩
    dsimp only [Act.put]
    simp only [List.setIfInBounds_toArray, List.set_cons_zero, List.set_cons_succ, eu19, hu20, eu5]
    clear eu19 hu20 eu5
    have HB1 := Lib.hid (kp_call HB.out hbU)
    have HZ := Lib.hid Zu5
    have hg5 := Nat.le_trans HB.out.size Lu5
    have HP := Lib.hid Pu19
    have I19 := Lib.hid (info24 Pu19.size.1)
    have A19 := Lib.hid Pu19.size
    clear hbU Zu5 Lu5 Pu19
    go_upto_region 4 with (fail)
    refine wp_nm fun w1 hw1 => ?_
    have HG : Hid (W.grownBy w1 (some gu5)) := by rw [← hw1]; exact Lib.hid (grown_row ..)
    have HD := Lib.hid (show w1.heap[gu5]? = some (.cells Du19 33) by rw [← hw1]; exact setRow_heap _ _ _ _ _ _ HZ.out)
    have HB2 := Lib.hid (kp_grown HB1.out HG.out hg5)
    replace HP := Lib.hid (HP.out.keptC HG.out HZ.out)
    clear hw1 HG HZ HB1
    have hsq := se_int bb
    go_wp2_with fail
    refine (rint_any A n c bb w1 (HM.out.below HB2.out) hle (by omega) (maxLen_i64 hmx)).mono ?_
    intro e' w2 hp
    unfold IntPost at hp
    cases hI : intQ bb with
    | none =>
      rw [hI] at hp hsq
      obtain ⟨rfl, hb⟩ := hp
      have HC := Lib.hid (er_no (ser_no k bb (by omega) hsq))
      rw [HC.out]
      replace HB2 := Lib.hid (kp_call HB2.out hb)
      clear hb hsq hI
      go_wp2_with fail
      refine (works12_any _).mono ?_
      rintro e w' ⟨rfl, hb⟩
      have HBE := Lib.hid (kp_call HB2.out hb)
      clear hb
      go_wp2
      go_ret
      exact ⟨rfl, HBE.out⟩
    | some l =>
      rw [hI] at hp hsq
      simp only [Option.bind_some] at hsq
      obtain ⟨⟨A3, n3, c3, rfl, ho⟩, hb⟩ := hp
      have hl3 := ho.len
      replace HB2 := Lib.hid (kp_call HB2.out hb)
      replace HD := Lib.hid (has_below HD.out hb)
      replace HP := Lib.hid (HP.out.below hb)
      clear ho hI
      by_cases hok : 0 < l.length ∧ bb.length ≤ 20
      · rw [if_pos hok] at hsq
        obtain ⟨ce, hce, hcs⟩ := ser_yes k bb (by omega) hsq
        have HC := Lib.hid (er_yes hce)
        obtain ⟨raw, tbs, iss, sub, ser, nn, sig, hD, _, _, _, _, hser, _⟩ := HP.out.yes hce
        rw [hcs] at hser
        have c4 : w2.cell? ⟨gu5, 4, none⟩ = some (sv ser) := by have h9 := HD.out; rw [hD] at h9; exact Lib.cell_of_heap h9 4
        have HS := Lib.hid (OwnB.rb hser)
        have HMr := Lib.hid (HM.out.below HB2.out)
        have kc1 := run_bstring (c := ser.2.2) HS.out
        have kc2 := fun c => run_bstring (c := c) HMr.out
        have q2 : decide (n3 = 0) = false := decide_eq_false (by omega)
        have q3 : decide (20 < n) = false := decide_eq_false (by omega)
        have q4 : ((n3 : Int) == 0) = false := beq_eq_false_iff_ne.2 (by omega)
        have q5 : decide ((20 : Int) < (n : Int)) = false := decide_eq_false (by omega)
        rw [HC.out]
        clear hb hsq hok hce hcs hD hser HP HD
        go_wp2_with fail
        refine (works12_any _).mono ?_
        rintro e w' ⟨rfl, hb⟩
        have HBE := Lib.hid (kp_call HB2.out hb)
        clear hb
        go_wp2
        go_ret
        exact ⟨rfl, HBE.out⟩
      · rw [if_neg hok] at hsq
        have HC := Lib.hid (er_no (ser_no k bb (by omega) hsq))
        rw [HC.out]
        obtain h0 | h0 : n3 = 0 ∨ 0 < n3 := by omega
        · subst h0
          clear hb hsq hok HP HD
          go_wp2_with fail
          refine (works12_any _).mono ?_
          rintro e w' ⟨rfl, hb⟩
          have HBE := Lib.hid (kp_call HB2.out hb)
          clear hb
          go_wp2
          go_ret
          exact ⟨rfl, HBE.out⟩
        · have h1 : 20 < n := by
            rcases Nat.lt_or_ge 20 n with h9 | h9
            · exact h9
            · exact absurd ⟨by omega, by omega⟩ hok
          have q2 : decide (n3 = 0) = false := decide_eq_false (by omega)
          have q3 : decide (20 < n) = true := decide_eq_true h1
          have q4 : ((n3 : Int) == 0) = false := beq_eq_false_iff_ne.2 (by omega)
          have q5 : decide ((20 : Int) < (n : Int)) = true := decide_eq_true (by omega)
          clear hb hsq hok HP HD h0
          go_wp2_with fail
          refine (works12_any _).mono ?_
          rintro e w' ⟨rfl, hb⟩
          have HBE := Lib.hid (kp_call HB2.out hb)
          clear hb
          go_wp2
          go_ret
          exact ⟨rfl, HBE.out⟩

theorem serials_row (k : KC) (A : Option Addr) (n c : Nat) (bb : List UInt8) (w : World) (hk : IsKC w k) (h : IsBs w A n c bb) : Calls Try.prog 11 #[k.val, .slice A n c] w fun e w' => e = .returned (.bool true) ∧ Below w.heap.size w w' := by
  by_cases hn : 100 < n
  · exact serials_big k A n c w hn
  · exact serials_go k A n c bb w hk h (by omega)
end Go.Proofs.Ytomolfdcdmncoaa
