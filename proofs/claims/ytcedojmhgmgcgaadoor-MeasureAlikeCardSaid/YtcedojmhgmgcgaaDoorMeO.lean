/-
  measure: the statement on images whose hashed bytes are the same: two images.
-/
import Derived.Test.YtcedojmhgmgcgaaDoorMeM
import Derived.Test.YtcedojmhgmgcgaaDoorMp9
import Derived.StillTailTactics
import Derived.Deep.Cut
namespace Go.Proofs.YtcedojmhgmgcgaaDoor
open Go.RowKit Go
set_option linter.unusedVariables false
set_option linter.unusedSimpArgs false
set_option maxRecDepth 100000
attribute [local go_sem] Oper.semAt_some
set_option maxHeartbeats 16000000 in
theorem alike_ok (A0 : Option Addr) (n0 c0 : Nat) (b0 : List UInt8) (A1 : Option Addr) (n1 c1 : Nat) (b1 : List UInt8) (w : World) (hR0 : RB w A0 n0 b0) (hR1 : RB w A1 n1 b1) (hT : Sizes w) (hnc0 : n0 ≤ c0) (hcc0 : c0 ≤ 9223372036854775807) (hnc1 : n1 ≤ c1) (hcc1 : c1 ≤ 9223372036854775807) (hn0 : n0 ≤ 8192) (hn1 : n1 ≤ 8192) (im0 im1 : Im) (hp0 : parseQ b0 = .inr im0) (hp1 : parseQ b1 = .inr im1) :
    Calls Tryd.prog 6 #[.slice A0 n0 c0, .slice A1 n1 c1] w fun e w' => e = .returned (.bool true) ∧ Below w.heap.size w w' := by
  have hnb0 := Lib.hid hR0.1
  have hnb1 := Lib.hid hR1.1
  have h64 : 64 ≤ n0 ∧ 64 ≤ n1 := by
    have h1 := (ranges_facts b0 im0 hp0).1
    have h2 := (ranges_facts b1 im1 hp1).1
    rw [hnb0.out] at h1
    rw [hnb1.out] at h2
    exact ⟨h1, h2⟩
  have HP0 := Lib.hid hp0
  have HP1 := Lib.hid hp1
  clear hp0 hp1
  obtain ⟨ba0, oa0, qa0, hA0, _, _, _⟩ := hR0.at_ (k := 0) (by omega)
  subst hA0
  obtain ⟨ba1, oa1, qa1, hA1, _, _, _⟩ := hR1.at_ (k := 0) (by omega)
  subst hA1
  have t1 : decide ((8192 : Int) < (n0 : Int)) = false := by simp; omega
  have t2 : decide ((8192 : Int) < (n1 : Int)) = false := by simp; omega
  have HS := Lib.hid hT
  have R1 := Lib.hid (mranges_any (some ⟨ba0, oa0, none⟩) n0 c0 b0 w hR0 hT hnc0 hcc0)
  have H0 := Lib.hid (And.intro hR0 hR1)
  clear hR0 hR1 hT
  go_enter Tryd.func6, Tryd.ntmps6
  go_wp2_with (fail)
  (with_reducible refine R1.out.mono ?_)
  clear R1
  rintro e w1 hp
  obtain ⟨L0, m0, d0, er0, rfl, hra0⟩ := ranges_abs hp
  have H1 := Lib.hid (And.intro hra0 (And.intro (H0.out.1.below hra0.b) (And.intro (H0.out.2.below hra0.b) hra0.b)))
  have R2 := Lib.hid (mranges_any (some ⟨ba1, oa1, none⟩) n1 c1 b1 w1 H1.out.2.2.1 (HS.out.below' H1.out.2.2.2) hnc1 hcc1)
  clear hp hra0
  go_wp2_with (fail)
  (with_reducible refine R2.out.mono ?_)
  clear R2
  rintro e w2 hp
  obtain ⟨L1, m1, d1, er1, rfl, hra1⟩ := ranges_abs hp
  have H2 := Lib.hid (And.intro hra1 (And.intro (H1.out.2.1.below hra1.b) (And.intro (H1.out.2.2.1.below hra1.b) (kp_call H1.out.2.2.2 hra1.b))))
  have D1 := Lib.hid (digest_any (some ⟨ba0, oa0, none⟩) n0 c0 b0 w2 H2.out.2.1 (HS.out.below' H2.out.2.2.2) hnc0 hcc0)
  clear hp hra1
  go_wp2_with (fail)
  (with_reducible refine D1.out.mono ?_)
  clear D1
  rintro e w3 hp
  obtain ⟨ds0, iv0, er2, rfl, hda0⟩ := digest_abs hp
  have DA0 := Lib.hid hda0
  have DSZ0 := Lib.hid hda0.sz
  have DS10 := Lib.hid hda0.s1
  have DSO0 := Lib.hid hda0.so
  clear hp hda0
  go_upto_region 6 with (first
    | (refine wpList_store_row rfl _ _ _ rfl w3.heap.size ds0 rfl rfl _ _ (has_alloc (has_new w3 (.cells zD 28)) _) DSZ0.out DS10.out DSO0.out ?_)
    | (refine wpList_store_row rfl _ _ _ rfl (w3.heap.size + 1) iv0 rfl rfl _ _ ((setRow_other _ _ _ _ (by omega)).trans (has_new' (w3.alloc (.cells zD 28)) (.cells imZero 33) _ (by simp))) DA0.out.isz DA0.out.is1 DA0.out.iso ?_))
  refine wp_nm fun w4 hw4 => ?_
  obtain ⟨q0, hq0⟩ : ∃ q0, w3.heap.size = q0 := ⟨_, rfl⟩
  have K4 : Hid (w4.heap[q0]? = some (.cells ds0 28) ∧ w4.heap[q0 + 1]? = some (.cells iv0 33) ∧ Below w3.heap.size w3 w4) := by
    rw [← hw4, ← hq0]
    exact Lib.hid ⟨(setRow_other _ _ _ _ (by omega)).trans (setRow_heap _ _ _ _ _ _ (has_alloc (has_new w3 (.cells zD 28)) _)), setRow_heap _ _ _ _ _ _ ((setRow_other _ _ _ _ (by omega)).trans (has_new' (w3.alloc (.cells zD 28)) (.cells imZero 33) _ (by simp))), below_setRow (below_setRow (kp_alloc (kp_alloc (Below.refl _ _) _) _) (Nat.le_refl _) _) (by omega) _⟩
  have HZq0 := Lib.hid hq0
  rw [hq0]
  clear hw4 hq0
  have H4 := Lib.hid (And.intro (kp_call H2.out.2.2.2 (kp_call DA0.out.b K4.out.2.2)) (And.intro (H2.out.2.1.below (kp_call DA0.out.b K4.out.2.2)) (H2.out.2.2.1.below (kp_call DA0.out.b K4.out.2.2))))
  have D2 := Lib.hid (digest_any (some ⟨ba1, oa1, none⟩) n1 c1 b1 w4 H4.out.2.2 (HS.out.below' H4.out.1) hnc1 hcc1)
  go_wp2_with (fail)
  (with_reducible refine D2.out.mono ?_)
  clear D2
  rintro e w5 hp
  obtain ⟨ds1, iv1, er3, rfl, hda1⟩ := digest_abs hp
  have DA1 := Lib.hid hda1
  have DSZ1 := Lib.hid hda1.sz
  have DS11 := Lib.hid hda1.s1
  have DSO1 := Lib.hid hda1.so
  clear hp hda1
  go_upto_region 7 with (first
    | (refine wpList_store_row rfl _ _ _ rfl w5.heap.size ds1 rfl rfl _ _ (has_alloc (has_new w5 (.cells zD 28)) _) DSZ1.out DS11.out DSO1.out ?_)
    | (refine wpList_store_row rfl _ _ _ rfl (w5.heap.size + 1) iv1 rfl rfl _ _ ((setRow_other _ _ _ _ (by omega)).trans (has_new' (w5.alloc (.cells zD 28)) (.cells imZero 33) _ (by simp))) DA1.out.isz DA1.out.is1 DA1.out.iso ?_))
  refine wp_nm fun w6 hw6 => ?_
  obtain ⟨q1, hq1⟩ : ∃ q1, w5.heap.size = q1 := ⟨_, rfl⟩
  have K6 : Hid (w6.heap[q1]? = some (.cells ds1 28) ∧ w6.heap[q1 + 1]? = some (.cells iv1 33) ∧ Below w5.heap.size w5 w6) := by
    rw [← hw6, ← hq1]
    exact Lib.hid ⟨(setRow_other _ _ _ _ (by omega)).trans (setRow_heap _ _ _ _ _ _ (has_alloc (has_new w5 (.cells zD 28)) _)), setRow_heap _ _ _ _ _ _ ((setRow_other _ _ _ _ (by omega)).trans (has_new' (w5.alloc (.cells zD 28)) (.cells imZero 33) _ (by simp))), below_setRow (below_setRow (kp_alloc (kp_alloc (Below.refl _ _) _) _) (Nat.le_refl _) _) (by omega) _⟩
  have HZq1 := Lib.hid hq1
  rw [hq1]
  clear hw6 hq1
  have hb46 : Below w4.heap.size w4 w6 := kp_call DA1.out.b K6.out.2.2
  have hb26 : Below w2.heap.size w2 w6 := kp_call (kp_call DA0.out.b K4.out.2.2) hb46
  have H6 := Lib.hid (And.intro (kp_call H4.out.1 hb46) (And.intro (H4.out.2.1.below hb46) (And.intro (H4.out.2.2.below hb46) (And.intro (has_below K4.out.1 hb46) K6.out.1))))
  have HRA := Lib.hid (And.intro H1.out.1 H2.out.1)
  have HB26 := Lib.hid hb26
  clear hb46 hb26 H4 K4 K6 H2 H1 H0
  have z0 : er0 = 0 := by
    by_cases h : er0 = 0
    · exact h
    · have := (HRA.out.1.no h).1; rw [HP0.out] at this; cases this
  obtain ⟨imx, hq, hn0', ho0⟩ := HRA.out.1.ok z0
  obtain rfl : im0 = imx := by rw [HP0.out] at hq; injection hq
  clear hq
  subst z0
  have hd0 : ds0 = ((digQ b0 im0).map v8).toArray := by
    by_cases h6 : er2 = 0
    · obtain ⟨im, _, _, _, _, _, _, _, h7, h8, _⟩ := DA0.out.ok h6
      rw [HP0.out] at h7
      injection h7 with h7
      subst h7
      exact h8
    · have := (DA0.out.no h6).1; rw [HP0.out] at this; cases this
  obtain ⟨LL0, hLL0⟩ : ∃ L, rangesM im0 b0.length = L := ⟨_, rfl⟩
  rw [hLL0] at hn0' ho0
  obtain ⟨gl0, rfl, hgl0, hgk0⟩ := ho0.shape (by have := ho0.cap.1; have := (ranges_facts b0 im0 HP0.out).2.1; rw [hLL0] at this; omega)
  have HLEN0 : Hid (LL0.length = m0) := Lib.hid hn0'.symm
  have HF0 : Hid (∀ (i : Nat) (x : Nat × Nat), LL0[i]? = some x → x.1 ≤ x.2 ∧ x.2 ≤ n0) := by
    have := (ranges_facts b0 im0 HP0.out).2.2.2
    rw [hLL0, hnb0.out] at this
    exact Lib.hid this
  have hm20 : m0 ≤ 2000 := by have := (ranges_facts b0 im0 HP0.out).2.2.1; rw [hLL0] at this; omega
  have HDS0 := Lib.hid hd0
  have HLL0 := Lib.hid hLL0
  have z1 : er1 = 0 := by
    by_cases h : er1 = 0
    · exact h
    · have := (HRA.out.2.no h).1; rw [HP1.out] at this; cases this
  obtain ⟨imx, hq, hn1', ho1⟩ := HRA.out.2.ok z1
  obtain rfl : im1 = imx := by rw [HP1.out] at hq; injection hq
  clear hq
  subst z1
  have hd1 : ds1 = ((digQ b1 im1).map v8).toArray := by
    by_cases h6 : er3 = 0
    · obtain ⟨im, _, _, _, _, _, _, _, h7, h8, _⟩ := DA1.out.ok h6
      rw [HP1.out] at h7
      injection h7 with h7
      subst h7
      exact h8
    · have := (DA1.out.no h6).1; rw [HP1.out] at this; cases this
  obtain ⟨LL1, hLL1⟩ : ∃ L, rangesM im1 b1.length = L := ⟨_, rfl⟩
  rw [hLL1] at hn1' ho1
  obtain ⟨gl1, rfl, hgl1, hgk1⟩ := ho1.shape (by have := ho1.cap.1; have := (ranges_facts b1 im1 HP1.out).2.1; rw [hLL1] at this; omega)
  have HLEN1 : Hid (LL1.length = m1) := Lib.hid hn1'.symm
  have HF1 : Hid (∀ (i : Nat) (x : Nat × Nat), LL1[i]? = some x → x.1 ≤ x.2 ∧ x.2 ≤ n1) := by
    have := (ranges_facts b1 im1 HP1.out).2.2.2
    rw [hLL1, hnb1.out] at this
    exact Lib.hid this
  have hm21 : m1 ≤ 2000 := by have := (ranges_facts b1 im1 HP1.out).2.2.1; rw [hLL1] at this; omega
  have HDS1 := Lib.hid hd1
  have HLL1 := Lib.hid hLL1
  have HRL0 := Lib.hid (ho0.below (kp_call HRA.out.2.b HB26.out) (Nat.le_refl _))
  have HRL1 := Lib.hid (ho1.below HB26.out (Nat.le_refl _))
  have HRB0 := Lib.hid H6.out.2.1
  have HRB1 := Lib.hid H6.out.2.2.1
  clear ho0 ho1 hgl0 hgl1 hgk0 hgk1 hn0' hn1' hd0 hd1 hLL0 hLL1
  rw [show ((0 : Nat) : Int) = 0 from rfl]
  go_wp2_with (fail)
  go_loopw [15, 17] (fun vp vi wl => ∃ (i np cp : Nat) (Ap : Option Addr), vp = .slice Ap np cp ∧ vi = .int .i64 (i : Int) ∧ i ≤ m0 ∧ np ≤ 8192 * i ∧ Hid (OwnB wl w6.heap.size Ap np cp (hashedL b0 (LL0.take i)) ∧ Below w6.heap.size w6 wl)) (fun _ vi _ => m0 - (intOf vi).toNat)
  case atStart => exact ⟨0, 0, 0, none, rfl, rfl, Nat.zero_le _, Nat.zero_le _, Lib.hid ⟨OwnB.nil _ _, Below.refl _ _⟩⟩
  case round =>
    obtain ⟨i, np, cp, Ap, rfl, rfl, hi, hnp, HK⟩ := hrel
    by_cases hlt : i < m0
    · have i1 : decide ((i : Int) < (m0 : Int)) = true := by simp; omega
      have i1n : decide (i < m0) = true := by simp; omega
      have e1 : IntKind.i64.wrap ((i : Int) + 1) = (i : Int) + 1 := IntWalk.i64_in _ (by omega)
      obtain ⟨x, hx⟩ : ∃ x, LL0[i]? = some x := ⟨_, List.getElem?_eq_getElem (by have := HLEN0.out; omega)⟩
      obtain ⟨s0, s1⟩ := rng_at _ _ _ hx
      have hrl := (HRL0.out.below HK.out.2 (Nat.le_refl _))
      have k0 := ownR_at hrl s0
      have k1 := ownR_at hrl s1
      obtain ⟨f1, f2⟩ := HF0.out i x hx
      have HN := Lib.hid (hashed_take b0 _ i x hx)
      obtain ⟨lo, hi9⟩ := x
      dsimp only at k0 k1 f1 f2
      obtain ⟨SA, hSA⟩ : ∃ SA : Option Addr, (if c0 = lo then some (⟨ba0, oa0, none⟩ : Addr) else some ⟨ba0, oa0 + lo, none⟩) = SA := ⟨_, rfl⟩
      have hRF := rb_seg (HRB0.out.below HK.out.2) hnc0 f1 f2
      rw [hSA] at hRF
      obtain ⟨mm, hmm⟩ : ∃ mm, hi9 - lo = mm := ⟨_, rfl⟩
      have HRF : Hid (RB wr SA mm (seg b0 (lo, hi9))) := by rw [← hmm]; exact Lib.hid hRF
      have hmml : mm ≤ 8192 := by omega
      have HMM := Lib.hid hmm
      have i3 : (0 : Int) ≤ (lo : Int) := by omega
      have i4 : (lo : Int) ≤ (hi9 : Int) := by omega
      have i5 : (hi9 : Int) ≤ (c0 : Int) := by omega
      have i6 : (lo : Int) ≤ (c0 : Int) := by omega
      have hisz : i ≤ 2000 := by omega
      clear hrl s0 s1 hRF hx
      go_upto_region 13 with (fail)
      refine wp_region_still_tail 13 (by kernel_rfl) (by kernel_rfl) ?_
      simp only [List.take_succ_cons, List.take_zero, List.drop_succ_cons, List.drop_zero]
      iterate 13 ((with_reducible refine wpStill_step (fun K hK => ?_)); go_simp; (with_reducible refine hK _ ?_); clear hK K)
      with_reducible refine wpStill_nil ?_
      change wpList _ _ _ _ _ wr.drew
      try rw [hmm]
      clear hmm hSA
      go_wp2_with (at_builtin; refine wpList_apn _ _ rfl rfl rfl w6.heap.size Ap np cp _ rfl (HK.out.1.drew) SA mm _ _ rfl HRF.out.drew (by omega) (by have := HK.out.2.size; exact this) ?_; intro A' c' w' ho' hg'; have HO' := Lib.hid ho'; have HB' := Lib.hid (show Below w6.heap.size w6 w' from (HK.out.2.drew).grown hg' (by have := HK.out.2.size; exact this) (fun k hk => (HK.out.1.blk_lt hk).1)); clear ho' hg')
      go_roundw
      case rel => exact ⟨i + 1, np + mm, c', A', rfl, by go_num, by omega, by omega, Lib.hid ⟨by rw [HN.out]; exact HO'.out, HB'.out⟩⟩
      case measure => simp [intOf]; omega
    · have i1 : decide ((i : Int) < (m0 : Int)) = false := by simp; omega
      have i1n : decide (i < m0) = false := by simp; omega
      obtain rfl : i = m0 := by omega
      have htk : LL0.take i = LL0 := by rw [← HLEN0.out, List.take_length]
      rw [htk] at HK
      clear htk i1 hlt hi
      generalize hWX : wr = WX at *
      have HK0 := Lib.hid HK.out
      clear HK hWX i1n hnp
      have HRL1x := Lib.hid (HRL1.out.below HK0.out.2 (Nat.le_refl _))
      have HRB1x := Lib.hid (HRB1.out.below HK0.out.2)
      have H7 := Lib.hid (And.intro (kp_call H6.out.1 HK0.out.2) (And.intro (has_below H6.out.2.2.2.1 HK0.out.2) (has_below H6.out.2.2.2.2 HK0.out.2)))
      go_wp2_with (fail)
      go_loopw [16, 18] (fun vp vi wl => ∃ (i nq cq : Nat) (Aq : Option Addr), vp = .slice Aq nq cq ∧ vi = .int .i64 (i : Int) ∧ i ≤ m1 ∧ nq ≤ 8192 * i ∧ Hid (OwnB wl WX.heap.size Aq nq cq (hashedL b1 (LL1.take i)) ∧ Below WX.heap.size WX wl)) (fun _ vi _ => m1 - (intOf vi).toNat)
      case atStart => exact ⟨0, 0, 0, none, rfl, rfl, Nat.zero_le _, Nat.zero_le _, Lib.hid ⟨OwnB.nil _ _, Below.refl _ _⟩⟩
      case round =>
        obtain ⟨i, nq, cq, Aq, rfl, rfl, hi, hnq, HK⟩ := hrel
        by_cases hlt : i < m1
        · have i1 : decide ((i : Int) < (m1 : Int)) = true := by simp; omega
          have i1n : decide (i < m1) = true := by simp; omega
          have e1 : IntKind.i64.wrap ((i : Int) + 1) = (i : Int) + 1 := IntWalk.i64_in _ (by omega)
          obtain ⟨x, hx⟩ : ∃ x, LL1[i]? = some x := ⟨_, List.getElem?_eq_getElem (by have := HLEN1.out; omega)⟩
          obtain ⟨s0, s1⟩ := rng_at _ _ _ hx
          have hrl := (HRL1x.out.below HK.out.2 (Nat.le_refl _))
          have k0 := ownR_at hrl s0
          have k1 := ownR_at hrl s1
          obtain ⟨f1, f2⟩ := HF1.out i x hx
          have HN := Lib.hid (hashed_take b1 _ i x hx)
          obtain ⟨lo, hi9⟩ := x
          dsimp only at k0 k1 f1 f2
          obtain ⟨SA, hSA⟩ : ∃ SA : Option Addr, (if c1 = lo then some (⟨ba1, oa1, none⟩ : Addr) else some ⟨ba1, oa1 + lo, none⟩) = SA := ⟨_, rfl⟩
          have hRF := rb_seg (HRB1x.out.below HK.out.2) hnc1 f1 f2
          rw [hSA] at hRF
          obtain ⟨mm, hmm⟩ : ∃ mm, hi9 - lo = mm := ⟨_, rfl⟩
          have HRF : Hid (RB wr SA mm (seg b1 (lo, hi9))) := by rw [← hmm]; exact Lib.hid hRF
          have hmml : mm ≤ 8192 := by omega
          have HMM := Lib.hid hmm
          have i3 : (0 : Int) ≤ (lo : Int) := by omega
          have i4 : (lo : Int) ≤ (hi9 : Int) := by omega
          have i5 : (hi9 : Int) ≤ (c1 : Int) := by omega
          have i6 : (lo : Int) ≤ (c1 : Int) := by omega
          have hisz : i ≤ 2000 := by omega
          clear hrl s0 s1 hRF hx
          go_upto_region 17 with (fail)
          refine wp_region_still_tail 13 (by kernel_rfl) (by kernel_rfl) ?_
          simp only [List.take_succ_cons, List.take_zero, List.drop_succ_cons, List.drop_zero]
          iterate 13 ((with_reducible refine wpStill_step (fun K hK => ?_)); go_simp; (with_reducible refine hK _ ?_); clear hK K)
          with_reducible refine wpStill_nil ?_
          change wpList _ _ _ _ _ wr.drew
          try rw [hmm]
          clear hmm hSA
          go_wp2_with (at_builtin; refine wpList_apn _ _ rfl rfl rfl WX.heap.size Aq nq cq _ rfl (HK.out.1.drew) SA mm _ _ rfl HRF.out.drew (by omega) (by have := HK.out.2.size; exact this) ?_; intro A' c' w' ho' hg'; have HO' := Lib.hid ho'; have HB' := Lib.hid (show Below WX.heap.size WX w' from (HK.out.2.drew).grown hg' (by have := HK.out.2.size; exact this) (fun k hk => (HK.out.1.blk_lt hk).1)); clear ho' hg')
          go_roundw
          case rel => exact ⟨i + 1, nq + mm, c', A', rfl, by go_num, by omega, by omega, Lib.hid ⟨by rw [HN.out]; exact HO'.out, HB'.out⟩⟩
          case measure => simp [intOf]; omega
        · have i1 : decide ((i : Int) < (m1 : Int)) = false := by simp; omega
          have i1n : decide (i < m1) = false := by simp; omega
          obtain rfl : i = m1 := by omega
          have htk : LL1.take i = LL1 := by rw [← HLEN1.out, List.take_length]
          rw [htk] at HK
          clear htk i1 hlt hi
          have H8 := Lib.hid (And.intro (kp_call H7.out.1 HK.out.2) (And.intro (has_below H7.out.2.1 HK.out.2) (has_below H7.out.2.2 HK.out.2)))
          have E := Lib.hid (eq_any _ _ _ _ cp cq _ _ wr (HK0.out.1.below HK.out.2 (Nat.le_refl _)).rb HK.out.1.rb)
          have HEND := Lib.hid (fun W' (h : Below wr.heap.size wr W') => kp_call H8.out.1 h)
          by_cases hb : hashedL b0 LL0 = hashedL b1 LL1
          · have hdd : ds1 = ds0 := by
              rw [HDS0.out, HDS1.out, digQ_of b0 b1 im0 im1 (by rw [HLL0.out, HLL1.out]; exact hb)]
            subst hdd
            have heq : ∀ W, (Op.equalIn 10000 28 (.agg ds1) (.agg ds1)).run Tryd.prog W = .ok true W := fun W => by rw [HDS0.out]; exact dig_same _ (dig_ofv _ _) W
            have E' : Hid (Calls Tryd.prog 11 _ wr fun e w' => e = .returned (.bool true) ∧ wr = w') := Lib.hid (E.out.mono fun e w' h => ⟨by rw [h.1, hb]; simp, h.2⟩)
            clear E hb
            go_wp2_with (fail)
            (with_reducible refine E'.out.mono ?_)
            rintro e w9 ⟨rfl, rfl⟩
            go_wp2_with (first
              | (refine wpList_load_rowH rfl _ _ rfl q0 rfl _ _ _ _ H8.out.2.1 Tryd.underlying28 rfl DSZ0.out ?_)
              | (refine wpList_load_rowH rfl _ _ rfl q1 rfl _ _ _ _ H8.out.2.2 Tryd.underlying28 rfl DSZ1.out ?_)
              | (go_at_call 8; (with_reducible refine (works17_any _ (HS.out.below' H8.out.1)).mono ?_); rintro e w7 ⟨rfl, hb7⟩; have HB7 := Lib.hid (kp_call H8.out.1 hb7); clear hb7))
            go_ret
            exact ⟨rfl, HB7.out⟩
          · have E' : Hid (Calls Tryd.prog 11 _ wr fun e w' => e = .returned (.bool false) ∧ wr = w') := Lib.hid (E.out.mono fun e w' h => ⟨by rw [h.1]; simp [hb], h.2⟩)
            clear E hb
            go_wp2_with (fail)
            (with_reducible refine E'.out.mono ?_)
            rintro e w9 ⟨rfl, rfl⟩
            go_wp2_with (first
              | (go_at_call 8; (with_reducible refine (works17_any _ (HS.out.below' H8.out.1)).mono ?_); rintro e w7 ⟨rfl, hb7⟩; have HB7 := Lib.hid (kp_call H8.out.1 hb7); clear hb7))
            go_ret
            exact ⟨rfl, HB7.out⟩
end Go.Proofs.YtcedojmhgmgcgaaDoor
