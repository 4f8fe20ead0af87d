/-
  flash: the statement FlashCounts.
-/
import Derived.Test.YtnodocpoangnkaaFlM
import Derived.Test.YtnodocpoangnkaaFlL
namespace Go.Proofs.Ytnodocpoangnkaa
open Go.RowKit Go
set_option linter.unusedVariables false
set_option linter.unusedSimpArgs false
set_option maxRecDepth 100000
theorem counts_round {w : World} {base g a c m W i N s : Nat} {T : FS} (h : FL w base g a c T) (hc : CS m W i N s T) (hi : i < 300) (hW : W ≤ 10000000) (A : Option Addr) (cA : Nat) (hR : RB w A 1 [1]) (hA : ([1] : List UInt8) ≠ [] → ∀ d, A = some d → d.block ≠ g ∧ d.block ≠ a) :
    Calls Try.prog 19 #[.pointer (some ⟨g, 0, none⟩), .int .i64 0, .slice A 1 cA] w
      fun e w' => e = .returned (.int .i64 (if m = 0 ∨ i < m - 1 then 0 else 6)) ∧ ∃ T', FL w' base g a c T' ∧ CS m W (i + 1) N s T' ∧ Far g a w w' := by
  obtain ⟨hn, hs, hc⟩ := hc
  have hp := h.pos
  have OKY : T.off = false → T.wr ≤ W + i → Calls Try.prog 19 #[.pointer (some ⟨g, 0, none⟩), .int .i64 0, .slice A 1 cA] w
      fun e w' => e = .returned (.int .i64 (progQ [1] 0 T).2) ∧ FL w' base g a c (progQ [1] 0 T).1 ∧ Far g a w w' := fun ho hw =>
    fprogram_any h ho 0 1 cA A [1] hR hA (.inr (by omega)) (by omega) (by omega)
  have CALM : ¬ T.left = 1 → progQ [1] 0 T = ({ T with left := T.left - 1, wr := T.wr + 1, bs := T.bs.set 0 (T.bs.getD 0 0 &&& 1) }, 0) := fun hl => by
    unfold progQ
    rw [if_neg hl]
    unfold progQ FS.step
    rw [if_neg hl]
  rcases hc with ⟨h1, h2, h3, h4⟩ | ⟨h1, h2, h3, h4, h5⟩ | ⟨h1, h2, h3, h4, h5⟩
  · refine (OKY h3 (by omega)).mono ?_
    rw [CALM (by omega), if_pos (.inl h1)]
    rintro e w' ⟨rfl, hf, hfar⟩
    exact ⟨rfl, _, hf, ⟨hn, hs, .inl ⟨h1, (by show T.left - 1 = 0; omega), h3, (by show T.wr + 1 = _; omega)⟩⟩, hfar⟩
  · by_cases hl : T.left = 1
    · refine (OKY h4 (by omega)).mono ?_
      have e9 : progQ [1] 0 T = ({ T with off := true, left := 0 }, 6) := by unfold progQ; rw [if_pos hl]
      rw [e9, if_neg (by omega)]
      rintro e w' ⟨rfl, hf, hfar⟩
      exact ⟨rfl, _, hf, ⟨hn, hs, .inr (.inr ⟨h1, by omega, rfl, rfl, (by show T.wr = _; omega)⟩)⟩, hfar⟩
    · refine (OKY h4 (by omega)).mono ?_
      rw [CALM hl, if_pos (.inr (by omega))]
      rintro e w' ⟨rfl, hf, hfar⟩
      exact ⟨rfl, _, hf, ⟨hn, hs, .inr (.inl ⟨h1, by omega, (by show T.left - 1 = _; omega), h4, (by show T.wr + 1 = _; omega)⟩)⟩, hfar⟩
  · refine (fprogram_no h 0 1 cA A (by omega) (.inl h4)).mono ?_
    rw [h4, if_neg (show ¬ (m = 0 ∨ i < m - 1) by omega)]
    rintro e w' ⟨rfl, hb⟩
    exact ⟨rfl, _, h.below hb, ⟨hn, hs, .inr (.inr ⟨h1, by omega, h3, h4, h5⟩)⟩, .of_below hb⟩
set_option maxHeartbeats 4000000 in
theorem counts_walk (sec size : Int) (A : Option Addr) (n c : Nat) (os : Nat → FOp) (B : Option Addr) (n3 c3 : Nat) (bs : List UInt8) (m8 : Int) (w : World) (h0 : (Lit.int .i64 sec).wf = true) (h1 : (Lit.int .i64 size).wf = true) (hR : IsFOps w A n c os) (hB : IsBs w B n3 c3 bs) (h4 : (Lit.int .u8 m8).wf = true) (hz : n * 48 ≤ 140737488351232) :
    Calls Try.prog 5 #[.int .i64 sec, .int .i64 size, .slice A n c, .slice B n3 c3, .int .u8 m8] w fun e w' => e = .returned (.bool true) ∧ Below w.heap.size w w' := by
  obtain ⟨a1, a2⟩ := bounds_u8 h4
  obtain ⟨m, rfl⟩ := Int.eq_ofNat_of_zero_le a1
  have a2 : m < 256 := by omega
  clear h0 h1 h4 a1
  have HR := Lib.hid hR
  have HB := Lib.hid hB.rb
  have OWN : Hid (OwnR (w.alloc (.cells #[] 24)) w.heap.size 24 4 (some ⟨w.heap.size, 0, none⟩) 0 0 []) := OwnR.lit w 24 4 #[] 0 (by decide) rfl
  clear hR hB
  go_enter Try.func5, Try.ntmps5
  go_wp2_with (at_builtin; refine wpList_appO _ _ rfl rfl rfl w.heap.size (some ⟨w.heap.size, 0, none⟩) 0 0 [] rfl OWN.out A n c os rfl w HR.out (kp_alloc (Below.refl _ _) _) (by omega) (by simp) ?_)
  intro A1 c1 w1 ho1 hg1
  have hb1 : Below w.heap.size w w1 := (kp_alloc (Below.refl _ _) _).grown hg1 (by simp) (fun g hg => by have h2 : some w.heap.size = some g := hg; injection h2 with h2; omega)
  have HO1 : Hid (OwnR w1 w.heap.size 24 4 A1 n c1 (opCells os n)) := Lib.hid (by simpa using ho1)
  have HB1 := Lib.hid hb1
  clear ho1 hg1 hb1 OWN
  go_wp2_with (at_builtin; refine wpList_appL op_row _ _ rfl rfl rfl w.heap.size A1 n c1 _ rfl (HO1.out.alloc _) w1.heap.size 1 1 #[.int .i64 0, .int .i64 0, .int .i64 0, .slice B n3 c3] _ rfl (has_new _ _) rfl (fun u hu => opCells_one (fun _ => ⟨0, 0, 0, B, n3, c3, bs⟩) 1 u hu) (by unfold maxLen; omega) (by omega) (by have := HB1.out.size; simp; omega) ?_)
  intro V c2 w2 ho2 hg2
  have hb2 : Below w.heap.size w w2 := (kp_alloc HB1.out _).grown hg2 (by have := HB1.out.size; simp; omega) (fun g hg => (HO1.out.blk_lt hg).1)
  have OC := opsc_more ⟨0, 0, 0, B, n3, c3, bs⟩ ho2
  have VP := Lib.hid (vast_any sec size V (n + 1) c2 _ w2 OC)
  have HB2 := Lib.hid hb2
  clear ho2 hg2 hb2 HO1 HB1 OC
  go_wp2_with fail
  refine VP.out.mono ?_
  rintro e w0 ⟨v, rfl, hv, rfl⟩
  clear VP
  rcases v with _ | _
  rotate_left
  · clear hv
    go_wp2_with fail
    refine (fworks_any _).mono ?_
    rintro e w7 ⟨rfl, hb7⟩
    have HB7 := Lib.hid (kp_call HB2.out hb7)
    clear hb7
    go_wp2
    go_ret
    exact ⟨rfl, HB7.out⟩
  have HV : Hid (n ≤ 150 ∧ sec ≤ 64 ∧ size ≤ 2048 ∧ (∀ r, r < n → (os r).nb ≤ 32768) ∧ n3 ≤ 32768) := by
    obtain ⟨q1, q2, q3, q4⟩ := hv rfl
    refine ⟨by omega, q2, q3, fun r hr => ?_, ?_⟩
    · have := q4 r (by omega)
      unfold oneMore at this
      rw [if_pos hr] at this
      exact this
    · have := q4 n (by omega)
      unfold oneMore at this
      rw [if_neg (Nat.lt_irrefl _)] at this
      exact this
  clear hv hz
  by_cases hbad : sec < 1 ∨ 64 < sec ∨ size < 16 ∨ 65536 < size
  · have BN := Lib.hid (behind_no sec size hbad (.slice A n c) w0)
    clear hbad
    go_wp2_with fail
    refine BN.out.mono ?_
    rintro e w7 ⟨rfl, rfl⟩
    clear BN
    go_wp2_with fail
    refine (fworks_any _).mono ?_
    rintro e w8 ⟨rfl, hb8⟩
    have HB8 := Lib.hid (kp_call HB2.out hb8)
    clear hb8
    go_wp2
    go_ret
    exact ⟨rfl, HB8.out⟩
  obtain ⟨N, rfl⟩ := Int.eq_ofNat_of_zero_le (show 0 ≤ sec by omega)
  obtain ⟨s, rfl⟩ := Int.eq_ofNat_of_zero_le (show 0 ≤ size by omega)
  have BA := Lib.hid (behind_any N s (by omega) (by omega) (by omega) (by omega) A n c os w0 (HR.out.below HB2.out) HV.out.1 HV.out.2.2.2.1)
  have hn3 := HV.out.2.2.2.2
  have hNs : N ≤ 64 ∧ s ≤ 2048 := by have := HV.out.2.2.1; exact ⟨by omega, by omega⟩
  clear hbad HR HV
  go_wp2_with fail
  refine BA.out.mono ?_
  rintro e w1 ⟨g, a, cc, T, rfl, t1, t2, t3, t4, t5, t6, t7, hb1⟩
  have HF1 := Lib.hid t1
  have HT := Lib.hid (And.intro t2 (And.intro t3 (And.intro t4 (And.intro t5 t7))))
  have HB1 := Lib.hid (kp_call HB2.out hb1)
  have HBB := Lib.hid (HB.out.below HB1.out)
  have hge : Hid (w.heap.size ≤ w0.heap.size ∧ w0.heap.size ≤ w1.heap.size) := ⟨HB2.out.size, hb1.size⟩
  obtain ⟨M, hM⟩ : ∃ M, N * s = M := ⟨_, rfl⟩
  have hMb : M ≤ 131072 := by rw [← hM]; exact Nat.mul_le_mul hNs.1 hNs.2
  have eM : IntKind.i64.wrap ((N : Int) * (s : Int)) = (M : Int) := by rw [← Int.natCast_mul, hM]; exact IntWalk.i64_in _ (by omega)
  have HM := Lib.hid hM
  clear t1 t2 t3 t4 t5 t6 t7 hb1 hM BA HB hNs
  by_cases hlong : M < n3
  · have p1 : decide ((n3 : Int) > (M : Int)) = true := decide_eq_true (by omega)
    go_wp2_with fail
    refine (fworks_any _).mono ?_
    rintro e w8 ⟨rfl, hb8⟩
    have HB8 := Lib.hid (kp_call HB1.out hb8)
    clear hb8
    go_wp2
    go_ret
    exact ⟨rfl, HB8.out⟩
  have p1 : decide ((n3 : Int) > (M : Int)) = false := decide_eq_false (by omega)
  obtain ⟨v0, hv0⟩ : ∃ v0, T.wr = v0 := ⟨_, rfl⟩
  have hv5 : v0 ≤ 5000000 := by rw [← hv0]; exact HT.out.2.2.2.2
  have WR := Lib.hid (fwrites_any HF1.out)
  rw [hv0] at WR
  have HV0 := Lib.hid hv0
  clear hv0
  go_wp2_with fail
  refine WR.out.mono ?_
  rintro e w2 ⟨rfl, rfl⟩
  clear WR
  have RD := Lib.hid (fread_any HF1.out HT.out.2.2.1 0 1 (by have := HF1.out.pos; omega))
  go_wp2_with fail
  refine RD.out.mono ?_
  rintro e w3 ⟨A4, c4, rfl, ho4, hb4⟩
  have HF3 := Lib.hid (HF1.out.below hb4)
  have HB3 := Lib.hid (kp_call HB1.out hb4)
  have HBB3 := Lib.hid (HBB.out.below hb4)
  clear RD hb4 ho4 HF1 HB1 HBB
  go_wp2_with fail
  refine (twin_any B n3 c3 bs _ HBB3.out (by omega)).mono ?_
  rintro e w4 ⟨A5, n5, c5, rfl, ho5, hb5⟩
  obtain rfl : n5 = n3 := ho5.len.symm.trans HBB3.out.1
  have HF4 := Lib.hid (HF3.out.below hb5)
  have HB4 := Lib.hid (kp_call HB3.out hb5)
  have PG := Lib.hid (fprogram_any HF4.out HT.out.2.2.1 0 n5 c5 A5 bs ho5.rb (fun _ d hd => by
      have h9 := (ho5.blk_lt (k := d.block) (by rw [hd]; rfl)).1
      have := HF3.out.alt
      have := HF3.out.ab.2
      exact ⟨by omega, by omega⟩) (.inr (by rw [HT.out.1, HT.out.2.1, HM.out]; omega)) (by omega) (by rw [HV0.out]; omega))
  obtain ⟨y1, y2, y3, y4⟩ := progQ_calm bs 0 T HT.out.2.2.2.1
  obtain ⟨y5, y6, _⟩ := progQ_kept bs 0 T
  obtain ⟨T2, hT2⟩ : ∃ T2, (progQ bs 0 T).1 = T2 := ⟨_, rfl⟩
  rw [y1, hT2] at PG
  rw [hT2] at y2 y3 y4 y5 y6
  have HT2 : Hid (T2.n = N ∧ T2.s = s ∧ T2.off = false ∧ T2.left = 0 ∧ T2.wr = v0 + n5) := ⟨y5.trans HT.out.1, y6.trans HT.out.2.1, y3.trans HT.out.2.2.1, y2, by rw [y4, HV0.out, HBB3.out.1]⟩
  clear y1 y2 y3 y4 y5 y6 hT2 ho5 hb5 HF3 HB3 HBB3 HT HV0
  go_wp2_with fail
  refine PG.out.mono ?_
  rintro e w5 ⟨rfl, z1, z2⟩
  have HF5 := Lib.hid z1
  have HB5 : Hid (Below w.heap.size w w5) := HB4.out.trans (z2.below (by have := HF4.out.gb; have := hge.out; omega) (by have := HF4.out.ab.1; have := hge.out; omega) HB4.out.size)
  clear z1 z2 PG HF4 HB4
  have ER := Lib.hid (ferase_any HF5.out HT2.out.2.2.1 0 (by have := HF5.out.n1; omega) (by rw [HT2.out.2.2.2.2]; omega))
  obtain ⟨T3, hT3⟩ : ∃ T3, T2.er (0 * T2.s) = T3 := ⟨_, rfl⟩
  obtain ⟨W, hW⟩ : ∃ W, v0 + n5 + 1 = W := ⟨_, rfl⟩
  have HT3 : Hid (T3.n = N ∧ T3.s = s ∧ T3.off = false ∧ T3.wr = W) := by
    rw [← hT3]
    unfold FS.er
    rw [if_neg (by rw [HT2.out.2.2.2.1]; decide)]
    exact ⟨HT2.out.1, HT2.out.2.1, HT2.out.2.2.1, (by show T2.wr + 1 = W; rw [HT2.out.2.2.2.2, hW])⟩
  rw [if_neg (by rw [HT2.out.2.2.2.1]; decide), hT3] at ER
  clear hT3
  go_wp2_with fail
  refine ER.out.mono ?_
  rintro e w6 ⟨rfl, z1, z2⟩
  have HF6 := Lib.hid z1
  have HB6 : Hid (Below w.heap.size w w6) := HB5.out.trans (z2.below (by have := HF5.out.gb; have := hge.out; omega) (by have := HF5.out.ab.1; have := hge.out; omega) HB5.out.size)
  clear z1 z2 ER HF5 HB5 HT2
  have WR := Lib.hid (fwrites_any HF6.out)
  rw [HT3.out.2.2.2] at WR
  obtain ⟨v1, hv1⟩ : ∃ v1, v0 + n5 = v1 := ⟨_, rfl⟩
  have e1 : IntKind.i64.wrap ((v0 : Int) + (n5 : Int)) = (v1 : Int) := by rw [IntWalk.i64_in _ (by omega)]; omega
  have e2 : IntKind.i64.wrap ((v1 : Int) + 1) = (W : Int) := by rw [IntWalk.i64_in _ (by omega)]; omega
  have q1 : ((W : Int) != (W : Int)) = false := by simp
  have AR := Lib.hid (farm_any HF6.out HT3.out.2.2.1 m 0 (by omega))
  have ep : IntKind.i64.wrap (m : Int) = (m : Int) := IntWalk.i64_in _ (by omega)
  have hWb : W ≤ 10000000 := by omega
  clear hW hv1
  go_wp2_with fail
  refine WR.out.mono ?_
  rintro e w7 ⟨rfl, rfl⟩
  clear WR
  go_wp2_with fail
  refine AR.out.mono ?_
  rintro e w8 ⟨rfl, z1, z2⟩
  have HB8 : Hid (Below w.heap.size w w8) := HB6.out.trans (z2.below (by have := HF6.out.gb; have := hge.out; omega) (by have := HF6.out.ab.1; have := hge.out; omega) HB6.out.size)
  have START : Hid (∃ T, FL w8 w0.heap.size g a cc T ∧ CS m W 0 N s T ∧ Below w.heap.size w w8) := ⟨_, z1, ⟨HT3.out.1, HT3.out.2.1, by
    rcases Nat.eq_zero_or_pos m with hm | hm
    · exact .inl ⟨hm, hm, HT3.out.2.2.1, HT3.out.2.2.2⟩
    · exact .inr (.inl ⟨hm, hm, rfl, HT3.out.2.2.1, HT3.out.2.2.2⟩)⟩, HB8.out⟩
  clear z1 z2 AR HF6 HB6 HB8 HT3
  go_wp2
  go_loopw [17] (fun vi wl => ∃ (i : Nat), vi = .int .i64 (i : Int) ∧ i ≤ 300 ∧ Hid (∃ T, FL wl w0.heap.size g a cc T ∧ CS m W i N s T ∧ Below w.heap.size w wl)) (fun vi _ => 300 - (intOf vi).toNat)
  case atStart => exact ⟨0, rfl, Nat.zero_le _, START.out⟩
  case round =>
    obtain ⟨i, rfl, hi, HK⟩ := hrel
    clear START
    by_cases hlt : i < 300
    · have i1 : (i : Int) < 300 := by omega
      have em : 0 < m → IntKind.i64.wrap ((m : Int) - 1) = ((m - 1 : Nat) : Int) := fun hm => by rw [IntWalk.i64_in _ (by omega)]; omega
      obtain ⟨m1, hm1⟩ : ∃ m1, m - 1 = m1 := ⟨_, rfl⟩
      rw [hm1] at em
      have PR : Hid (∀ W', Below wr.heap.size wr W' → W'.heap[wr.heap.size]? = some (.cells #[.int .u8 1] 5) → Calls Try.prog 19 #[.pointer (some ⟨g, 0, none⟩), .int .i64 0, .slice (some ⟨wr.heap.size, 0, none⟩) 1 1] W'
          fun e w' => e = .returned (.int .i64 (if m = 0 ∨ i < m1 then 0 else 6)) ∧ Hid (∃ T, FL w' w0.heap.size g a cc T ∧ CS m W (i + 1) N s T ∧ Below w.heap.size w w')) := fun W' hb' hk' => by
        obtain ⟨T, u1, u2, u3⟩ := HK.out
        have hl1 := u1.alt
        have hl2 := u1.ab.2
        have hsz := u3.size
        have hb3 := hb'.size
        rw [← hm1]
        refine (counts_round (u1.below hb') u2 hlt hWb _ 1 (rb_block hk' rfl rfl) (fun _ d hd => by cases hd; exact ⟨(by show wr.heap.size ≠ g; omega), (by show wr.heap.size ≠ a; omega)⟩)).mono ?_
        rintro e w' ⟨rfl, T', x1, x2, x3⟩
        refine ⟨rfl, T', x1, x2, ?_⟩
        have hu4 := u1.gb
        have hu5 := u1.ab.1
        have hge' := hge.out
        exact (kp_call u3 hb').trans (x3.below (by omega) (by omega) (by omega))
      clear HK
      go_wp2_with fail
      refine calls_nm fun W' hW' => ?_
      refine (PR.out W' (by rw [← hW']; exact kp_alloc (Below.refl _ _) _) (by rw [← hW']; exact has_new _ _)).mono ?_
      clear hW' PR
      rcases Nat.eq_zero_or_pos m with hm | hm
      · rw [if_pos (.inl hm)]
        have r1 : ((m : Int) == 0) = true := by rw [beq_iff_eq]; omega
        have r2 : (m == 0) = true := by rw [beq_iff_eq]; exact hm
        have r3 : decide (m = 0) = true := decide_eq_true hm
        rintro e w9 ⟨rfl, HK9⟩
        clear em hm hm1
        go_wp2
        go_roundw
        case rel => exact ⟨i + 1, by go_num, by omega, HK9.out⟩
        case measure => simp [intOf]; omega
      · have em := em hm
        have r1 : ((m : Int) == 0) = false := by rw [beq_eq_false_iff_ne]; omega
        have r2 : ¬ m = 0 := by omega
        by_cases him : i < m1
        · rw [if_pos (.inr him)]
          have r3 : decide ((i : Int) < (m1 : Int)) = true := decide_eq_true (by omega)
          rintro e w9 ⟨rfl, HK9⟩
          go_wp2
          go_roundw
          case rel => exact ⟨i + 1, by go_num, by omega, HK9.out⟩
          case measure => simp [intOf]; omega
        · rw [if_neg (by omega)]
          have r3 : decide ((i : Int) < (m1 : Int)) = false := decide_eq_false (by omega)
          rintro e w9 ⟨rfl, HK9⟩
          go_wp2
          go_roundw
          case rel => exact ⟨i + 1, by go_num, by omega, HK9.out⟩
          case measure => simp [intOf]; omega
    · obtain rfl : i = 300 := by omega
      obtain ⟨T, u1, u2, u3⟩ := HK.out
      have WR := Lib.hid (fwrites_any u1)
      have HU3 := Lib.hid u3
      obtain ⟨_, _, u4⟩ := u2
      clear u1 u3 HK
      rcases Nat.eq_zero_or_pos m with hm | hm
      · have hwr : T.wr = W + 300 := by omega
        obtain ⟨Wd, hWd⟩ : ∃ Wd, W + 300 = Wd := ⟨_, rfl⟩
        have e5 : IntKind.i64.wrap ((W : Int) + 300) = (Wd : Int) := by rw [IntWalk.i64_in _ (by omega)]; omega
        rw [hwr, hWd] at WR
        subst hm
        clear u4 hwr
        go_wp2_with fail
        refine WR.out.mono ?_
        rintro e w9 ⟨rfl, rfl⟩
        go_wp2_with fail
        refine (fworks_any _).mono ?_
        rintro e w10 ⟨rfl, hb10⟩
        have HB10 := Lib.hid (kp_call HU3.out hb10)
        clear hb10 WR HU3
        go_wp2
        go_ret
        exact ⟨rfl, HB10.out⟩
      · obtain ⟨m1, hm1⟩ : ∃ m1, m - 1 = m1 := ⟨_, rfl⟩
        have em : IntKind.i64.wrap ((m : Int) - 1) = (m1 : Int) := by rw [IntWalk.i64_in _ (by omega)]; omega
        have hwr : T.wr = W + m1 := by omega
        obtain ⟨Wd, hWd⟩ : ∃ Wd, W + m1 = Wd := ⟨_, rfl⟩
        have e5 : IntKind.i64.wrap ((W : Int) + (m1 : Int)) = (Wd : Int) := by rw [IntWalk.i64_in _ (by omega)]; omega
        rw [hwr, hWd] at WR
        have r1 : (m : Int) > 0 := by omega
        clear u4 hwr
        go_wp2_with fail
        refine WR.out.mono ?_
        rintro e w9 ⟨rfl, rfl⟩
        go_wp2_with fail
        refine (fworks_any _).mono ?_
        rintro e w10 ⟨rfl, hb10⟩
        have HB10 := Lib.hid (kp_call HU3.out hb10)
        clear hb10 WR HU3
        go_wp2
        go_ret
        exact ⟨rfl, HB10.out⟩
end Go.Proofs.Ytnodocpoangnkaa
