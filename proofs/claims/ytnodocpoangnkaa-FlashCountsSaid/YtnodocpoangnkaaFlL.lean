/-
  flash: the statement FlashErases.
-/
import Derived.Test.YtnodocpoangnkaaFlK
namespace Go.Proofs.Ytnodocpoangnkaa
open Go.RowKit Go
set_option linter.unusedVariables false
set_option linter.unusedSimpArgs false
set_option maxRecDepth 100000
theorem opsc_of {w : World} {A : Option Addr} {n c : Nat} {os : Nat → FOp} (h : IsFOps w A n c os) : OpsC w A n os := fun r hr => by
  obtain ⟨b, off, e, _, _, hc⟩ := h.rows r hr
  exact ⟨b, off, e, hc 3 _ rfl⟩
set_option maxHeartbeats 4000000 in
theorem erases_walk (sec size : Int) (A : Option Addr) (n c : Nat) (os : Nat → FOp) (k part : Int) (dark : Bool) (w : World) (h0 : (Lit.int .i64 sec).wf = true) (h1 : (Lit.int .i64 size).wf = true) (hR : IsFOps w A n c os) (h3 : (Lit.int .i64 k).wf = true) (h4 : (Lit.int .u16 part).wf = true) :
    Calls Try.prog 4 #[.int .i64 sec, .int .i64 size, .slice A n c, .int .i64 k, .int .u16 part, .bool dark] w fun e w' => e = .returned (.bool true) ∧ Below w.heap.size w w' := by
  obtain ⟨a1, a2⟩ := bounds_u16 h4
  obtain ⟨p, rfl⟩ := Int.eq_ofNat_of_zero_le a1
  have a2 : p < 65536 := by omega
  clear h0 h1 h3 h4 a1
  have HR := Lib.hid hR
  have VP := Lib.hid (vast_any sec size A n c os w (opsc_of hR))
  clear hR
  go_enter Try.func4, Try.ntmps4
  go_wp2_with fail
  refine VP.out.mono ?_
  rintro e w0 ⟨v, rfl, hv, rfl⟩
  clear VP
  rcases v with _ | _
  rotate_left
  · clear hv
    go_wp2_with fail
    refine (fworks_any _).mono ?_
    rintro e w7 ⟨rfl, hb7⟩
    have HB7 := Lib.hid hb7
    clear hb7
    go_wp2
    go_ret
    exact ⟨rfl, HB7.out⟩
  have HV := Lib.hid (hv rfl)
  clear hv
  by_cases hbad : sec < 1 ∨ 64 < sec ∨ size < 16 ∨ 65536 < size
  · have BN := Lib.hid (behind_no sec size hbad (.slice A n c) w0)
    clear hbad
    go_wp2_with fail
    refine BN.out.mono ?_
    rintro e w7 ⟨rfl, rfl⟩
    clear BN
    go_wp2_with fail
    refine (fworks_any _).mono ?_
    rintro e w8 ⟨rfl, hb8⟩
    have HB8 := Lib.hid hb8
    clear hb8
    go_wp2
    go_ret
    exact ⟨rfl, HB8.out⟩
  obtain ⟨N, rfl⟩ := Int.eq_ofNat_of_zero_le (show 0 ≤ sec by omega)
  obtain ⟨s, rfl⟩ := Int.eq_ofNat_of_zero_le (show 0 ≤ size by omega)
  have BA := Lib.hid (behind_any N s (by omega) (by omega) (by omega) (by omega) A n c os w0 HR.out HV.out.1 HV.out.2.2.2)
  have b1 : 1 ≤ N ∧ N ≤ 64 ∧ 16 ≤ s ∧ s ≤ 2048 := by have := HV.out.2.2.1; exact ⟨by omega, by omega, by omega, by omega⟩
  have HBD := Lib.hid b1
  clear hbad HR HV b1
  go_wp2_with fail
  refine BA.out.mono ?_
  rintro e w1 ⟨g, a, cc, T, rfl, t1, t2, t3, t4, t5, t6, t7, hb1⟩
  have HF1 := Lib.hid t1
  have HT := Lib.hid (And.intro t2 (And.intro t3 (And.intro t4 (And.intro t5 (And.intro t6 t7)))))
  have HB1 := Lib.hid hb1
  obtain ⟨M, hM⟩ : ∃ M, N * s = M := ⟨_, rfl⟩
  have HM : Hid (N * s = M ∧ T.bs.length = M ∧ M ≤ 4194304) := ⟨hM, by rw [t1.len, t2, t3]; exact hM, by have := t1.big; rw [t2, t3] at this; omega⟩
  clear t1 t2 t3 t4 t5 t6 t7 hb1 hM BA
  have hN1 := HBD.out.2.1
  have hs1 := HBD.out.2.2.2
  by_cases hk : k < 0 ∨ (N : Int) ≤ k
  · rcases dark with _ | _
    · have HF2 := HF1
      have HB2 := HB1
      clear HF1 HB1
      have IM := Lib.hid (fimage_any HF2.out)
      go_wp2_with fail
      refine IM.out.mono ?_
      rintro e w3 ⟨A1, n1, c1, rfl, ho1, hb3⟩
      obtain rfl : n1 = M := ho1.len.symm.trans HM.out.2.1
      have A1H : Hid (T.bs ≠ [] → ∀ d, A1 = some d → d.block ≠ g ∧ d.block ≠ a) := fun _ d hd => by
        have h9 := (ho1.blk_lt (k := d.block) (by rw [hd]; rfl)).1
        have := HF2.out.alt
        have := HF2.out.ab.2
        exact ⟨by omega, by omega⟩
      have O1 : Hid (RB w3 A1 n1 T.bs) := ho1.rb
      have HF3 := Lib.hid (HF2.out.below hb3)
      have HB3 := Lib.hid (HB2.out.trans (hb3.mono HB2.out.size))
      clear IM ho1 hb3 HF2 HB2
      have ER := Lib.hid (ferase_no HF3.out k (.inr (by have := HT.out.1; rcases hk with h | h; exact .inl h; right; show ((T.n : Nat) : Int) ≤ k; omega)))
      rw [show (T : FS).off = false from HT.out.2.2.1] at ER
      go_wp2_with fail
      refine ER.out.mono ?_
      rintro e w4 ⟨rfl, hb4⟩
      have O14 := Lib.hid (O1.out.below hb4)
      have HF4 := Lib.hid (HF3.out.below hb4)
      have HB4 := Lib.hid (HB3.out.trans (hb4.mono HB3.out.size))
      clear ER hb4 HF3 HB3 O1 A1H
      have IM := Lib.hid (fimage_any HF4.out)
      go_wp2_with fail
      refine IM.out.mono ?_
      rintro e w5 ⟨A2, n2, c2, rfl, ho2, hb5⟩
      obtain rfl : n2 = n1 := ho2.len.symm.trans HM.out.2.1
      have SM := Lib.hid (same7_any A1 A2 n2 c1 n2 c2 T.bs T.bs w5 (O14.out.below hb5) ho2.rb (by have := HM.out.2.2; omega) (by have := HM.out.2.2; omega))
      rw [decide_eq_true rfl] at SM
      have HF5 := Lib.hid (HF4.out.below hb5)
      have HB5 := Lib.hid (HB4.out.trans (hb5.mono HB4.out.size))
      clear IM ho2 hb5 HF4 HB4 O14
      by_cases hk0 : k < 0
      · have q1 : decide (k < 0) = true := decide_eq_true hk0
        go_wp2_with fail
        refine SM.out.mono ?_
        rintro e w6 ⟨rfl, hb6⟩
        have DD := Lib.hid (fdead_any (HF5.out.below hb6))
        rw [show (T : FS).off = false from HT.out.2.2.1] at DD
        have HB6 := Lib.hid (HB5.out.trans (hb6.mono HB5.out.size))
        clear SM hb6 HF5 HB5
        go_wp2_with fail
        refine DD.out.mono ?_
        rintro e w7 ⟨rfl, rfl⟩
        go_wp2_with fail
        refine (fworks_any _).mono ?_
        rintro e w8 ⟨rfl, hb8⟩
        have HB8 := Lib.hid (HB6.out.trans (hb8.mono HB6.out.size))
        clear hb8 HB6 DD
        go_wp2
        go_ret
        exact ⟨rfl, HB8.out⟩
      · have q1 : decide (k < 0) = false := decide_eq_false hk0
        have q2 : decide (k ≥ (N : Int)) = true := decide_eq_true (by rcases hk with h | h; exact absurd h hk0; exact h)
        go_wp2_with fail
        refine SM.out.mono ?_
        rintro e w6 ⟨rfl, hb6⟩
        have DD := Lib.hid (fdead_any (HF5.out.below hb6))
        rw [show (T : FS).off = false from HT.out.2.2.1] at DD
        have HB6 := Lib.hid (HB5.out.trans (hb6.mono HB5.out.size))
        clear SM hb6 HF5 HB5
        go_wp2_with fail
        refine DD.out.mono ?_
        rintro e w7 ⟨rfl, rfl⟩
        go_wp2_with fail
        refine (fworks_any _).mono ?_
        rintro e w8 ⟨rfl, hb8⟩
        have HB8 := Lib.hid (HB6.out.trans (hb8.mono HB6.out.size))
        clear hb8 HB6 DD
        go_wp2
        go_ret
        exact ⟨rfl, HB8.out⟩
    · have AR := Lib.hid (farm_any HF1.out HT.out.2.2.1 1 p (by omega))
      have ep : IntKind.i64.wrap (p : Int) = (p : Int) := IntWalk.i64_in _ (by omega)
      go_wp2_with fail
      refine AR.out.mono ?_
      rintro e w2 ⟨rfl, z1, z2⟩
      have HF2 : Hid (FL w2 w0.heap.size g a cc { T with left := 1, part := p }) := z1
      have HB2 : Hid (Below w0.heap.size w0 w2) := HB1.out.trans (z2.below HF1.out.gb HF1.out.ab.1 HB1.out.size)
      clear z1 z2 AR HF1 HB1
      have IM := Lib.hid (fimage_any HF2.out)
      go_wp2_with fail
      refine IM.out.mono ?_
      rintro e w3 ⟨A1, n1, c1, rfl, ho1, hb3⟩
      obtain rfl : n1 = M := ho1.len.symm.trans HM.out.2.1
      have A1H : Hid (T.bs ≠ [] → ∀ d, A1 = some d → d.block ≠ g ∧ d.block ≠ a) := fun _ d hd => by
        have h9 := (ho1.blk_lt (k := d.block) (by rw [hd]; rfl)).1
        have := HF2.out.alt
        have := HF2.out.ab.2
        exact ⟨by omega, by omega⟩
      have O1 : Hid (RB w3 A1 n1 T.bs) := ho1.rb
      have HF3 := Lib.hid (HF2.out.below hb3)
      have HB3 := Lib.hid (HB2.out.trans (hb3.mono HB2.out.size))
      clear IM ho1 hb3 HF2 HB2
      have ER := Lib.hid (ferase_no HF3.out k (.inr (by have := HT.out.1; rcases hk with h | h; exact .inl h; right; show ((T.n : Nat) : Int) ≤ k; omega)))
      rw [show ({ T with left := 1, part := p } : FS).off = false from HT.out.2.2.1] at ER
      go_wp2_with fail
      refine ER.out.mono ?_
      rintro e w4 ⟨rfl, hb4⟩
      have O14 := Lib.hid (O1.out.below hb4)
      have HF4 := Lib.hid (HF3.out.below hb4)
      have HB4 := Lib.hid (HB3.out.trans (hb4.mono HB3.out.size))
      clear ER hb4 HF3 HB3 O1 A1H
      have IM := Lib.hid (fimage_any HF4.out)
      go_wp2_with fail
      refine IM.out.mono ?_
      rintro e w5 ⟨A2, n2, c2, rfl, ho2, hb5⟩
      obtain rfl : n2 = n1 := ho2.len.symm.trans HM.out.2.1
      have SM := Lib.hid (same7_any A1 A2 n2 c1 n2 c2 T.bs T.bs w5 (O14.out.below hb5) ho2.rb (by have := HM.out.2.2; omega) (by have := HM.out.2.2; omega))
      rw [decide_eq_true rfl] at SM
      have HF5 := Lib.hid (HF4.out.below hb5)
      have HB5 := Lib.hid (HB4.out.trans (hb5.mono HB4.out.size))
      clear IM ho2 hb5 HF4 HB4 O14
      by_cases hk0 : k < 0
      · have q1 : decide (k < 0) = true := decide_eq_true hk0
        go_wp2_with fail
        refine SM.out.mono ?_
        rintro e w6 ⟨rfl, hb6⟩
        have DD := Lib.hid (fdead_any (HF5.out.below hb6))
        rw [show ({ T with left := 1, part := p } : FS).off = false from HT.out.2.2.1] at DD
        have HB6 := Lib.hid (HB5.out.trans (hb6.mono HB5.out.size))
        clear SM hb6 HF5 HB5
        go_wp2_with fail
        refine DD.out.mono ?_
        rintro e w7 ⟨rfl, rfl⟩
        go_wp2_with fail
        refine (fworks_any _).mono ?_
        rintro e w8 ⟨rfl, hb8⟩
        have HB8 := Lib.hid (HB6.out.trans (hb8.mono HB6.out.size))
        clear hb8 HB6 DD
        go_wp2
        go_ret
        exact ⟨rfl, HB8.out⟩
      · have q1 : decide (k < 0) = false := decide_eq_false hk0
        have q2 : decide (k ≥ (N : Int)) = true := decide_eq_true (by rcases hk with h | h; exact absurd h hk0; exact h)
        go_wp2_with fail
        refine SM.out.mono ?_
        rintro e w6 ⟨rfl, hb6⟩
        have DD := Lib.hid (fdead_any (HF5.out.below hb6))
        rw [show ({ T with left := 1, part := p } : FS).off = false from HT.out.2.2.1] at DD
        have HB6 := Lib.hid (HB5.out.trans (hb6.mono HB5.out.size))
        clear SM hb6 HF5 HB5
        go_wp2_with fail
        refine DD.out.mono ?_
        rintro e w7 ⟨rfl, rfl⟩
        go_wp2_with fail
        refine (fworks_any _).mono ?_
        rintro e w8 ⟨rfl, hb8⟩
        have HB8 := Lib.hid (HB6.out.trans (hb8.mono HB6.out.size))
        clear hb8 HB6 DD
        go_wp2
        go_ret
        exact ⟨rfl, HB8.out⟩
  obtain ⟨k, rfl⟩ := Int.eq_ofNat_of_zero_le (show 0 ≤ k by omega)
  have hk : k < N := by omega
  rcases dark with _ | _
  · have HF2 := HF1
    have HB2 := HB1
    clear HF1 HB1
    have IM := Lib.hid (fimage_any HF2.out)
    go_wp2_with fail
    refine IM.out.mono ?_
    rintro e w3 ⟨A1, n1, c1, rfl, ho1, hb3⟩
    obtain rfl : n1 = M := ho1.len.symm.trans HM.out.2.1
    have A1H : Hid (T.bs ≠ [] → ∀ d, A1 = some d → d.block ≠ g ∧ d.block ≠ a) := fun _ d hd => by
      have h9 := (ho1.blk_lt (k := d.block) (by rw [hd]; rfl)).1
      have := HF2.out.alt
      have := HF2.out.ab.2
      exact ⟨by omega, by omega⟩
    have O1 : Hid (RB w3 A1 n1 T.bs) := ho1.rb
    have HF3 := Lib.hid (HF2.out.below hb3)
    have HB3 := Lib.hid (HB2.out.trans (hb3.mono HB2.out.size))
    clear IM ho1 hb3 HF2 HB2
    obtain ⟨o, hO⟩ : ∃ o, k * s = o := ⟨_, rfl⟩
    obtain ⟨T3, hT3⟩ : ∃ T3, (T : FS).er (k * T.s) = T3 := ⟨_, rfl⟩
    have F3 : Hid (T3.off = false ∧ T3.bs = splice T.bs o (List.replicate s 255) ∧ T3.n = N ∧ T3.s = s ∧ o + s ≤ n1) := by
      have y1 := HT.out.1
      have y2 := HT.out.2.1
      have y3 := HT.out.2.2.1
      have y4 := HT.out.2.2.2.1
      have hos : o + s ≤ n1 := by
        have := Nat.mul_le_mul_right s (show k + 1 ≤ N by omega)
        rw [Nat.succ_mul, hO, HM.out.1] at this
        exact this
      rw [← hT3, show k * T.s = o by rw [y2]; exact hO]
      unfold FS.er
      rw [if_neg (by omega)]
      exact ⟨y3, by show splice T.bs o (List.replicate T.s 255) = _; rw [y2], y1, y2, hos⟩
    have ER := Lib.hid (ferase_any HF3.out HT.out.2.2.1 k (by rw [HT.out.1]; exact hk) (by have := HT.out.2.2.2.2.2; omega))
    rw [if_neg (by rw [HT.out.2.2.2.1]; decide), hT3] at ER
    have HO := Lib.hid hO
    clear hT3 hO
    go_wp2_with fail
    refine ER.out.mono ?_
    rintro e w4 ⟨rfl, z1, z2⟩
    have O14 := Lib.hid (rb_far O1.out z2 A1H.out)
    have HF4 := Lib.hid z1
    have HB4 := Lib.hid (HB3.out.trans (z2.below HF3.out.gb HF3.out.ab.1 HB3.out.size))
    clear ER z1 z2 HF3 HB3 O1 A1H
    have IM := Lib.hid (fimage_any HF4.out)
    go_wp2_with fail
    refine IM.out.mono ?_
    rintro e w5 ⟨A2, n2, c2, rfl, ho2, hb5⟩
    obtain rfl : n2 = n1 := ho2.len.symm.trans (by rw [HF4.out.len, F3.out.2.2.1, F3.out.2.2.2.1]; exact HM.out.1)
    have O15 := Lib.hid (O14.out.below hb5)
    have O25 : Hid (RB w5 A2 n2 (splice T.bs o (List.replicate s 255))) := by rw [← F3.out.2.1]; exact Lib.hid ho2.rb
    have DD := Lib.hid (fdead_any (HF4.out.below hb5))
    rw [F3.out.1] at DD
    have HB5 := Lib.hid (HB4.out.trans (hb5.mono HB4.out.size))
    have hos := F3.out.2.2.2.2
    have hM3 := HM.out.2.2
    have e1 : IntKind.i64.wrap ((k : Int) * (s : Int)) = (o : Int) := by
      rw [← Int.natCast_mul, HO.out]; exact IntWalk.i64_in _ (by omega)
    obtain ⟨oX, hoX⟩ : ∃ oX, o + s = oX := ⟨_, rfl⟩
    have e2 : IntKind.i64.wrap ((o : Int) + (s : Int)) = (oX : Int) := by rw [IntWalk.i64_in _ (by omega)]; omega
    have q1 : decide ((k : Int) < 0) = false := decide_eq_false (by omega)
    have q2 : decide ((k : Int) ≥ (N : Int)) = false := decide_eq_false (by omega)
    have q3 : ¬ ((N : Int) ≤ (k : Int)) := by omega
    have q4 : ¬ (N ≤ k) := by omega
    have HLEN := Lib.hid HM.out.2.1
    clear IM ho2 hb5 HF4 HB4 O14
    go_wp2_with fail
    refine DD.out.mono ?_
    rintro e w6 ⟨rfl, rfl⟩
    clear DD
    go_wp2
    go_loop [18] (fun vi => ∃ i : Nat, vi = .int .i64 (i : Int) ∧ i ≤ n2) (fun vi => n2 - (intOf vi).toNat)
    case atStart => exact ⟨0, rfl, Nat.zero_le _⟩
    case round =>
      obtain ⟨i, rfl, hi⟩ := hrel
      by_cases hlt : i < n2
      · obtain ⟨ba, oa, x, rfl, _, hx, cA⟩ := O15.out.at_ hlt
        obtain ⟨bb, ob, y, rfl, _, hy, cB⟩ := O25.out.at_ hlt
        have hsp := splice_get T.bs o (List.replicate s (255 : UInt8)) (by rw [HLEN.out, List.length_replicate]; omega) i
        rw [hy, List.length_replicate] at hsp
        have i1 : (i : Int) < (n2 : Int) := by omega
        have e3 : IntKind.i64.wrap ((i : Int) + 1) = (i : Int) + 1 := IntWalk.i64_in _ (by omega)
        by_cases hin : o ≤ i ∧ i < o + s
        · rw [if_pos hin, List.getElem?_replicate, if_pos (by omega)] at hsp
          injection hsp with hsp
          subst hsp
          have cB' : w6.cell? ⟨bb, ob + i, none⟩ = some (.int .u8 255) := cB
          have r1 : decide ((i : Int) ≥ (o : Int)) = true := decide_eq_true (by omega)
          have r2 : decide ((i : Int) < (oX : Int)) = true := decide_eq_true (by omega)
          have r3 : o ≤ i := hin.1
          have r4 : i < oX := by omega
          clear cB hx hy hin
          go_wp2
          go_round
          case rel => exact ⟨i + 1, by go_num, by omega⟩
          case measure => simp [intOf]; omega
        · rw [if_neg hin, hx] at hsp
          injection hsp with hsp
          subst hsp
          have t1 : ((y.toNat : Int) != (y.toNat : Int)) = false := by simp
          by_cases hi2 : o ≤ i
          · have r1 : decide ((i : Int) ≥ (o : Int)) = true := decide_eq_true (by omega)
            have r2 : decide ((i : Int) < (oX : Int)) = false := decide_eq_false (by omega)
            have r4 : ¬ (i < oX) := by omega
            have r5 : oX ≤ i := by omega
            clear hx hy hin
            go_wp2
            go_round
            case rel => exact ⟨i + 1, by go_num, by omega⟩
            case measure => simp [intOf]; omega
          · have r1 : decide ((i : Int) ≥ (o : Int)) = false := decide_eq_false (by omega)
            have r4 : i < o := by omega
            clear hx hy hin
            go_wp2
            go_round
            case rel => exact ⟨i + 1, by go_num, by omega⟩
            case measure => simp [intOf]; omega
      · obtain rfl : i = n2 := by omega
        go_wp2_with fail
        refine (fworks_any _).mono ?_
        rintro e w8 ⟨rfl, hb8⟩
        have HB8 := Lib.hid (HB5.out.trans (hb8.mono HB5.out.size))
        clear hb8 HB5
        go_wp2
        go_ret
        exact ⟨rfl, HB8.out⟩
  by_cases hps : p < s
  · have AR := Lib.hid (farm_any HF1.out HT.out.2.2.1 1 p (by omega))
    have ep : IntKind.i64.wrap (p : Int) = (p : Int) := IntWalk.i64_in _ (by omega)
    go_wp2_with fail
    refine AR.out.mono ?_
    rintro e w2 ⟨rfl, z1, z2⟩
    have HF2 : Hid (FL w2 w0.heap.size g a cc { T with left := 1, part := p }) := z1
    have HB2 : Hid (Below w0.heap.size w0 w2) := HB1.out.trans (z2.below HF1.out.gb HF1.out.ab.1 HB1.out.size)
    clear z1 z2 AR HF1 HB1
    have IM := Lib.hid (fimage_any HF2.out)
    go_wp2_with fail
    refine IM.out.mono ?_
    rintro e w3 ⟨A1, n1, c1, rfl, ho1, hb3⟩
    obtain rfl : n1 = M := ho1.len.symm.trans HM.out.2.1
    have A1H : Hid (T.bs ≠ [] → ∀ d, A1 = some d → d.block ≠ g ∧ d.block ≠ a) := fun _ d hd => by
      have h9 := (ho1.blk_lt (k := d.block) (by rw [hd]; rfl)).1
      have := HF2.out.alt
      have := HF2.out.ab.2
      exact ⟨by omega, by omega⟩
    have O1 : Hid (RB w3 A1 n1 T.bs) := ho1.rb
    have HF3 := Lib.hid (HF2.out.below hb3)
    have HB3 := Lib.hid (HB2.out.trans (hb3.mono HB2.out.size))
    clear IM ho1 hb3 HF2 HB2
    obtain ⟨o, hO⟩ : ∃ o, k * s = o := ⟨_, rfl⟩
    obtain ⟨T3, hT3⟩ : ∃ T3, ({ T with left := 1, part := p } : FS).er (k * T.s) = T3 := ⟨_, rfl⟩
    have F3 : Hid (T3.off = true ∧ T3.bs = splice T.bs o (List.replicate p 255) ∧ T3.n = N ∧ T3.s = s ∧ o + s ≤ n1) := by
      have y1 := HT.out.1
      have y2 := HT.out.2.1
      have y3 := HT.out.2.2.1
      have y4 := HT.out.2.2.2.1
      have hos : o + s ≤ n1 := by
        have := Nat.mul_le_mul_right s (show k + 1 ≤ N by omega)
        rw [Nat.succ_mul, hO, HM.out.1] at this
        exact this
      rw [← hT3, show k * T.s = o by rw [y2]; exact hO]
      unfold FS.er
      rw [if_pos rfl]
      exact ⟨rfl, by show splice T.bs o (List.replicate (min p T.s) 255) = _; rw [show min p T.s = p by omega], y1, y2, hos⟩
    have ER := Lib.hid (ferase_any HF3.out HT.out.2.2.1 k (by rw [show ({ T with left := 1, part := p } : FS).n = N from HT.out.1]; exact hk) (by have := HT.out.2.2.2.2.2; show T.wr < _; omega))
    rw [if_pos rfl, show ({ T with left := 1, part := p } : FS).s = T.s from rfl, hT3] at ER
    have HO := Lib.hid hO
    clear hT3 hO
    go_wp2_with fail
    refine ER.out.mono ?_
    rintro e w4 ⟨rfl, z1, z2⟩
    have O14 := Lib.hid (rb_far O1.out z2 A1H.out)
    have HF4 := Lib.hid z1
    have HB4 := Lib.hid (HB3.out.trans (z2.below HF3.out.gb HF3.out.ab.1 HB3.out.size))
    clear ER z1 z2 HF3 HB3 O1 A1H
    have IM := Lib.hid (fimage_any HF4.out)
    go_wp2_with fail
    refine IM.out.mono ?_
    rintro e w5 ⟨A2, n2, c2, rfl, ho2, hb5⟩
    obtain rfl : n2 = n1 := ho2.len.symm.trans (by rw [HF4.out.len, F3.out.2.2.1, F3.out.2.2.2.1]; exact HM.out.1)
    have O15 := Lib.hid (O14.out.below hb5)
    have O25 : Hid (RB w5 A2 n2 (splice T.bs o (List.replicate p 255))) := by rw [← F3.out.2.1]; exact Lib.hid ho2.rb
    have DD := Lib.hid (fdead_any (HF4.out.below hb5))
    rw [F3.out.1] at DD
    have HB5 := Lib.hid (HB4.out.trans (hb5.mono HB4.out.size))
    have hos := F3.out.2.2.2.2
    have hM3 := HM.out.2.2
    have e1 : IntKind.i64.wrap ((k : Int) * (s : Int)) = (o : Int) := by
      rw [← Int.natCast_mul, HO.out]; exact IntWalk.i64_in _ (by omega)
    obtain ⟨oX, hoX⟩ : ∃ oX, o + p = oX := ⟨_, rfl⟩
    have e2 : IntKind.i64.wrap ((o : Int) + (p : Int)) = (oX : Int) := by rw [IntWalk.i64_in _ (by omega)]; omega
    have q1 : decide ((k : Int) < 0) = false := decide_eq_false (by omega)
    have q2 : decide ((k : Int) ≥ (N : Int)) = false := decide_eq_false (by omega)
    have q3 : ¬ ((N : Int) ≤ (k : Int)) := by omega
    have q4 : ¬ (N ≤ k) := by omega
    have HLEN := Lib.hid HM.out.2.1
    clear IM ho2 hb5 HF4 HB4 O14
    go_wp2_with fail
    refine DD.out.mono ?_
    rintro e w6 ⟨rfl, rfl⟩
    clear DD
    go_wp2
    go_loop [18] (fun vi => ∃ i : Nat, vi = .int .i64 (i : Int) ∧ i ≤ n2) (fun vi => n2 - (intOf vi).toNat)
    case atStart => exact ⟨0, rfl, Nat.zero_le _⟩
    case round =>
      obtain ⟨i, rfl, hi⟩ := hrel
      by_cases hlt : i < n2
      · obtain ⟨ba, oa, x, rfl, _, hx, cA⟩ := O15.out.at_ hlt
        obtain ⟨bb, ob, y, rfl, _, hy, cB⟩ := O25.out.at_ hlt
        have hsp := splice_get T.bs o (List.replicate p (255 : UInt8)) (by rw [HLEN.out, List.length_replicate]; omega) i
        rw [hy, List.length_replicate] at hsp
        have i1 : (i : Int) < (n2 : Int) := by omega
        have e3 : IntKind.i64.wrap ((i : Int) + 1) = (i : Int) + 1 := IntWalk.i64_in _ (by omega)
        by_cases hin : o ≤ i ∧ i < o + p
        · rw [if_pos hin, List.getElem?_replicate, if_pos (by omega)] at hsp
          injection hsp with hsp
          subst hsp
          have cB' : w6.cell? ⟨bb, ob + i, none⟩ = some (.int .u8 255) := cB
          have r1 : decide ((i : Int) ≥ (o : Int)) = true := decide_eq_true (by omega)
          have r2 : decide ((i : Int) < (oX : Int)) = true := decide_eq_true (by omega)
          have r3 : o ≤ i := hin.1
          have r4 : i < oX := by omega
          clear cB hx hy hin
          go_wp2
          go_round
          case rel => exact ⟨i + 1, by go_num, by omega⟩
          case measure => simp [intOf]; omega
        · rw [if_neg hin, hx] at hsp
          injection hsp with hsp
          subst hsp
          have t1 : ((y.toNat : Int) != (y.toNat : Int)) = false := by simp
          by_cases hi2 : o ≤ i
          · have r1 : decide ((i : Int) ≥ (o : Int)) = true := decide_eq_true (by omega)
            have r2 : decide ((i : Int) < (oX : Int)) = false := decide_eq_false (by omega)
            have r4 : ¬ (i < oX) := by omega
            have r5 : oX ≤ i := by omega
            clear hx hy hin
            go_wp2
            go_round
            case rel => exact ⟨i + 1, by go_num, by omega⟩
            case measure => simp [intOf]; omega
          · have r1 : decide ((i : Int) ≥ (o : Int)) = false := decide_eq_false (by omega)
            have r4 : i < o := by omega
            clear hx hy hin
            go_wp2
            go_round
            case rel => exact ⟨i + 1, by go_num, by omega⟩
            case measure => simp [intOf]; omega
      · obtain rfl : i = n2 := by omega
        go_wp2_with fail
        refine (fworks_any _).mono ?_
        rintro e w8 ⟨rfl, hb8⟩
        have HB8 := Lib.hid (HB5.out.trans (hb8.mono HB5.out.size))
        clear hb8 HB5
        go_wp2
        go_ret
        exact ⟨rfl, HB8.out⟩
  · have AR := Lib.hid (farm_any HF1.out HT.out.2.2.1 1 p (by omega))
    have ep : IntKind.i64.wrap (p : Int) = (p : Int) := IntWalk.i64_in _ (by omega)
    go_wp2_with fail
    refine AR.out.mono ?_
    rintro e w2 ⟨rfl, z1, z2⟩
    have HF2 : Hid (FL w2 w0.heap.size g a cc { T with left := 1, part := p }) := z1
    have HB2 : Hid (Below w0.heap.size w0 w2) := HB1.out.trans (z2.below HF1.out.gb HF1.out.ab.1 HB1.out.size)
    clear z1 z2 AR HF1 HB1
    have IM := Lib.hid (fimage_any HF2.out)
    go_wp2_with fail
    refine IM.out.mono ?_
    rintro e w3 ⟨A1, n1, c1, rfl, ho1, hb3⟩
    obtain rfl : n1 = M := ho1.len.symm.trans HM.out.2.1
    have A1H : Hid (T.bs ≠ [] → ∀ d, A1 = some d → d.block ≠ g ∧ d.block ≠ a) := fun _ d hd => by
      have h9 := (ho1.blk_lt (k := d.block) (by rw [hd]; rfl)).1
      have := HF2.out.alt
      have := HF2.out.ab.2
      exact ⟨by omega, by omega⟩
    have O1 : Hid (RB w3 A1 n1 T.bs) := ho1.rb
    have HF3 := Lib.hid (HF2.out.below hb3)
    have HB3 := Lib.hid (HB2.out.trans (hb3.mono HB2.out.size))
    clear IM ho1 hb3 HF2 HB2
    obtain ⟨o, hO⟩ : ∃ o, k * s = o := ⟨_, rfl⟩
    obtain ⟨T3, hT3⟩ : ∃ T3, ({ T with left := 1, part := p } : FS).er (k * T.s) = T3 := ⟨_, rfl⟩
    have F3 : Hid (T3.off = true ∧ T3.bs = splice T.bs o (List.replicate s 255) ∧ T3.n = N ∧ T3.s = s ∧ o + s ≤ n1) := by
      have y1 := HT.out.1
      have y2 := HT.out.2.1
      have y3 := HT.out.2.2.1
      have y4 := HT.out.2.2.2.1
      have hos : o + s ≤ n1 := by
        have := Nat.mul_le_mul_right s (show k + 1 ≤ N by omega)
        rw [Nat.succ_mul, hO, HM.out.1] at this
        exact this
      rw [← hT3, show k * T.s = o by rw [y2]; exact hO]
      unfold FS.er
      rw [if_pos rfl]
      exact ⟨rfl, by show splice T.bs o (List.replicate (min p T.s) 255) = _; rw [show min p T.s = s by omega], y1, y2, hos⟩
    have ER := Lib.hid (ferase_any HF3.out HT.out.2.2.1 k (by rw [show ({ T with left := 1, part := p } : FS).n = N from HT.out.1]; exact hk) (by have := HT.out.2.2.2.2.2; show T.wr < _; omega))
    rw [if_pos rfl, show ({ T with left := 1, part := p } : FS).s = T.s from rfl, hT3] at ER
    have HO := Lib.hid hO
    clear hT3 hO
    go_wp2_with fail
    refine ER.out.mono ?_
    rintro e w4 ⟨rfl, z1, z2⟩
    have O14 := Lib.hid (rb_far O1.out z2 A1H.out)
    have HF4 := Lib.hid z1
    have HB4 := Lib.hid (HB3.out.trans (z2.below HF3.out.gb HF3.out.ab.1 HB3.out.size))
    clear ER z1 z2 HF3 HB3 O1 A1H
    have IM := Lib.hid (fimage_any HF4.out)
    go_wp2_with fail
    refine IM.out.mono ?_
    rintro e w5 ⟨A2, n2, c2, rfl, ho2, hb5⟩
    obtain rfl : n2 = n1 := ho2.len.symm.trans (by rw [HF4.out.len, F3.out.2.2.1, F3.out.2.2.2.1]; exact HM.out.1)
    have O15 := Lib.hid (O14.out.below hb5)
    have O25 : Hid (RB w5 A2 n2 (splice T.bs o (List.replicate s 255))) := by rw [← F3.out.2.1]; exact Lib.hid ho2.rb
    have DD := Lib.hid (fdead_any (HF4.out.below hb5))
    rw [F3.out.1] at DD
    have HB5 := Lib.hid (HB4.out.trans (hb5.mono HB4.out.size))
    have hos := F3.out.2.2.2.2
    have hM3 := HM.out.2.2
    have e1 : IntKind.i64.wrap ((k : Int) * (s : Int)) = (o : Int) := by
      rw [← Int.natCast_mul, HO.out]; exact IntWalk.i64_in _ (by omega)
    obtain ⟨oX, hoX⟩ : ∃ oX, o + s = oX := ⟨_, rfl⟩
    have e2 : IntKind.i64.wrap ((o : Int) + (s : Int)) = (oX : Int) := by rw [IntWalk.i64_in _ (by omega)]; omega
    have q1 : decide ((k : Int) < 0) = false := decide_eq_false (by omega)
    have q2 : decide ((k : Int) ≥ (N : Int)) = false := decide_eq_false (by omega)
    have q3 : ¬ ((N : Int) ≤ (k : Int)) := by omega
    have q4 : ¬ (N ≤ k) := by omega
    have HLEN := Lib.hid HM.out.2.1
    clear IM ho2 hb5 HF4 HB4 O14
    go_wp2_with fail
    refine DD.out.mono ?_
    rintro e w6 ⟨rfl, rfl⟩
    clear DD
    go_wp2
    go_loop [18] (fun vi => ∃ i : Nat, vi = .int .i64 (i : Int) ∧ i ≤ n2) (fun vi => n2 - (intOf vi).toNat)
    case atStart => exact ⟨0, rfl, Nat.zero_le _⟩
    case round =>
      obtain ⟨i, rfl, hi⟩ := hrel
      by_cases hlt : i < n2
      · obtain ⟨ba, oa, x, rfl, _, hx, cA⟩ := O15.out.at_ hlt
        obtain ⟨bb, ob, y, rfl, _, hy, cB⟩ := O25.out.at_ hlt
        have hsp := splice_get T.bs o (List.replicate s (255 : UInt8)) (by rw [HLEN.out, List.length_replicate]; omega) i
        rw [hy, List.length_replicate] at hsp
        have i1 : (i : Int) < (n2 : Int) := by omega
        have e3 : IntKind.i64.wrap ((i : Int) + 1) = (i : Int) + 1 := IntWalk.i64_in _ (by omega)
        by_cases hin : o ≤ i ∧ i < o + s
        · rw [if_pos hin, List.getElem?_replicate, if_pos (by omega)] at hsp
          injection hsp with hsp
          subst hsp
          have cB' : w6.cell? ⟨bb, ob + i, none⟩ = some (.int .u8 255) := cB
          have r1 : decide ((i : Int) ≥ (o : Int)) = true := decide_eq_true (by omega)
          have r2 : decide ((i : Int) < (oX : Int)) = true := decide_eq_true (by omega)
          have r3 : o ≤ i := hin.1
          have r4 : i < oX := by omega
          clear cB hx hy hin
          go_wp2
          go_round
          case rel => exact ⟨i + 1, by go_num, by omega⟩
          case measure => simp [intOf]; omega
        · rw [if_neg hin, hx] at hsp
          injection hsp with hsp
          subst hsp
          have t1 : ((y.toNat : Int) != (y.toNat : Int)) = false := by simp
          by_cases hi2 : o ≤ i
          · have r1 : decide ((i : Int) ≥ (o : Int)) = true := decide_eq_true (by omega)
            have r2 : decide ((i : Int) < (oX : Int)) = false := decide_eq_false (by omega)
            have r4 : ¬ (i < oX) := by omega
            have r5 : oX ≤ i := by omega
            clear hx hy hin
            go_wp2
            go_round
            case rel => exact ⟨i + 1, by go_num, by omega⟩
            case measure => simp [intOf]; omega
          · have r1 : decide ((i : Int) ≥ (o : Int)) = false := decide_eq_false (by omega)
            have r4 : i < o := by omega
            clear hx hy hin
            go_wp2
            go_round
            case rel => exact ⟨i + 1, by go_num, by omega⟩
            case measure => simp [intOf]; omega
      · obtain rfl : i = n2 := by omega
        go_wp2_with fail
        refine (fworks_any _).mono ?_
        rintro e w8 ⟨rfl, hb8⟩
        have HB8 := Lib.hid (HB5.out.trans (hb8.mono HB5.out.size))
        clear hb8 HB5
        go_wp2
        go_ret
        exact ⟨rfl, HB8.out⟩
end Go.Proofs.Ytnodocpoangnkaa
