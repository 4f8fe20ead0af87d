/-
  rsa: the statement RsaShape.
-/
import Derived.Test.YtbplchpbaonadaaDoorRv
namespace Go.Proofs.YtbplchpbaonadaaDoor
open Go.RowKit Go
set_option linter.unusedVariables false
set_option linter.unusedSimpArgs false
set_option maxRecDepth 100000
set_option exponentiation.threshold 10000
theorem enc_parts (d : List UInt8) (n : Nat) (hd : d.length = 32) (hn : 62 ≤ n) :
    (encL d n)[0]? = some 0 ∧ (encL d n)[1]? = some 1 ∧ (∀ i, 2 ≤ i → i < n - 52 → (encL d n)[i]? = some 255) ∧ ((encL d n).drop (n - 52)).take 20 = 0 :: aheadL ∧ ((encL d n).drop (n - 32)).take 32 = d := by
  obtain ⟨P, hP⟩ : ∃ P, [0, 1] ++ List.replicate (n - 54) (255 : UInt8) = P := ⟨_, rfl⟩
  have e1 : encL d n = P ++ ((0 :: aheadL) ++ d) := by rw [← hP]; unfold encL; simp
  have hl : P.length = n - 52 := by rw [← hP]; simp; omega
  have hm : ∀ i, 2 ≤ i → i < n - 52 → P[i]? = some 255 := fun i h1 h2 => by
    rw [← hP, List.getElem?_append_right (by simpa using h1), List.getElem?_replicate, if_pos (by simp; omega)]
  have hl2 : (0 :: aheadL).length = 20 := rfl
  refine ⟨by unfold encL; rfl, by unfold encL; rfl, fun i h1 h2 => ?_, ?_, ?_⟩
  · rw [e1, List.getElem?_append_left (by omega)]
    exact hm i h1 h2
  · rw [e1, ← hl, List.drop_append_of_le_length (Nat.le_refl _), List.drop_length, List.nil_append, List.take_append_of_le_length (by rw [hl2]; omega), List.take_of_length_le (by rw [hl2]; omega)]
  · rw [e1, ← List.append_assoc, show n - 32 = (P ++ 0 :: aheadL).length by rw [List.length_append, hl, hl2]; omega, List.drop_append_of_le_length (Nat.le_refl _), List.drop_length, List.nil_append, List.take_of_length_le (by omega)]
set_option maxHeartbeats 8000000 in
theorem shape_row (d : List UInt8) (ni : Int) (w : World) (hd : IsD w d) (h1 : (Lit.int .u16 ni).wf = true) (hT : Lens w) :
    Calls Tryd.prog 7 #[dgV d, .int .u16 ni] w fun r w' => r = .returned (.bool true) ∧ Below w.heap.size w w' := by
  obtain ⟨a1, a2⟩ := bounds_u16 h1
  obtain ⟨n, rfl⟩ := Int.eq_ofNat_of_zero_le a1
  have hn : n < 65536 := by omega
  clear h1 a1 a2
  have hd : d.length = 32 := hd
  have HT := Lib.hid hT
  have hdg := dgA_is d hd
  have HD := Lib.hid hdg
  have HI := Lib.hid hdg.info
  have e0 : IntKind.i64.wrap (n : Int) = (n : Int) := IntWalk.i64_in _ (by omega)
  by_cases hbad : n < 62 ∨ 512 < n
  · have EN := Lib.hid (fun W => encode_no (n : Int) (by omega) (dgA d) W)
    have p1 : (decide ((n : Int) < 62) = true) ∨ (decide ((n : Int) < 62) = false ∧ decide ((n : Int) > 512) = true) := by
      rcases Nat.lt_or_ge n 62 with h | h
      · exact .inl (decide_eq_true (by omega))
      · exact .inr ⟨decide_eq_false (by omega), decide_eq_true (by omega)⟩
    have p2 : (decide (n < 62) = true) ∨ (decide (n < 62) = false ∧ decide (512 < n) = true) := by
      rcases Nat.lt_or_ge n 62 with h | h
      · exact .inl (decide_eq_true (by omega))
      · exact .inr ⟨decide_eq_false (by omega), decide_eq_true (by omega)⟩
    have HP := Lib.hid (And.intro p1 p2)
    clear hdg hT hbad p1 p2
    go_enter Tryd.func7, Tryd.ntmps7
    go_upto_region 1 with (fail)
    refine wp_nm fun W1 hW1 => ?_
    have HZ : Hid (W1.heap[w.heap.size]? = some (.cells (dgA d) 22) ∧ Below w.heap.size w W1) := by rw [← hW1]; exact ⟨has_new _ _, kp_alloc (Below.refl _ _) _⟩
    clear hW1
    go_wp2_with (refine wpList_load_row rfl _ _ rfl w.heap.size rfl _ _ _ _ HZ.out.1 Tryd.underlying22 rfl HI.out ?_)
    refine (EN.out W1).mono ?_
    rintro r w2 ⟨rfl, hb2⟩
    have K2 := Lib.hid (has_below HZ.out.1 hb2)
    have B2 := Lib.hid (kp_call HZ.out.2 hb2)
    clear hb2 HZ EN
    obtain ⟨G1, G2⟩ := HP.out
    clear HP
    rcases G1 with p1 | ⟨p1, p3⟩
    · rcases G2 with p2 | ⟨p2, p4⟩
      · go_wp2_with (refine wpList_load_rowG rfl _ _ rfl w.heap.size rfl _ _ _ _ K2.out Tryd.underlying22 rfl HI.out ?_)
        refine (alive_any (dgA d) d HD.out w2 (HT.out.below' B2.out)).mono ?_
        rintro r w3 ⟨rfl, hb3⟩
        have B3 := Lib.hid (kp_call B2.out hb3)
        clear hb3
        go_wp2
        go_ret
        exact ⟨rfl, B3.out⟩
      · exfalso
        have h1 := of_decide_eq_true p1
        have h2 := of_decide_eq_false p2
        omega
    · rcases G2 with p2 | ⟨p2, p4⟩
      · exfalso
        have h1 := of_decide_eq_false p1
        have h2 := of_decide_eq_true p2
        omega
      · go_wp2_with (refine wpList_load_rowG rfl _ _ rfl w.heap.size rfl _ _ _ _ K2.out Tryd.underlying22 rfl HI.out ?_)
        refine (alive_any (dgA d) d HD.out w2 (HT.out.below' B2.out)).mono ?_
        rintro r w3 ⟨rfl, hb3⟩
        have B3 := Lib.hid (kp_call B2.out hb3)
        clear hb3
        go_wp2
        go_ret
        exact ⟨rfl, B3.out⟩
  · have hlo : 62 ≤ n := by omega
    have hhi : n ≤ 512 := by omega
    have EN := Lib.hid (fun W => encode_of repeat_ok n hlo hhi (dgA d) d W hd hdg.v)
    obtain ⟨c0, c1, cm, cp, cr⟩ := enc_parts d n hd hlo
    have CM := Lib.hid cm
    have p1 : decide ((n : Int) < 62) = false := decide_eq_false (by omega)
    have p2 : decide ((n : Int) > 512) = false := decide_eq_false (by omega)
    have p3 : decide (n < 62) = false := decide_eq_false (by omega)
    have p4 : decide (512 < n) = false := decide_eq_false (by omega)
    obtain ⟨p, hp⟩ : ∃ p, n - 52 = p := ⟨_, rfl⟩
    obtain ⟨q, hq⟩ : ∃ q, n - 32 = q := ⟨_, rfl⟩
    rw [hp] at cp CM
    rw [hq] at cr
    have e1 : IntKind.i64.wrap ((n : Int) - 52) = (p : Int) := by rw [IntWalk.i64_in _ (by omega)]; omega
    have e2 : IntKind.i64.wrap ((n : Int) - 32) = (q : Int) := by rw [IntWalk.i64_in _ (by omega)]; omega
    have e3 : q - p = 20 := by omega
    have e4 : n - q = 32 := by omega
    have b1 : (0 : Int) ≤ (p : Int) := by omega
    have b2 : (p : Int) ≤ (q : Int) := by omega
    have b3 : (q : Int) ≤ (n : Int) := by omega
    have b4 : (0 : Int) ≤ (q : Int) := by omega
    have hp2 : 2 < p := by omega
    have hpn : p < n := by omega
    have hqn : q < n := by omega
    have HC := Lib.hid (And.intro c0 (And.intro c1 (And.intro cp cr)))
    have HPQ := Lib.hid (And.intro hp hq)
    have n0 : (0 : Int) < (n : Int) := by omega
    have n1 : (1 : Int) < (n : Int) := by omega
    have n2 : 0 < n := by omega
    have n3 : 1 < n := by omega
    clear hdg hT hbad c0 c1 cm cp cr hp hq
    go_enter Tryd.func7, Tryd.ntmps7
    go_upto_region 1 with (fail)
    refine wp_nm fun W1 hW1 => ?_
    have HZ : Hid (W1.heap[w.heap.size]? = some (.cells (dgA d) 22) ∧ Below w.heap.size w W1) := by rw [← hW1]; exact ⟨has_new _ _, kp_alloc (Below.refl _ _) _⟩
    clear hW1
    go_wp2_with (refine wpList_load_row rfl _ _ rfl w.heap.size rfl _ _ _ _ HZ.out.1 Tryd.underlying22 rfl HI.out ?_)
    refine (EN.out W1).mono ?_
    rintro r w2 ⟨A, c, rfl, ho2, hb2⟩
    obtain ⟨G, rfl, _, hG⟩ := ho2.shape (by have := ho2.cap.1; omega)
    have K2 := Lib.hid (has_below HZ.out.1 hb2)
    have B2 := Lib.hid (kp_call HZ.out.2 hb2)
    have x0 := ho2.cellAt 0 0 HC.out.1
    have x1 := ho2.cellAt 1 1 HC.out.2.1
    have hc := ho2.cap.1
    have b5 : (q : Int) ≤ (c : Int) := by omega
    have b6 : (p : Int) ≤ (c : Int) := by omega
    have b7 : (n : Int) ≤ (c : Int) := by omega
    have d1 : ¬ c = p := by omega
    have d2 : ¬ c = q := by omega
    have O2 := Lib.hid ho2
    clear ho2 hb2 HZ EN hG
    go_wp2
    go_loop [7] (fun v => ∃ (i : Nat), v = .int .i64 (i : Int) ∧ 2 ≤ i ∧ i ≤ p) (fun v => p - (intOf v).toNat)
    case atStart => exact ⟨2, rfl, Nat.le_refl _, by omega⟩
    case round =>
      obtain ⟨i, rfl, hi2, hip⟩ := hrel
      by_cases hlt : i < p
      · have y1 := O2.out.cellAt i 255 (CM.out i hi2 hlt)
        have j1 : (i : Int) < (p : Int) := by omega
        have j2 : (i : Int) < (n : Int) := by omega
        have e5 : IntKind.i64.wrap ((i : Int) + 1) = (i : Int) + 1 := IntWalk.i64_in _ (by omega)
        go_wp2
        go_round
        case rel => exact ⟨i + 1, by go_num, by omega, by omega⟩
        case measure => simp [intOf]; omega
      · obtain rfl : i = p := by omega
        clear x0 x1
        go_upto_region 12 with (fail)
        refine wp_nm fun W4 hW4 => ?_
        have hb4 : Below w2.heap.size w2 W4 := by rw [← hW4]; exact kp_alloc (Below.refl _ _) _
        have h4 : W4.heap[w2.heap.size]? = some (.cells ((0 :: aheadL).map bv).toArray 5) := by rw [← hW4]; exact has_new _ _
        have R4 := O2.out.rb.below hb4
        have RP := rb_sub6 R4 i 20 (by omega)
        have RQ := rb_sub6 R4 q 32 (by omega)
        rw [HC.out.2.2.1] at RP
        rw [HC.out.2.2.2] at RQ
        rw [Nat.zero_add] at RP RQ
        have RH : RB W4 (some ⟨w2.heap.size, 0, none⟩) 20 (0 :: aheadL) := rb_block h4 (by simp) rfl
        have RD : RB W4 (some ⟨w.heap.size, 0, none⟩) 32 d := rb_block (has_below K2.out hb4) HD.out.v HD.out.l
        have S1 := Lib.hid (fun x : Up W4 => by
          have := same6_any (some ⟨G, i, none⟩) (some ⟨w2.heap.size, 0, none⟩) 20 (c - i) 20 20 _ _ x.w (RP.below x.b) (RH.below x.b) (by omega) (by omega)
          rw [decide_eq_true rfl] at this
          exact this)
        have S2 := Lib.hid (fun x : Up W4 => by
          have := same6_any (some ⟨G, q, none⟩) (some ⟨w.heap.size, 0, none⟩) 32 (c - q) 32 32 _ _ x.w (RQ.below x.b) (RD.below x.b) (by omega) (by omega)
          rw [decide_eq_true rfl] at this
          exact this)
        have AL := Lib.hid (fun x : Up W4 => alive_any (dgA d) d HD.out x.w (HT.out.below' (kp_call (kp_call B2.out hb4) x.b)))
        have B4 := Lib.hid (kp_call B2.out hb4)
        have K4 := Lib.hid (has_below K2.out hb4)
        clear hW4 hb4 h4 R4 RP RQ RH RD
        refine wp_region_up (by kernel_rfl) (by kernel_rfl) ?_
        repeat (first
          | ((with_reducible refine up_load rfl _ _ rfl w.heap.size rfl _ _ _ _ K4.out Tryd.underlying22 rfl HI.out ?_); (simp only [Act.put, List.setIfInBounds_toArray, List.set_cons_zero, List.set_cons_succ]))
          | go_big_quiet_step (first
            | (go_at_call 13; with_reducible exact Up.calls (S1.out _))
            | (go_at_call 13; with_reducible exact Up.calls (S2.out _))
            | (go_at_call 9; with_reducible exact Up.calls (AL.out _))))
        refine wpQuiet_nil ?_
        rintro _ ⟨x, rfl⟩
        have HF := Lib.hid (kp_call B4.out x.b)
        go_wp2
        go_ret
        exact ⟨rfl, HF.out⟩
end Go.Proofs.YtbplchpbaonadaaDoor
