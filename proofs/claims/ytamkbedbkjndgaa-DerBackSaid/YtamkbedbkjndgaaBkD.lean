/-
  der: the statement on what is written and read.
-/
import Derived.Test.YtamkbedbkjndgaaBk1
import Derived.Test.YtamkbedbkjndgaaAl2
import Derived.Test.YtamkbedbkjndgaaDrWk
import Derived.Deep.DeepCutAuto
namespace Go.Proofs.Ytamkbedbkjndgaa
open Go.RowKit Go
set_option linter.unusedVariables false
set_option linter.unusedSimpArgs false
set_option maxRecDepth 100000
theorem eq_true (A B : Option Addr) (n c m k : Nat) (xs ys : List UInt8) (w : World) (h1 : RB w A n xs) (h2 : RB w B m ys) (he : xs = ys) : Calls Try.prog 21 #[.slice A n c, .slice B m k] w fun e w' => e = .returned (.bool true) ∧ w = w' := by
  refine (eq_any A B n m c k _ _ w h1 h2).mono fun e w' h => ⟨?_, h.2⟩
  rw [h.1, he, beq_self_eq_true]
theorem join2 (X1 X2 : Option Addr) (m1 m2 k1 k2 : Nat) (r1 r2 : List UInt8) (w : World) (g : Nat) (hg : w.heap[g]? = some (.cells #[.slice X1 m1 k1, .slice X2 m2 k2] 22)) (h1 : RB w X1 m1 r1) (h2 : RB w X2 m2 r2) (hlen : m1 + m2 ≤ 140737488355328) :
    Calls Try.prog 25 #[.slice (some ⟨g, 0, none⟩) 2 2] w (Fresh w (r1 ++ r2)) := by
  have := joinsH_any [(X1, m1, k1, r1), (X2, m2, k2, r2)] 2 #[.slice X1 m1 k1, .slice X2 m2 k2] _ _ w g hg rfl (by omega) rfl (by intro x hx; simp at hx; rcases hx with rfl | rfl; exact h1; exact h2) (by simp [h1.1, h2.1]; omega)
  simpa using this
set_option maxHeartbeats 8000000 in
theorem back_go (t : UInt8) (A1 A2 A3 : Option Addr) (n1 c1 n2 c2 n3 c3 : Nat) (b m : List UInt8) (xs : List Nat) (w : World) (hn1 : n1 ≤ 8192) (hn2 : n2 ≤ 8192) (hn3 : n3 ≤ 100) (h1 : IsBs w A1 n1 c1 b) (h2 : IsBs w A2 n2 c2 m) (h3 : IsNs w A3 n3 c3 xs) :
    Calls Try.prog 5 #[.agg #[.int .u8 (t.toNat : Int), .slice A1 n1 c1, .slice A2 n2 c2, .slice A3 n3 c3]] w fun e w' => e = .returned (.bool true) ∧ Below w.heap.size w w' := by
  have W := Lib.hid (fun W => works_any W)
  have L1 := Lib.hid (fun W => large_any A1 n1 c1 W)
  have L2 := Lib.hid (fun W => large_any A2 n2 c2 W)
  have q1 : decide ((8192 : Int) < (n1 : Int)) = false := by simp; omega
  have q2 : decide ((8192 : Int) < (n2 : Int)) = false := by simp; omega
  rw [q1] at L1
  rw [q2] at L2
  have RB1 := Lib.hid h1.rb
  have RB2 := Lib.hid h2.rb
  have RN3 := Lib.hid h3.rn
  have hl1 := h1.len
  have hl2 := h2.len
  have m1 : c1 ≤ 9223372036854775807 := by have := h1.max; unfold maxLen at this; omega
  have m2 : c2 ≤ 9223372036854775807 := by have := h2.max; unfold maxLen at this; omega
  have m3 : c3 ≤ 9223372036854775807 := by have := h3.max; unfold maxLen at this; omega
  have HX := Lib.hid (show c1 ≤ maxLen ∧ b.length = n1 ∧ m.length = n2 ∧ (wrQ t b).length ≤ 100000 from ⟨h1.max, hl1, hl2, by
    have e := lenB_len 4 b.length (by omega)
    unfold wrQ
    split <;> simp <;> omega⟩)
  have k1 := h1.le
  have k2 := h2.le
  have k3 := h3.le
  clear q1 q2 h1 h2 h3 hl1 hl2
  have B0 := kp_alloc (Below.refl w.heap.size w) (.cells #[.int .u8 (t.toNat : Int), .slice A1 n1 c1, .slice A2 n2 c2, .slice A3 n3 c3] 40)
  have WR := Lib.hid (write_any t A1 n1 c1 b _ (RB1.out.below B0) (by omega))
  have HB0 := Lib.hid B0
  clear B0
  go_enter Try.func5, Try.ntmps5
  go_wp2_with fail
  refine (L1.out _).mono ?_
  rintro e w' ⟨rfl, rfl⟩
  go_wp2_with fail
  refine (L2.out _).mono ?_
  rintro e w' ⟨rfl, rfl⟩
  go_wp2_with fail
  refine WR.out.mono ?_
  rintro e w1 ⟨X1, i1, j1, rfl, o1, hb1⟩
  have B1 := kp_call HB0.out hb1
  have hi1 : i1 ≤ 100000 := by have := o1.len; have := HX.out.2.2.2; omega
  have JN := Lib.hid (join2 X1 A2 i1 n2 j1 c2 _ _ (w1.alloc (.cells #[.slice X1 i1 j1, .slice A2 n2 c2] 22)) w1.heap.size (has_new w1 _) (o1.rb.alloc _) (RB2.out.below (kp_alloc B1 _)) (by omega))
  have OW1 := Lib.hid o1
  have HB1 := Lib.hid (kp_alloc B1 (.cells #[.slice X1 i1 j1, .slice A2 n2 c2] 22))
  have HA1 := Lib.hid (kp_alloc (Below.refl w1.heap.size w1) (.cells #[.slice X1 i1 j1, .slice A2 n2 c2] 22))
  clear o1 hb1 B1 WR
  go_wp2_with fail
  refine JN.out.mono ?_
  rintro e w2 ⟨X2, i2, j2, rfl, o2, hb2⟩
  have B2 := kp_call HB1.out hb2
  have hi2 : i2 ≤ 200000 := by have e2 := o2.len; have := HX.out; rw [List.length_append] at e2; omega
  have PS := Lib.hid ((parse_any X2 i2 j2 _ w2 o2.rb o2.cap.1 (by omega) (by have := o2.cap.2; unfold maxLen at this; omega)).mono fun e w' h => parse_r h)
  have OW2 := Lib.hid (OW1.out.below (kp_call HA1.out hb2) (Nat.le_refl _))
  have HB2 := Lib.hid B2
  clear o2 hb2 B2 JN HB1 HA1
  have PW := Lib.hid (p_wr t b m (by have := HX.out; omega))
  obtain ⟨J, hJ⟩ : ∃ J, wrQ t b ++ m = J := ⟨_, rfl⟩
  rw [hJ] at PS PW
  clear hJ
  obtain ⟨pt, hpt⟩ : ∃ x, pTag J = x := ⟨_, rfl⟩
  obtain ⟨pe, hpe⟩ : ∃ x, pErr J = x := ⟨_, rfl⟩
  unfold ParseR at PS
  rw [hpt, hpe] at PS PW
  clear hpt hpe
  go_wp2_with fail
  refine PS.out.mono ?_
  rintro e w3 ⟨⟨Y1, u1, v1, Y2, u2, v2, Y3, u3, v3, rfl, o1, o2, o3, _, _, _⟩, hb3⟩
  have HO : Hid (∀ W, Below w3.heap.size w3 W → RB W Y1 u1 (pBody J) ∧ RB W Y2 u2 (pRaw J) ∧ RB W Y3 u3 (pRest J) ∧ RB W X1 i1 (wrQ t b)) := fun W hw => ⟨o1.rb.below hw, o2.rb.below hw, o3.rb.below hw, (OW2.out.below hb3 (Nat.le_refl _)).rb.below hw⟩
  have HB3 := Lib.hid (kp_call HB2.out hb3)
  clear o1 o2 o3 hb3 PS OW2 HB2 OW1
  go_upto_if 52 with (fail)
  refine wp_nm fun W4 hW4 => ?_
  have hk4 : W4.heap[w3.heap.size]? = some (.cells #[.int .u8 (pt.toNat : Int), .slice Y1 u1 v1, .slice Y2 u2 v2] 43) := by rw [← hW4]; exact has_new w3 _
  have hb34 : Below w3.heap.size w3 W4 := by rw [← hW4]; exact kp_alloc (Below.refl _ _) _
  have HK4 := Lib.hid hk4
  have HB4 := Lib.hid (kp_call HB3.out hb34)
  have HR4 := Lib.hid (HO.out W4 hb34)
  have hg4 : w.heap.size ≤ w3.heap.size := HB3.out.size
  have hs4 : w3.heap.size < W4.heap.size := by rw [← hW4]; simp
  clear hW4 hb34 HO HB3
  generalize w3.heap.size = g at *
  clear hk4
  go_cut [8] (fun s8 wx => s8 = .pointer (some ⟨g, 0, none⟩) ∧ wx = W4)
  case first => as_aux_lemma =>
    by_cases h31 : t.toNat % 32 = 31
    · have t1 : ((t.toNat : Int) % 32 == 31) = true := by simp; omega
      have hpe : pe = 9 := by have := PW.out; rw [if_pos h31] at this; exact this
      subst hpe
      clear h31
      go_wp2_with fail
      go_meet
      exact ⟨rfl, rfl⟩
    · have t1 : ((t.toNat : Int) % 32 == 31) = false := by simp; omega
      have hpw := PW.out
      rw [if_neg h31] at hpw
      obtain ⟨e1, e2, e3, e4, e5⟩ := hpw
      subst e1
      subst e2
      obtain ⟨r1, r2, r3, r4⟩ := HR4.out
      have E1 := Lib.hid (eq_true Y1 A1 u1 v1 n1 c1 _ _ W4 r1 (RB1.out.below HB4.out) e3)
      have E2 := Lib.hid (eq_true Y2 X1 u2 v2 i1 j1 _ _ W4 r2 r4 e4)
      have E3 := Lib.hid (eq_true Y3 A2 u3 v3 n2 c2 _ _ W4 r3 (RB2.out.below HB4.out) e5)
      obtain ⟨c80, c81, c82⟩ := cells_3 HK4.out
      clear h31 r1 r2 r3 r4 e3 e4 e5
      go_wp2_with fail
      refine E1.out.mono ?_
      rintro e w' ⟨rfl, rfl⟩
      go_wp2_with fail
      refine E2.out.mono ?_
      rintro e w' ⟨rfl, rfl⟩
      go_wp2_with fail
      refine E3.out.mono ?_
      rintro e w' ⟨rfl, rfl⟩
      go_wp2_with fail
      go_meet
      exact ⟨rfl, rfl⟩
  case rest => as_aux_lemma =>
    obtain ⟨rfl, rfl⟩ := hcut
    clear PW HR4
    have PS := Lib.hid ((parse_any A2 n2 c2 m wc (RB2.out.below HB4.out) k2 (by omega) m2).mono fun e w' h => parse_r h)
    have PB := Lib.hid (fun h => @p_back m h)
    have PE := Lib.hid (p_err m)
    have PL := Lib.hid (p_len m)
    obtain ⟨mt, hmt⟩ : ∃ x, pTag m = x := ⟨_, rfl⟩
    obtain ⟨me, hme⟩ : ∃ x, pErr m = x := ⟨_, rfl⟩
    unfold ParseR at PS
    rw [hmt, hme] at PS
    rw [hme] at PE PB
    rw [hmt] at PB
    clear hmt hme
    go_wp2_with fail
    refine PS.out.mono ?_
    rintro e w5 ⟨⟨Z1, u1, v1, Z2, u2, v2, Z3, u3, v3, rfl, o1, o2, o3, _, _, _⟩, hb5⟩
    have k5 := has_below HK4.out hb5
    have hz5 := hb5.size
    obtain ⟨f0, f1, f2⟩ := free_3 k5
    obtain ⟨e0, e1, e2⟩ := cells_3 k5
    have H5 : Hid (Below w.heap.size w w5 ∧ OwnB w5 wc.heap.size Z1 u1 v1 (pBody m) ∧ OwnB w5 wc.heap.size Z2 u2 v2 (pRaw m) ∧ OwnB w5 wc.heap.size Z3 u3 v3 (pRest m)) := ⟨kp_call HB4.out hb5, o1, o2, o3⟩
    have HK5 := Lib.hid k5
    clear k5 hb5 o1 o2 o3 PS HB4 HK4
    go_upto_region 15 with (fail)
    refine wp_nm fun W6 hW6 => ?_
    have k6 : W6.heap[g]? = some (.cells #[.int .u8 (mt.toNat : Int), .slice Z1 u1 v1, .slice Z2 u2 v2] 43) := by rw [← hW6]; exact set_3 HK5.out
    have H6 : Hid (Below w.heap.size w W6 ∧ RB W6 Z1 u1 (pBody m) ∧ RB W6 Z2 u2 (pRaw m) ∧ RB W6 Z3 u3 (pRest m)) := by
      obtain ⟨x1, x2, x3, x4⟩ := H5.out
      rw [← hW6]
      exact ⟨below_3 x1 hg4, (x2.far (grown_3 _ _) hs4).rb, (x3.far (grown_3 _ _) hs4).rb, (x4.far (grown_3 _ _) hs4).rb⟩
    have hg6 : g < W6.heap.size := block_lt k6
    have hul : u1 ≤ 8192 ∧ u2 ≤ 8192 ∧ u3 ≤ 8192 := by
      obtain ⟨x1, x2, x3, x4⟩ := H5.out
      have p := PL.out
      have y1 := x2.len
      have y2 := x3.len
      have y3 := x4.len
      have := HX.out
      omega
    obtain ⟨hu1, hu2, hu3⟩ := hul
    clear hW6 e0 e1 e2 f0 f1 f2 H5 HK5 hz5 PL hs4 hg4
    go_cut [111] (fun s wx => s = .bool false ∧ Below W6.heap.size W6 wx)
    case first => as_aux_lemma =>
      by_cases h9 : me = 9
      · have t9 : ((me : Int) == 0) = false := by subst h9; decide
        clear h9
        go_wp2_with fail
        go_quiet (fail)
        go_wp2_with fail
        go_meet
        exact ⟨rfl, kp_drewN (Below.refl _ _) _⟩
      · have t9 : ((me : Int) == 0) = true := by
          have : me = 0 := by have := PE.out; omega
          subst this; decide
        obtain ⟨pb1, pb2⟩ := PB.out (by have := PE.out; omega)
        have G6 : GB W6 g (.cells #[.int .u8 (mt.toNat : Int), .slice Z1 u1 v1, .slice Z2 u2 v2] 43) W6 := ⟨Below.refl _ _, k6⟩
        have KEEP : Hid (∀ W, GB W6 g (.cells #[.int .u8 (mt.toNat : Int), .slice Z1 u1 v1, .slice Z2 u2 v2] 43) W → (W.cell? ⟨g, 0, none⟩ = some (.int .u8 (mt.toNat : Int)) ∧ W.cell? ⟨g, 1, none⟩ = some (.slice Z1 u1 v1) ∧ W.cell? ⟨g, 2, none⟩ = some (.slice Z2 u2 v2)) ∧ GB W6 g (.cells #[.int .u8 (mt.toNat : Int), .slice Z1 u1 v1, .slice Z2 u2 v2] 43) W) := fun W h => ⟨cells_3 h.h, h⟩
        have CW := Lib.hid (fun W (hw : Below W6.heap.size W6 W) => write_any mt Z1 u1 v1 (pBody m) W (H6.out.2.1.below hw) (by omega))
        rw [pb1] at CW
        have CJ := Lib.hid (fun W gg (hw : Below W6.heap.size W6 W) (hj : W.heap[gg]? = some (.cells #[.slice Z2 u2 v2, .slice Z3 u3 v3] 22)) => join2 Z2 Z3 u2 u3 v2 v3 (pRaw m) (pRest m) W gg hj (H6.out.2.2.1.below hw) (H6.out.2.2.2.below hw) (by omega))
        rw [pb2] at CJ
        have R2 := Lib.hid (fun W (hw : Below W6.heap.size W6 W) => H6.out.2.2.1.below hw)
        have RM := Lib.hid (fun W (hw : Below W6.heap.size W6 W) => RB2.out.below (kp_call H6.out.1 hw))
        clear h9 pb1 pb2 PE PB k6
        go_wp2_with fail
        go_region_held3 (fun W => (W.cell? ⟨g, 0, none⟩ = some (.int .u8 (mt.toNat : Int)) ∧ W.cell? ⟨g, 1, none⟩ = some (.slice Z1 u1 v1) ∧ W.cell? ⟨g, 2, none⟩ = some (.slice Z2 u2 v2)) ∧ GB W6 g (.cells #[.int .u8 (mt.toNat : Int), .slice Z1 u1 v1, .slice Z2 u2 v2] 43) W)
          ((apply KEEP.out; repeat (with_reducible (first | assumption | refine GB.drew ?_ | refine GB.alloc ?_ _ | refine GB.call ?_ (by assumption)))))
          (first
            | (go_at_call 23; (with_reducible refine (CW.out _ (by (go_split_ands; exact GB.b (by assumption)))).mono ?_); (rintro e V1 ⟨P1, p1, q1, rfl, op1, bV1⟩; have E1 := Lib.hid (fun W (hw : Below V1.heap.size V1 W) (hw2 : Below W6.heap.size W6 W) => eq_true P1 Z2 p1 q1 u2 v2 _ _ W (op1.rb.below hw) (R2.out W hw2) rfl); clear CW op1))
            | (go_at_call 21; (with_reducible refine (E1.out _ (by (repeat (with_reducible (first | exact Below.refl _ _ | refine kp_drew ?_ | refine kp_alloc ?_ _ | refine kp_call ?_ (by assumption))))) (by (go_split_ands; exact GB.b (by assumption)))).mono ?_); (rintro e V2 ⟨rfl, rfl⟩; clear E1))
            | (go_at_call 25; (with_reducible refine (CJ.out _ _ (by (go_split_ands; exact GB.b (by assumption))) (by (repeat (with_reducible (first | assumption | exact has_new' _ _ _ (by simp) | refine has_drew ?_ | refine has_alloc ?_ _ | refine has_below ?_ (by assumption)))))).mono ?_); (rintro e V3 ⟨P3, p3, q3, rfl, op3, bV3⟩; have E3 := Lib.hid (fun W (hw : Below V3.heap.size V3 W) (hw2 : Below W6.heap.size W6 W) => eq_true P3 A2 p3 q3 n2 c2 _ _ W (op3.rb.below hw) (RM.out W hw2) rfl); clear CJ op3))
            | (go_at_call 21; (with_reducible refine (E3.out _ (by (repeat (with_reducible (first | exact Below.refl _ _ | refine kp_drew ?_ | refine kp_alloc ?_ _ | refine kp_call ?_ (by assumption))))) (by (go_split_ands; exact GB.b (by assumption)))).mono ?_); (rintro e V4 ⟨rfl, rfl⟩; clear E3)))
        all_goals
          go_wp2_with fail
          go_meet
          refine ⟨rfl, ?_⟩
          go_split_ands
          exact GB.b (by assumption)
    case rest => as_aux_lemma =>
      obtain ⟨rfl, hb7⟩ := hcut
      have HB7 := Lib.hid (kp_call H6.out.1 hb7)
      clear hb7 H6 k6 PB PE
      have PI := Lib.hid ((int_any A1 n1 c1 b wc (RB1.out.below HB7.out) k1 HX.out.1 (by omega) m1).mono fun e w' h => int_r h)
      unfold IntR at PI
      obtain ⟨bi, hbi⟩ : ∃ x, (intQ b).isSome = x := ⟨_, rfl⟩
      rw [hbi] at PI
      have HBI := Lib.hid hbi
      clear hbi
      go_wp2_with fail
      refine PI.out.mono ?_
      rintro e w8 ⟨⟨I1, x1, y1, rfl, o1⟩, hb8⟩
      have HO1 := Lib.hid o1
      have HB8 := Lib.hid (kp_call HB7.out hb8)
      clear o1 hb8 PI HB7
      go_upto_region 18 with (fail)
      go_cut [135] (fun s wx => s = .bool false ∧ Below w8.heap.size w8 wx)
      case first => as_aux_lemma =>
        cases bi with
        | false =>
          go_wp2_with fail
          go_meet
          exact ⟨rfl, Below.refl _ _⟩
        | true =>
          obtain ⟨l, hq⟩ := Option.isSome_iff_exists.1 HBI.out
          obtain ⟨hb1, hb2⟩ := int_back hq
          have HO := HO1.out
          rw [hq, Option.getD_some] at HO
          have hx1 : x1 ≤ 8192 := by have e1 := HO.len; have := trimZ_le b; have := HX.out; rw [hb2] at e1; omega
          have P1 := Lib.hid (putint_any I1 x1 y1 l w8 HO.rb HO.cap.1 HO.cap.2 (by omega) (by have := HO.cap.2; unfold maxLen at this; omega))
          rw [hb1] at P1
          clear hq hb1 HO1
          have HLL : Hid (l = trimZ b) := hb2
          clear hb2
          go_wp2_with fail
          refine P1.out.mono ?_
          rintro e w9 ⟨Q1, x2, y2, rfl, o2, hb9⟩
          have E1 := Lib.hid (eq_true Q1 A1 x2 y2 n1 c1 _ _ w9 o2.rb (RB1.out.below (kp_call HB8.out hb9)) rfl)
          have HO9 := HO.below hb9 (Nat.le_refl _)
          clear o2 HO
          go_wp2_with fail
          refine E1.out.mono ?_
          rintro e w' ⟨rfl, rfl⟩
          by_cases h0 : x1 = 0
          · subst h0
            go_wp2_with fail
            go_meet
            exact ⟨rfl, hb9⟩
          · obtain ⟨bb, off, d, rfl, _, hd, hc⟩ := HO9.rb.at_ (k := 0) (by omega)
            have hd0 : d.toNat ≠ 0 := by
              cases hl : l with
              | nil => rw [hl] at hd; cases hd
              | cons z r =>
                rw [hl] at hd
                injection hd with hd
                subst hd
                exact trimZ_head b z r (by rw [← HLL.out]; exact hl)
            have t2 : ((d.toNat : Int) == 0) = false := by simp; omega
            have i1 : (0 : Int) < (x1 : Int) := by omega
            have i2 : 0 < x1 := by omega
            have hc : w9.cell? ⟨bb, off, none⟩ = some (.int .u8 (d.toNat : Int)) := hc
            clear hd hd0 h0 HO9
            go_wp2_with fail
            go_meet
            exact ⟨rfl, hb9⟩
      case rest => as_aux_lemma =>
        obtain ⟨rfl, hb9⟩ := hcut
        have HB9 := Lib.hid (kp_call HB8.out hb9)
        clear hb9 HO1 HB8
        obtain ⟨_, _, _, _, hip, _⟩ := putI_case b
        have hpl : (putI b).length ≤ 8200 := by
          have h1 := trimZ_le b
          have h2 := HX.out
          unfold putI
          split
          · simp
          · rename_i d r hq
            rw [hq] at h1
            split <;> simp at h1 ⊢ <;> omega
        have HPL := Lib.hid hpl
        have HIP := Lib.hid hip
        clear hpl hip
        have P1 := Lib.hid (fun W (hw : Below w.heap.size w W) => putint_any A1 n1 c1 b W (RB1.out.below hw) k1 HX.out.1 (by omega) m1)
        go_wp2_with fail
        refine (P1.out _ HB9.out).mono ?_
        rintro e w10 ⟨Q1, x2, y2, rfl, o2, hb10⟩
        have hx2 : x2 ≤ 8200 := by have := o2.len; have := HPL.out; omega
        have PI := Lib.hid ((int_any Q1 x2 y2 _ w10 o2.rb o2.cap.1 o2.cap.2 (by omega) (by have := o2.cap.2; unfold maxLen at this; omega)).mono fun e w' h => int_r h)
        unfold IntR at PI
        rw [HIP.out, Option.isSome_some, Option.getD_some] at PI
        have HB10 := Lib.hid (kp_call HB9.out hb10)
        clear o2 hb10 HIP
        go_wp2_with fail
        refine PI.out.mono ?_
        rintro e w11 ⟨⟨I1, x1, y1, rfl, o1⟩, hb11⟩
        have hx1 : x1 ≤ 8192 := by have e1 := o1.len; have := trimZ_le b; have := HX.out; omega
        have P2 := Lib.hid (putint_any I1 x1 y1 _ w11 o1.rb o1.cap.1 o1.cap.2 (by omega) (by have := o1.cap.2; unfold maxLen at this; omega))
        rw [putI_trim] at P2
        have HB11 := Lib.hid (kp_call HB10.out hb11)
        clear o1 hb11 PI HB10 HB9
        go_wp2_with fail
        refine P2.out.mono ?_
        rintro e w12 ⟨Q2, x3, y3, rfl, o3, hb12⟩
        have HB12 := Lib.hid (kp_call HB11.out hb12)
        have HO3 := Lib.hid o3
        clear o3 hb12 P2 HB11
        go_wp2_with fail
        refine (P1.out _ HB12.out).mono ?_
        rintro e w13 ⟨Q3, x4, y4, rfl, o4, hb13⟩
        have E1 := Lib.hid (eq_true Q2 Q3 x3 y3 x4 y4 _ _ w13 (HO3.out.below hb13 (Nat.le_refl _)).rb o4.rb rfl)
        have HB13 := Lib.hid (kp_call HB12.out hb13)
        clear o4 hb13 HO3 HB12 P1
        go_wp2_with fail
        refine E1.out.mono ?_
        rintro e w' ⟨rfl, rfl⟩
        have PO := Lib.hid ((oid_any A1 n1 c1 b w13 (RB1.out.below HB13.out) k1 (by omega) m1).mono fun e w' h => oid_r h)
        unfold OidR at PO
        obtain ⟨bo, hbo⟩ : ∃ x, (oidQ b).isSome = x := ⟨_, rfl⟩
        rw [hbo] at PO
        have HBO := Lib.hid hbo
        clear hbo
        clear E1 HPL
        go_wp2_with fail
        refine PO.out.mono ?_
        rintro e w14 ⟨⟨I1, x1, y1, rfl, o1⟩, hb14⟩
        have HO1 := Lib.hid o1
        have HB14 := Lib.hid (kp_call HB13.out hb14)
        clear o1 hb14 PO HB13
        go_upto_region 24 with (fail)
        go_cut [164] (fun s wx => s = .bool false ∧ Below w14.heap.size w14 wx)
        case first => as_aux_lemma =>
          cases bo with
          | false =>
            go_wp2_with fail
            go_meet
            exact ⟨rfl, Below.refl _ _⟩
          | true =>
            obtain ⟨l, hq⟩ := Option.isSome_iff_exists.1 HBO.out
            have HO := HO1.out l hq
            obtain ⟨f1, f2⟩ := oid_facts hq
            have hx1 : x1 ≤ 8193 := by have e1 := HO.len; simp at e1; have := HX.out; omega
            have P1 := Lib.hid (putoid_any I1 x1 y1 l w14 (rn_of HO f2) HO.cap.1 (by omega) (by have := HO.cap.2; unfold maxLen at this; omega))
            rw [oid_back hq] at P1
            clear hq HO1 HO f1 f2
            go_wp2_with fail
            refine P1.out.mono ?_
            rintro e w15 ⟨Q1, x2, y2, rfl, o2, hb15⟩
            have E1 := Lib.hid (eq_true Q1 A1 x2 y2 n1 c1 _ _ w15 o2.rb (RB1.out.below (kp_call HB14.out hb15)) rfl)
            clear o2 P1
            go_wp2_with fail
            refine E1.out.mono ?_
            rintro e w' ⟨rfl, rfl⟩
            go_wp2_with fail
            go_meet
            exact ⟨rfl, hb15⟩
        case rest => as_aux_lemma =>
          obtain ⟨rfl, hb15⟩ := hcut
          have HB15 := Lib.hid (kp_call HB14.out hb15)
          clear hb15 HO1 HB14
          have hxs : ∀ x ∈ xs, x < 18446744073709551616 := fun x hx => by
            obtain ⟨j, hj, rfl⟩ := List.getElem_of_mem hx
            exact RN3.out.lt j _ (List.getElem?_eq_getElem hj)
          have hpl := putoid_len xs hxs
          have HXS := Lib.hid hxs
          have HPL := Lib.hid hpl
          have hxl : xs.length = n3 := RN3.out.len
          have P1 := Lib.hid (putoid_any A3 n3 c3 xs wc (RN3.out.below HB15.out (Nat.le_refl _)) k3 (by omega) m3)
          have HXL := Lib.hid hxl
          clear hxs hpl hxl
          go_wp2_with fail
          refine P1.out.mono ?_
          rintro e w16 ⟨Q1, x2, y2, rfl, o2, hb16⟩
          have hx2 : x2 ≤ 1000 := by have := o2.len; have := HPL.out; have := HXL.out; omega
          have HX2 := Lib.hid o2.len
          have PO := Lib.hid ((oid_any Q1 x2 y2 _ w16 o2.rb o2.cap.1 (by omega) (by have := o2.cap.2; unfold maxLen at this; omega)).mono fun e w' h => oid_r h)
          unfold OidR at PO
          obtain ⟨bp, hbp⟩ : ∃ x, (oidQ (putoidQ xs)).isSome = x := ⟨_, rfl⟩
          rw [hbp] at PO
          have HBP := Lib.hid hbp
          clear hbp
          have HB16 := Lib.hid (kp_call HB15.out hb16)
          clear o2 hb16 P1 HB15
          go_wp2_with fail
          refine PO.out.mono ?_
          rintro e w17 ⟨⟨I1, x1, y1, rfl, o1⟩, hb17⟩
          have HO1 := Lib.hid o1
          have HB17 := Lib.hid (kp_call HB16.out hb17)
          clear o1 hb17 PO HB16
          go_upto_region 28 with (fail)
          go_cut [184] (fun s wx => s = .bool false ∧ Below w17.heap.size w17 wx)
          case first => as_aux_lemma =>
            by_cases h0 : x2 = 0
            · subst h0
              go_wp2_with fail
              go_meet
              exact ⟨rfl, Below.refl _ _⟩
            · have hne : putoidQ xs ≠ [] := fun e => h0 (by rw [← HX2.out, e]; rfl)
              have hq := oid_put HXS.out hne
              have t1 : bp = true := by rw [← HBP.out, hq]; rfl
              have HO := HO1.out xs hq
              have hxn : x1 = n3 := by have e1 := HO.len; simp at e1; have := HXL.out; omega
              subst hxn
              have E1 := Lib.hid (eqn_any I1 A3 x1 x1 y1 c3 xs xs w17 (rn_of HO HXS.out) (RN3.out.below HB17.out (Nat.le_refl _)) (by omega) (by omega))
              rw [beq_self_eq_true] at E1
              subst t1
              have i1 : (0 : Int) < (x2 : Int) := by omega
              clear hq HO1 HO hne h0
              go_wp2_with fail
              refine E1.out.mono ?_
              rintro e w' ⟨rfl, k, rfl⟩
              go_wp2_with fail
              go_meet
              exact ⟨rfl, kp_drewN (Below.refl _ _) _⟩
          case rest => as_aux_lemma =>
            obtain ⟨rfl, hb18⟩ := hcut
            have HB18 := Lib.hid (kp_call HB17.out hb18)
            clear hb18 HO1 HB17 HX2 HPL HXS HXL
            have AL := all_any A2 n2 c2 m wc (RB2.out.below HB18.out) k2 (by omega) m2
            cases hq : allQ m with
            | none =>
              have C : Hid (Calls Try.prog 10 #[.slice A2 n2 c2] wc fun e w' => e = .returned (.tuple #[.slice none 0 0, .int .i64 9]) ∧ Below wc.heap.size wc w') := AL.mono fun e w' hp => by
                unfold AllPost at hp; rw [hq] at hp; exact hp
              clear AL hq
              go_wp2_with fail
              refine C.out.mono ?_
              rintro e w19 ⟨rfl, hb19⟩
              have HB19 := Lib.hid (kp_call HB18.out hb19)
              clear hb19
              go_wp2_with fail
              refine (W.out _).mono ?_
              rintro e w' ⟨rfl, hb⟩
              go_wp2
              go_ret
              exact ⟨rfl, kp_call HB19.out hb⟩
            | some l =>
              have C : Hid (Calls Try.prog 10 #[.slice A2 n2 c2] wc fun e w' => (∃ (A : Option Addr) (n c : Nat) (vs : List EV), e = .returned (.tuple #[.slice A n c, .int .i64 0]) ∧ vs.map (fun v => (v.raw, v.body)) = l ∧ OwnR w' wc.heap.size 43 3 A n c (vs.flatMap EV.cells) ∧ Evs w' wc.heap.size vs) ∧ Below wc.heap.size wc w') := AL.mono fun e w' hp => by
                unfold AllPost at hp; rw [hq] at hp; exact hp
              have HSQ := Lib.hid (setQ_sorted m l hq)
              have HLE := Lib.hid (allQ_elms _ m l (Nat.le_refl _) hq).2
              have HLL : Hid (l.length ≤ 8192) := by
                have := allQ_len _ m l (Nat.le_refl _) hq
                have := HX.out
                unfold Hid; omega
              clear AL hq
              go_wp2_with fail
              refine C.out.mono ?_
              rintro e w19 ⟨⟨LA, n, cc, vs, rfl, hvs, hown, hev⟩, hb19⟩
              have hvn : vs.length = n := by have := hown.len; rw [ecells_flat] at this; omega
              have hvl : n ≤ 8192 := by have := congrArg List.length hvs; simp at this; have := HLL.out; omega
              have HVN := Lib.hid hvn
              have HOW := Lib.hid hown.reads
              have HRB : Hid (∀ v ∈ vs, RB w19 v.ra v.rn v.raw) := fun v hv => (hev.pair hv).2.rb
              have HTX : Hid ((vs.map rawOwn).map txt = l.map Prod.fst) := by
                unfold Hid
                rw [← hvs, List.map_map, List.map_map]
                rfl
              have HB19 := Lib.hid (kp_call HB18.out hb19)
              clear hvn hvs hown hev hb19 C HB18
              go_wp2
              go_loopw [16, 17] (fun v i wl => ∃ (k : Nat) (A4 : Option Addr) (c4 : Nat), v = .slice A4 k c4 ∧ i = .int .i64 (k : Int) ∧ k ≤ n ∧ OwnR wl w19.heap.size 22 1 A4 k c4 (((vs.map rawOwn).take k).map Own1.val) ∧ Below w19.heap.size w19 wl) (fun _ i _ => n - (intOf i).toNat)
              case atStart => exact ⟨0, none, 0, rfl, rfl, Nat.zero_le _, OwnR.nil _ _ _ _, Below.refl _ _⟩
              case round =>
                obtain ⟨k, A4, c4, rfl, rfl, hk, ho4, hb⟩ := hrel
                by_cases hkn : k < n
                · as_aux_lemma =>
                  obtain ⟨v, hv⟩ : ∃ v, vs[k]? = some v := ⟨_, List.getElem?_eq_getElem (by rw [HVN.out]; exact hkn)⟩
                  obtain ⟨_, _, e1⟩ := eflat_get vs v k hv
                  obtain ⟨bb, off, rfl, hbb, hc0⟩ := HOW.out.at_ e1
                  rw [← Nat.add_assoc] at hc0
                  have hc1 := kp_cell hb hc0
                  have HS : Hid ((vs.map rawOwn).take (k + 1) = (vs.map rawOwn).take k ++ [rawOwn v]) := take_snoc1 (by rw [List.getElem?_map, hv]; rfl)
                  have hmax : k + 1 ≤ maxLen := by unfold maxLen; omega
                  have hsz := hb.size
                  have HAL : Hid ((wr.alloc (.cells #[.slice v.ra v.rn v.rc] 22)).heap[wr.heap.size]? = some (.cells #[.slice v.ra v.rn v.rc] 22)) := has_new _ _
                  have HOW4 := Lib.hid (ho4.alloc (.cells #[.slice v.ra v.rn v.rc] 22))
                  have H1 : Hid (∀ u ∈ (#[.slice v.ra v.rn v.rc] : Array Value).toList, u.oneCell' = true) := by intro u hu; simp at hu; subst hu; rfl
                  have HB := Lib.hid (kp_alloc hb (.cells #[.slice v.ra v.rn v.rc] 22))
                  clear hv hc0 ho4 e1
                  go_wp2_with (at_builtin; refine wpList_appL bss_row2 _ _ rfl rfl rfl w19.heap.size A4 k c4 _ rfl HOW4.out wr.heap.size 1 1 #[.slice v.ra v.rn v.rc] _ rfl HAL.out rfl H1.out hmax (by omega) (by simp; omega) ?_)
                  intro V' c' w5 ho5 hg5
                  have HF : Hid (OwnR w5 w19.heap.size 22 1 V' (k + 1) c' (((vs.map rawOwn).take (k + 1)).map Own1.val) ∧ Below w19.heap.size w19 w5) := ⟨by
                    rw [HS.out, List.map_append, List.map_take, List.map_map]
                    exact ho5, HB.out.grown hg5 (by simp; omega) (fun g hg => (HOW4.out.blk_lt hg).1)⟩
                  clear ho5 hg5
                  go_wp2
                  obtain ⟨r1, r2⟩ := HF.out
                  go_roundw
                  case rel => exact ⟨k + 1, V', c', rfl, by go_num, by omega, r1, r2⟩
                  case measure => simp [intOf]; omega
                · obtain rfl : k = n := by omega
                  have hdl : (vs.map rawOwn).length = k := by rw [List.length_map]; exact HVN.out
                  rw [List.take_of_length_le (by rw [hdl]; exact Nat.le_refl _)] at ho4
                  have hP : PR wr A4 k (vs.map rawOwn) := ⟨hdl, ho4.reads, fun x hx => by
                    obtain ⟨v, hv, rfl⟩ := List.mem_map.1 hx
                    exact (HRB.out v hv).below hb⟩
                  have hfl : (flat (vs.map rawOwn)).length ≤ 8192 := by
                    unfold flat
                    rw [HTX.out, HLE.out]
                    have := HX.out
                    omega
                  have S := Lib.hid (sets_any A4 k c4 _ wr hP (by omega) (by omega))
                  have hsl : ((sortQ (l.map Prod.fst)).flatten).length ≤ 8192 := by
                    have e1 := ((sortQ_perm (l.map Prod.fst)).flatten).length_eq
                    rw [e1, HLE.out]
                    have := HX.out
                    omega
                  rw [HTX.out] at S
                  have HSL := Lib.hid hsl
                  have HBR := Lib.hid (kp_call HB19.out hb)
                  clear hdl ho4 hP hfl hsl hb
                  go_wp2_with fail
                  refine S.out.mono ?_
                  rintro e w20 ⟨Q1, x2, y2, rfl, o2, hb20⟩
                  have hx2 : x2 ≤ 8192 := by have := o2.len; have := HSL.out; omega
                  have ST := Lib.hid (set_any Q1 x2 y2 _ w20 o2.rb o2.cap.1 (by omega) (by have := o2.cap.2; unfold maxLen at this; omega))
                  rw [HSQ.out] at ST
                  have HB20 := Lib.hid (kp_call HBR.out hb20)
                  clear o2 hb20 S HBR
                  go_wp2_with fail
                  refine ST.out.mono ?_
                  rintro e w21 ⟨rfl, hb21⟩
                  have HB21 := Lib.hid (kp_call HB20.out hb21)
                  clear hb21 HB20
                  go_wp2_with fail
                  refine (W.out _).mono ?_
                  rintro e w' ⟨rfl, hb⟩
                  go_wp2
                  go_ret
                  exact ⟨rfl, kp_call HB21.out hb⟩
end Go.Proofs.Ytamkbedbkjndgaa
