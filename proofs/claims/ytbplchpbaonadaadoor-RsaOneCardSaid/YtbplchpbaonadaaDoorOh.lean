/-
  nat: the document's own: Div.
-/
import Derived.Test.YtbplchpbaonadaaDoorOg
namespace Go.Proofs.YtbplchpbaonadaaDoor
open Go.RowKit Go
set_option linter.unusedVariables false
set_option linter.unusedSimpArgs false
set_option maxRecDepth 100000
/-- Two numbers that are read, and an error. -/
def NumD3 (w : World) (r : (List Nat × List Nat) × Nat) (e : Ending) (w' : World) : Prop :=
  ∃ A n c B m d, e = .returned (.tuple #[.slice A n c, .slice B m d, .int .i64 (r.2 : Int)]) ∧ RU w' A n r.1.1 ∧ n ≤ c ∧ c ≤ 9223372036854775807 ∧ n ≤ 1000 ∧ RU w' B m r.1.2 ∧ m ≤ d ∧ d ≤ 9223372036854775807 ∧ m ≤ 1000 ∧ Below w.heap.size w w'
theorem NumD3.err {w w' : World} {k : Nat} {e : Ending} (he : e = .returned (.tuple #[.slice none 0 0, .slice none 0 0, .int .i64 (k : Int)])) (hb : Below w.heap.size w w') : NumD3 w (([], []), k) e w' :=
  ⟨_, _, _, _, _, _, he, RU.nil _, Nat.le_refl _, by omega, by omega, RU.nil _, Nat.le_refl _, by omega, by omega, hb⟩
/-- The state of the division behind i rounds from the end. -/
structure DJ (w : World) (G K n m1 X Y i : Nat) (Q R : List Nat) (wl : World) : Prop where
  q : BlkU wl G Q
  ql : Q.length = n
  qm : Lim Q
  r : BlkU wl K R
  rl : R.length = m1
  rm : Lim R
  vr : val R = X / 2 ^ i % Y
  vq : val Q = X / 2 ^ i / Y * 2 ^ i
  bel : Below w.heap.size w wl
/-- The rest, k limbs of it gone to the left. -/
structure DS (w : World) (G K m1 bit : Nat) (Q R : List Nat) (k : Nat) (R2 : List Nat) (b : Nat) (wl : World) : Prop where
  q : BlkU wl G Q
  r : BlkU wl K R2
  rl : R2.length = m1
  rm : Lim R2
  eq : val (R2.take k) + b * 4294967296 ^ k = val (R.take k) * 2 + bit
  same : ∀ t, k ≤ t → R2.getD t 0 = R.getD t 0
  bel : Below w.heap.size w wl
/-- The rest, less the divisor in k limbs. -/
structure DB (w : World) (G K m1 : Nat) (Q R y : List Nat) (k : Nat) (R2 : List Nat) (b : Nat) (wl : World) : Prop where
  q : BlkU wl G Q
  r : BlkU wl K R2
  rl : R2.length = m1
  rm : Lim R2
  eq : val (R2.take k) + val (y.take k) = val (R.take k) + b * 4294967296 ^ k
  same : ∀ t, k ≤ t → R2.getD t 0 = R.getD t 0
  bel : Below w.heap.size w wl
theorem shift_out (V b T X bit M : Nat) (h : V + b * T = X * 2 + bit) (hX : X < M) (hb : bit ≤ 1) (hT : 2 * M ≤ T) : b = 0 ∧ V = 2 * X + bit := by
  rcases Nat.eq_zero_or_pos b with h1 | h1
  · subst h1
    omega
  · have h2 : 1 * T ≤ b * T := Nat.mul_le_mul_right _ h1
    omega
theorem DJ.start {w wl : World} {G K n m1 X Y : Nat} (q : BlkU wl G (List.replicate n 0)) (r : BlkU wl K (List.replicate m1 0)) (hX : X < 4294967296 ^ n) (hY : 0 < Y) (bel : Below w.heap.size w wl) : DJ w G K n m1 X Y (32 * n) (List.replicate n 0) (List.replicate m1 0) wl := by
  have h0 : X / 2 ^ (32 * n) = 0 := by
    refine Nat.div_eq_of_lt ?_
    rw [Nat.pow_mul]
    exact hX
  exact ⟨q, by simp, Lim.rep n, r, by simp, Lim.rep m1, by rw [val_zero, h0, Nat.zero_mod], by rw [val_zero, h0, Nat.zero_div, Nat.zero_mul], bel⟩
set_option maxHeartbeats 16000000 in
theorem dDiv_any (A B : Option Addr) (n c m d : Nat) (x y : List Nat) (w : World) (hA : RU w A n x) (hB : RU w B m y) (hn : n ≤ 300) (hm : m ≤ 300) :
    Calls Tryd.prog 74 #[.slice A n c, .slice B m d] w (NumD3 w (divQ x y)) := by
  have RA := Lib.hid (dright_any A n c x w hA (by omega))
  have RB := Lib.hid (dright_any B m d y w hB (by omega))
  have HA := Lib.hid hA
  have HB := Lib.hid hB
  cases hr : rightB x with
  | false =>
    rw [show divQ x y = (([], []), 1) by unfold divQ; rw [hr]; rfl]
    rw [hr] at RA
    clear hr hA hB
    go_enter Tryd.func74, Tryd.ntmps74
    go_wp2_with fail
    refine RA.out.mono ?_
    rintro e w' ⟨rfl, rfl⟩
    clear RA
    go_wp2
    go_ret3
    exact NumD3.err rfl (Below.refl _ _)
  | true =>
    cases hs : rightB y with
    | false =>
      rw [show divQ x y = (([], []), 1) by unfold divQ; rw [hr, hs]; rfl]
      rw [hr] at RA
      rw [hs] at RB
      clear hr hs hA hB
      go_enter Tryd.func74, Tryd.ntmps74
      go_wp2_with fail
      refine RA.out.mono ?_
      rintro e w' ⟨rfl, rfl⟩
      clear RA
      go_wp2_with fail
      refine RB.out.mono ?_
      rintro e w' ⟨rfl, rfl⟩
      clear RB
      go_wp2
      go_ret3
      exact NumD3.err rfl (Below.refl _ _)
    | true =>
      by_cases hm0 : m = 0
      · rw [show divQ x y = (([], []), 1) by unfold divQ; rw [hr, hs, hB.len, hm0]; rfl]
        rw [hr] at RA
        rw [hs] at RB
        have i1 : ((m : Int) == 0) = true := by simp; omega
        have HM := Lib.hid hm0
        clear hr hs hA hB hm0
        go_enter Tryd.func74, Tryd.ntmps74
        go_wp2_with fail
        refine RA.out.mono ?_
        rintro e w' ⟨rfl, rfl⟩
        clear RA
        go_wp2_with fail
        refine RB.out.mono ?_
        rintro e w' ⟨rfl, rfl⟩
        clear RB
        go_wp2
        go_ret3
        exact NumD3.err rfl (Below.refl _ _)
      · rw [show divQ x y = ((num (val x / val y), num (val x % val y)), 0) by unfold divQ; rw [hr, hs, hB.len, show (m == 0) = false by simp; omega]; rfl]
        obtain ⟨rx, tx⟩ := (rightB_iff x).1 hr
        obtain ⟨ry, ty⟩ := (rightB_iff y).1 hs
        have hyp := tip_pos y ty (by intro e; have := hB.len; rw [e] at this; simp at this; omega)
        have hY0 : 0 < val y := Nat.lt_of_lt_of_le (Nat.pow_pos (by decide)) hyp
        have hyl := val_lt y hB.lim
        rw [hB.len] at hyl
        have hxl := val_lt x hA.lim
        rw [hA.len] at hxl
        obtain ⟨X, hX⟩ : ∃ X, val x = X := ⟨_, rfl⟩
        obtain ⟨Y, hY⟩ : ∃ Y, val y = Y := ⟨_, rfl⟩
        rw [hX] at hxl ⊢
        rw [hY] at hyl hY0 ⊢
        have i1 : ((m : Int) == 0) = false := by simp; omega
        obtain ⟨m1, hm1⟩ : ∃ m1, m + 1 = m1 := ⟨_, rfl⟩
        obtain ⟨N, hN⟩ : ∃ N, 32 * n = N := ⟨_, rfl⟩
        have e1 : IntKind.i64.wrap ((m : Int) + 1) = (m1 : Int) := by rw [show (m : Int) + 1 = m1 by omega]; exact IntWalk.i64_in _ (by omega)
        have e2 : IntKind.i64.wrap (32 * (n : Int)) = (N : Int) := by rw [show 32 * (n : Int) = N by omega]; exact IntWalk.i64_in _ (by omega)
        have e3 : IntKind.i64.wrap ((N : Int) - 1) = (N : Int) - 1 := IntWalk.i64_in _ (by omega)
        have hm301 : m1 ≤ 301 := by omega
        have hN9 : N ≤ 9600 := by omega
        have hmpos : 0 < m := by omega
        rw [hr] at RA
        rw [hs] at RB
        have HXY := Lib.hid (show _ ∧ _ ∧ _ ∧ _ ∧ _ from ⟨hX, hY, hY0, hyl, hxl⟩)
        have HMN := Lib.hid (And.intro hm1 hN)
        clear hr hs hA hB hm0 hyp tx ty rx ry hX hY hY0 hyl hxl hm1 hN
        go_enter Tryd.func74, Tryd.ntmps74
        go_wp2_with fail
        refine RA.out.mono ?_
        rintro e w' ⟨rfl, rfl⟩
        clear RA
        go_wp2_with fail
        refine RB.out.mono ?_
        rintro e w' ⟨rfl, rfl⟩
        clear RB
        go_wp2_with (refine wpList_mkU _ _ rfl rfl _ _ _ _ n rfl rfl rfl rfl (by omega) ?_)
        intro w1 hblk hb1
        obtain ⟨G, hG⟩ : ∃ G, w.heap.size = G := ⟨_, rfl⟩
        have hwG : w.heap.size ≤ G := by omega
        rw [hG] at hblk ⊢
        have H1 : Hid (BlkU w1 G (List.replicate n 0) ∧ Below w.heap.size w w1) := ⟨hblk, hb1⟩
        clear hblk hb1 hG
        go_wp2_with (refine wpList_mkU _ _ rfl rfl _ _ _ _ m1 rfl rfl rfl rfl (by omega) ?_)
        intro w2 hblk hb2
        obtain ⟨K, hK⟩ : ∃ K, w1.heap.size = K := ⟨_, rfl⟩
        have hGK : G < K := by have := H1.out.1.lt; omega
        rw [hK] at hblk ⊢
        have H2 : Hid (DJ w G K n m1 X Y N (List.replicate n 0) (List.replicate m1 0) w2) := by
          rw [← HMN.out.2]
          exact DJ.start (H1.out.1.below hb2) hblk HXY.out.2.2.2.2 HXY.out.2.2.1 (kp_call H1.out.2 hb2)
        clear hblk hb2 H1 hK
        go_wp2
        go_loopw [9] (fun vi wl => ∃ (i : Nat) (Q R : List Nat), vi = .int .i64 ((i : Int) - 1) ∧ i ≤ N ∧ Hid (DJ w G K n m1 X Y i Q R wl)) (fun vi _ => (intOf vi + 1).toNat)
        case atStart => exact ⟨N, _, _, rfl, Nat.le_refl _, H2⟩
        case round =>
          obtain ⟨i, Q, R, rfl, hi, HK⟩ := hrel
          clear H2
          rcases i with _ | j
          · as_aux_lemma =>
            have j1 : ¬ ((0 : Nat) : Int) - 1 ≥ 0 := by omega
            have hvq := HK.out.vq
            have hvr := HK.out.vr
            rw [Nat.pow_zero, Nat.div_one, Nat.mul_one] at hvq
            rw [Nat.pow_zero, Nat.div_one] at hvr
            have RQ := HK.out.q.ru HK.out.qm 0 n (by rw [HK.out.ql]; omega)
            rw [List.drop_zero, take_all (by rw [HK.out.ql]; omega)] at RQ
            have RR := HK.out.r.ru HK.out.rm 0 m1 (by rw [HK.out.rl]; omega)
            rw [List.drop_zero, take_all (by rw [HK.out.rl]; omega)] at RR
            have TQ := dtrim_any (some ⟨G, 0, none⟩) n n Q wr RQ (Nat.le_refl _) (by omega) (by omega)
            have TR := fun W (h : Below wr.heap.size wr W) => dtrim_any (some ⟨K, 0, none⟩) m1 m1 R W (RR.below h) (Nat.le_refl _) (by omega) (by omega)
            rw [hvq] at TQ
            rw [hvr] at TR
            have TQ := Lib.hid TQ
            have TR := Lib.hid TR
            have HBE := Lib.hid HK.out.bel
            clear hvq hvr RQ RR HK
            go_wp2_with fail
            refine TQ.out.mono ?_
            rintro e w3 ⟨A3, k3, d3, rfl, r3, l3, p3, q3, hb3⟩
            have R3 := Lib.hid r3
            have B3 := Lib.hid hb3
            clear TQ r3 hb3
            go_wp2_with fail
            refine (TR.out w3 B3.out).mono ?_
            rintro e w4 ⟨A4, k4, d4, rfl, r4, l4, p4, q4, hb4⟩
            have HF : Hid (RU w4 A3 k3 (num (X / Y)) ∧ RU w4 A4 k4 (num (X % Y)) ∧ Below w.heap.size w w4) := ⟨R3.out.below hb4, r4, kp_call (kp_call HBE.out B3.out) hb4⟩
            clear TR r4 hb4 R3 B3 HBE
            go_wp2
            go_ret3
            exact ⟨A3, k3, d3, A4, k4, d4, rfl, HF.out.1, p3, q3, by omega, HF.out.2.1, p4, q4, by omega, HF.out.2.2⟩
          · as_aux_lemma =>
            have e4 : (((j + 1 : Nat) : Int) - 1) = (j : Int) := by omega
            rw [e4]
            clear e4
            have hNN := HMN.out
            obtain ⟨k, hk⟩ : ∃ k, j / 32 = k := ⟨_, rfl⟩
            obtain ⟨t, ht⟩ : ∃ t, j % 32 = t := ⟨_, rfl⟩
            have hkn : k < n := by omega
            have hbit := bit_of x HA.out.lim j
            rw [hk, ht, HXY.out.1] at hbit
            obtain ⟨bx, ox, rfl, hbx, cx⟩ := HA.out.at_ (j := k) hkn
            have cx1 := (HK.out.bel.cell (p := ⟨bx, ox + k, none⟩) hbx).trans cx
            have hv32 := HA.out.lim.getD k
            obtain ⟨v, hv⟩ : ∃ v, x.getD k 0 = v := ⟨_, rfl⟩
            rw [hv] at cx1 hbit hv32
            obtain ⟨u, hu⟩ : ∃ u, v / 2 ^ t = u := ⟨_, rfl⟩
            rw [hu] at hbit
            have huv : u ≤ v := by rw [← hu]; exact Nat.div_le_self _ _
            obtain ⟨b0, hb0⟩ : ∃ b0, u % 2 = b0 := ⟨_, rfl⟩
            rw [hb0] at hbit
            have hb01 : b0 ≤ 1 := by omega
            have hand : bits .and .u32 (u : Int) 1 = (b0 : Int) := by
              have h1 := u32_and_nat u 1 (by omega) (by decide)
              rw [Nat.and_one_is_mod, hb0] at h1
              exact h1
            have e5 : (j : Int).tdiv 32 = (k : Int) := by rw [Int.tdiv_eq_ediv_of_nonneg (by omega)]; omega
            have e6 : (j : Int) / 32 = (k : Int) := by omega
            have e7 : (j : Int).tmod 32 = (t : Int) := by rw [Int.tmod_eq_emod_of_nonneg (by omega)]; omega
            have e8 : (j : Int) % 32 = (t : Int) := by omega
            have e9 : IntKind.i64.wrap (k : Int) = (k : Int) := IntWalk.i64_in _ (by omega)
            have e10 : min t 32 = t := by omega
            have e11 : (v : Int) / 2 ^ t = (u : Int) := by
              rw [show (v : Int) / 2 ^ t = ((v / 2 ^ t : Nat) : Int) by push_cast; rfl, hu]
            have e12 : IntKind.i64.wrap ((j : Int) - 1) = (j : Int) - 1 := IntWalk.i64_in _ (by omega)
            have j0 : (j : Int) ≥ 0 := by omega
            have j1 : (0 : Int) ≤ (k : Int) := by omega
            have j2 : (k : Int) < (n : Int) := by omega
            have j3 : (0 : Int) ≤ (t : Int) := by omega
            have DBIT := Lib.hid (div_bit X Y j b0 HXY.out.2.2.1 hbit.symm)
            have HKT := Lib.hid (And.intro hk ht)
            have H3 : Hid (DS w G K m1 b0 Q R 0 R b0 wr) := ⟨HK.out.q, HK.out.r, HK.out.rl, HK.out.rm, by simp [val], fun _ _ => rfl, HK.out.bel⟩
            have HVR := Lib.hid (show _ ∧ _ ∧ _ ∧ _ ∧ _ from ⟨HK.out.ql, HK.out.qm, HK.out.vr, HK.out.vq, HK.out.rl⟩)
            clear hk ht hbit hv hu hb0 cx hNN HK hbx
            go_wp2
            go_loopw [10, 11] (fun vb vk wl => ∃ (k2 : Nat) (R2 : List Nat) (b : Nat), vb = .int .u32 (b : Int) ∧ vk = .int .i64 (k2 : Int) ∧ k2 ≤ m1 ∧ b ≤ 1 ∧ Hid (DS w G K m1 b0 Q R k2 R2 b wl)) (fun _ vk _ => m1 - (intOf vk).toNat)
            case atStart => exact ⟨0, R, b0, rfl, rfl, Nat.zero_le _, hb01, H3⟩
            case round =>
              obtain ⟨k2, R2, b, rfl, rfl, hk2, hb, HS⟩ := hrel
              clear H3
              by_cases hlt : k2 < m1
              · as_aux_lemma =>
                have i2 : (k2 : Int) < (m1 : Int) := by omega
                have i3 : (0 : Int) ≤ (k2 : Int) := by omega
                have g1 : IntKind.i64.wrap ((k2 : Int) + 1) = (k2 : Int) + 1 := IntWalk.i64_in _ (by omega)
                have f1 := HS.out.q
                have f2 := HS.out.r
                have f3 := HS.out.rl
                have f4 := HS.out.rm
                have f5 := HS.out.eq
                have f6 := HS.out.same
                have f7 := HS.out.bel
                have cz := f2.cell (j := k2) (by omega)
                have fz := f2.free k2
                have ha32 := f4.getD k2
                have hsame := f6 k2 (Nat.le_refl _)
                have ts := fun r => val_take_set R2 k2 r (by omega)
                have tr := val_take1 R k2
                obtain ⟨a, hae⟩ : ∃ a, R2.getD k2 0 = a := ⟨_, rfl⟩
                rw [hae] at cz ha32 hsame
                rw [← hsame] at tr
                obtain ⟨r0, hr0⟩ : ∃ r0, a * 2 % 4294967296 = r0 := ⟨_, rfl⟩
                obtain ⟨q, hq⟩ : ∃ q, a * 2 / 4294967296 = q := ⟨_, rfl⟩
                have hst := left_step2 (val (R2.take k2)) (val (R.take k2)) a (4294967296 ^ k2) 2 b b0 f5
                rw [hr0, hq] at hst
                obtain ⟨r, hr⟩ : ∃ r, r0 + b = r := ⟨_, rfl⟩
                rw [hr] at hst
                have hor : bits .or .u32 (r0 : Int) (b : Int) = (r : Int) := by
                  rw [u32_or_nat _ _ (by omega) (by omega)]
                  have h1 := or_sum (a % 2147483648) b 1 (by omega)
                  rw [show a % 2147483648 * 2 ^ 1 = r0 by omega, hr] at h1
                  rw [h1]
                have s1 : IntKind.u32.wrap ((a : Int) * 2) = (r0 : Int) := by rw [← hr0]; show ((a : Int) * 2) % 4294967296 = _; omega
                have s2 : (a : Int) * 2 % 4294967296 = (r0 : Int) := by omega
                have s3 : (a : Int) / 2147483648 = (q : Int) := by omega
                have s4 : IntKind.u32.wrap ((a : Int) * 2 ^ 1) = (r0 : Int) := by rw [← hr0]; show ((a : Int) * 2 ^ 1) % 4294967296 = _; omega
                have s5 : (a : Int) * 2 ^ 1 % 4294967296 = (r0 : Int) := by omega
                have s6 : (a : Int) / 2 ^ 31 = (q : Int) := by omega
                have hr32 : r < 4294967296 := by omega
                have hq1 : q ≤ 1 := by omega
                have HN : Hid (DS w G K m1 b0 Q R (k2 + 1) (R2.set k2 r) q (wr.setCell ⟨K, k2, none⟩ (.int .u32 (r : Int)))) :=
                  ⟨f1.far (by omega), f2.set k2 r, by rw [List.length_set]; exact f3, f4.set k2 hr32, by rw [ts, tr, Nat.pow_succ]; exact hst, fun t0 ht0 => by rw [getD_set_far _ _ _ _ (by omega)]; exact f6 t0 (by omega), kp_set f7 (by omega)⟩
                clear f1 f2 f3 f4 f5 f6 f7 hsame ts tr hae hr0 hq hst hr HS
                go_wp2
                go_roundw
                case rel => exact ⟨k2 + 1, _, q, rfl, by go_num, by omega, hq1, HN⟩
                case measure => simp [intOf]; omega
              · as_aux_lemma =>
                have i2 : ¬ (k2 : Int) < (m1 : Int) := by omega
                have hkm : k2 = m1 := by omega
                have hmm := HMN.out.1
                have f5 := HS.out.eq
                rw [hkm, take_all (by rw [HS.out.rl]; omega), take_all (by rw [HVR.out.2.2.2.2]; omega)] at f5
                have hmod := Nat.mod_lt (X / 2 ^ (j + 1)) HXY.out.2.2.1
                have hYl := HXY.out.2.2.2.1
                have f6 := shift_out (val R2) b (4294967296 ^ m1) (val R) b0 (4294967296 ^ m) f5 (by rw [HVR.out.2.2.1]; omega) hb01 (by rw [← hmm, Nat.pow_succ]; omega)
                have f7 := f6.2
                rw [HVR.out.2.2.1] at f7
                have RR := HS.out.r.ru HS.out.rm 0 m1 (by rw [HS.out.rl]; omega)
                rw [List.drop_zero, take_all (by rw [HS.out.rl]; omega)] at RR
                have AH := ahead_any (some ⟨K, 0, none⟩) B m m1 m1 d R2 y wr RR (HB.out.below HS.out.bel) hmm (by omega) hmpos
                rw [HXY.out.2.1] at AH
                have HS5 := Lib.hid (show _ ∧ _ ∧ _ ∧ _ ∧ _ from ⟨HS.out.q, HS.out.r, HS.out.rl, HS.out.rm, HS.out.bel⟩)
                have F7 := Lib.hid f7
                have HKM := Lib.hid hkm
                by_cases hY2 : Y ≤ val R2
                · as_aux_lemma =>
                  rw [decide_eq_true hY2] at AH
                  have AH := Lib.hid AH
                  have HDB := Lib.hid (DBIT.out.2.2 (by rw [← f7]; exact hY2))
                  have HY2 := Lib.hid hY2
                  have HS2 := Lib.hid HS.out.rl
                  clear f5 f6 f7 RR HS hkm hmm hmod hYl DBIT hY2
                  go_wp2_with fail
                  refine AH.out.mono ?_
                  rintro e w5 ⟨rfl, hb5⟩
                  have H5 : Hid (DB w G K m1 Q R2 y 0 R2 0 w5) := ⟨HS5.out.1.below hb5, HS5.out.2.1.below hb5, HS5.out.2.2.1, HS5.out.2.2.2.1, by simp [val], fun _ _ => rfl, kp_call HS5.out.2.2.2.2 hb5⟩
                  clear hb5 AH HS5
                  go_wp2
                  go_loopw [13, 14] (fun vb vk wl => ∃ (k3 : Nat) (R3 : List Nat) (bo : Nat), vb = .int .u64 (bo : Int) ∧ vk = .int .i64 (k3 : Int) ∧ k3 ≤ m1 ∧ bo ≤ 1 ∧ Hid (DB w G K m1 Q R2 y k3 R3 bo wl)) (fun _ vk _ => m1 - (intOf vk).toNat)
                  case atStart => exact ⟨0, R2, 0, rfl, rfl, Nat.zero_le _, by decide, H5⟩
                  case round =>
                    obtain ⟨k3, R3, bo, rfl, rfl, hk3, hbo, HT⟩ := hrel
                    clear H5
                    by_cases hlt3 : k3 < m1
                    · as_aux_lemma =>
                      have i2 : (k3 : Int) < (m1 : Int) := by omega
                      have i3 : (0 : Int) ≤ (k3 : Int) := by omega
                      have g1 : IntKind.i64.wrap ((k3 : Int) + 1) = (k3 : Int) + 1 := IntWalk.i64_in _ (by omega)
                      have f1 := HT.out.q
                      have f2 := HT.out.r
                      have f3 := HT.out.rl
                      have f4 := HT.out.rm
                      have f5 := HT.out.eq
                      have f6 := HT.out.same
                      have f7 := HT.out.bel
                      have cz := f2.cell (j := k3) (by omega)
                      have fz := f2.free k3
                      have ha32 := f4.getD k3
                      have hp32 := HB.out.lim.getD k3
                      have hsame := f6 k3 (Nat.le_refl _)
                      have ts := fun r => val_take_set R3 k3 r (by omega)
                      have tr := val_take1 R2 k3
                      have ty := val_take1 y k3
                      have LM := fun c => (dat_any B m d k3 y (wr.drewN c) (HB.out.below (kp_drewN f7 c)) (by omega) (by omega)).mono (fun e w' (h : e = .returned (.int .u64 ((y.getD k3 0 : Nat) : Int)) ∧ wr.drewN c = w') => (show e = .returned (.int .u64 ((y.getD k3 0 : Nat) : Int)) ∧ w' = wr.drewN c from ⟨h.1, h.2.symm⟩))
                      obtain ⟨a, hae⟩ : ∃ a, R3.getD k3 0 = a := ⟨_, rfl⟩
                      obtain ⟨p, hpe⟩ : ∃ p, y.getD k3 0 = p := ⟨_, rfl⟩
                      rw [hae] at cz ha32 hsame
                      rw [← hsame] at tr
                      rw [hpe] at hp32 ty
                      simp only [hpe] at LM
                      have LM := Lib.hid LM
                      obtain ⟨r, ob, hr32, ho1, hlo, _, _⟩ := take_limb a p bo ha32 hp32 hbo
                      obtain ⟨w1, w2, w3⟩ := sub_limb a p bo r ob ha32 hp32 hbo hr32 ho1 hlo
                      have hst := sub1_step (val (R3.take k3)) _ _ a p bo r ob _ f5 hlo
                      obtain ⟨aB, haB⟩ : ∃ aB, a + 4294967296 = aB := ⟨_, rfl⟩
                      obtain ⟨ap, hap⟩ : ∃ ap, aB - p = ap := ⟨_, rfl⟩
                      obtain ⟨s, hs⟩ : ∃ s, ap - bo = s := ⟨_, rfl⟩
                      rw [haB, hap, hs] at w1 w2 w3
                      have u1 : IntKind.u64.wrap ((a : Int) + 4294967296) = (aB : Int) := by rw [show (a : Int) + 4294967296 = aB by omega]; exact IntWalk.u64_in _ (by omega)
                      have u2 : IntKind.u64.wrap ((aB : Int) - (p : Int)) = (ap : Int) := by rw [show (aB : Int) - p = ap by omega]; exact IntWalk.u64_in _ (by omega)
                      have u3 : IntKind.u64.wrap ((ap : Int) - (bo : Int)) = (s : Int) := by rw [show (ap : Int) - bo = s by omega]; exact IntWalk.u64_in _ (by omega)
                      have um := and_mask s (by omega)
                      rw [w2] at um
                      have u4 : (r : Int) % 4294967296 = (r : Int) := by omega
                      obtain ⟨o1, ho1e⟩ : ∃ o1, 1 - ob = o1 := ⟨_, rfl⟩
                      rw [ho1e] at w3
                      have u5 : (s : Int) / 4294967296 = (o1 : Int) := by omega
                      have u6 : IntKind.u64.wrap (1 - (o1 : Int)) = (ob : Int) := by rw [show 1 - (o1 : Int) = ob by omega]; exact IntWalk.u64_in _ (by omega)
                      have hsl : s < 18446744073709551616 := by omega
                      have HN : Hid (∀ c, BlkU (wr.drewN c) K R3 ∧ DB w G K m1 Q R2 y (k3 + 1) (R3.set k3 r) ob ((wr.drewN c).setCell ⟨K, k3, none⟩ (.int .u32 (r : Int)))) := fun c =>
                        ⟨f2.drewN c, (f1.drewN c).far (by omega), (f2.drewN c).set k3 r, by rw [List.length_set]; exact f3, f4.set k3 hr32, by rw [ts, tr, ty, Nat.pow_succ]; exact hst, fun t0 ht0 => by rw [getD_set_far _ _ _ _ (by omega)]; exact f6 t0 (by omega), kp_set (kp_drewN f7 c) (by omega)⟩
                      have CE : Hid (∀ c, (wr.drewN c).cell? ⟨K, k3, none⟩ = some (.int .u32 (a : Int)) ∧ (wr.drewN c).frozen? ⟨K, k3, none⟩ = false) := fun c => ⟨cz, (f2.drewN c).free k3⟩
                      clear f1 f2 f3 f4 f5 f6 f7 hsame ts tr ty hae hpe hst haB hap hs w1 w2 w3 hlo ho1e HT fz
                      go_wp2_with fail
                      go_quiet ((go_at_call 75; (with_reducible exact Calls.quiet_of_same (LM.out _))))
                      rename_i nq
                      obtain ⟨g2, g3⟩ := CE.out nq
                      have HNN := Lib.hid (HN.out nq).2
                      clear HN CE cz LM
                      generalize wr.drewN nq = wq at *
                      go_wp2
                      go_roundw
                      case rel => exact ⟨k3 + 1, _, ob, rfl, by go_num, by omega, ho1, HNN⟩
                      case measure => simp [intOf]; omega
                    · as_aux_lemma =>
                      have i2 : ¬ (k3 : Int) < (m1 : Int) := by omega
                      have hkm3 : k3 = m1 := by omega
                      have hmm := HMN.out.1
                      have f5 := HT.out.eq
                      rw [hkm3, take_all (by rw [HT.out.rl]; omega), take_all (by rw [HB.out.len]; omega), take_all (by have := HS2.out; omega), HXY.out.2.1] at f5
                      have hl3 := val_lt R3 HT.out.rm
                      rw [HT.out.rl] at hl3
                      have f6 := borrow_out _ _ _ bo _ hl3 HY2.out f5
                      rw [F7.out, ← HDB.out.1] at f6
                      have hql := HVR.out.1
                      have hkl : j / 32 < Q.length := by have := HKT.out.1; omega
                      obtain ⟨z1, z2, z3, z4⟩ := set_bit Q HVR.out.2.1 j _ hkl HVR.out.2.2.2.1
                      rw [← HDB.out.2] at z4
                      rw [HKT.out.1, HKT.out.2] at z1 z2 z4
                      rw [HKT.out.2] at z3
                      rw [HKT.out.1] at hkl
                      have cq := HT.out.q.cell (j := k) hkl
                      have fq := HT.out.q.free k
                      have hQ32 := HVR.out.2.1.getD k
                      obtain ⟨cv, hcv⟩ : ∃ cv, Q.getD k 0 = cv := ⟨_, rfl⟩
                      obtain ⟨yt, hyt⟩ : ∃ yt, 2 ^ t = yt := ⟨_, rfl⟩
                      rw [hcv] at z1 z2 z4 cq hQ32
                      have l1 : IntKind.u32.wrap ((1 : Int) * 2 ^ t) = (yt : Int) := by
                        rw [show (1 : Int) * 2 ^ t = ((2 ^ t : Nat) : Int) by push_cast; omega, hyt]
                        exact IntWalk.u32_in _ (by omega)
                      have l2 : (2 : Int) ^ t = (yt : Int) := by
                        rw [show (2 : Int) ^ t = ((2 ^ t : Nat) : Int) by push_cast; rfl, hyt]
                      have l3 : (yt : Int) % 4294967296 = (yt : Int) := by omega
                      have l4 : IntKind.u32.wrap (yt : Int) = (yt : Int) := IntWalk.u32_in _ (by omega)
                      rw [hyt] at z1 z2 z3 z4
                      have hor : bits .or .u32 (cv : Int) (yt : Int) = ((cv + yt : Nat) : Int) := by
                        rw [u32_or_nat _ _ (by omega) (by omega), z1]
                      obtain ⟨r, hr⟩ : ∃ r, cv + yt = r := ⟨_, rfl⟩
                      rw [hr] at hor z2 z4
                      have HN : Hid (DJ w G K n m1 X Y j (Q.set k r) R3 ((wr.setCell ⟨G, k, none⟩ (.int .u32 (r : Int))).drew)) :=
                        ⟨(HT.out.q.set k r).drew, by rw [List.length_set]; exact hql, HVR.out.2.1.set k z2, (HT.out.r.far (by omega)).drew, HT.out.rl, HT.out.rm, f6, z4, (kp_set HT.out.bel (by omega)).drew⟩
                      have cq1 : wr.drew.cell? ⟨G, k, none⟩ = some (.int .u32 (cv : Int)) := cq
                      have fq1 : wr.drew.frozen? ⟨G, k, none⟩ = false := fq
                      have hj : j < N := by omega
                      have HK3 := Lib.hid hkm3
                      clear f5 f6 hl3 hql hkl z1 z2 z3 z4 hcv hyt hr HT cq fq hkm3 hmm
                      go_wp2_with fail
                      go_region
                      go_wp2
                      go_roundw
                      case rel => exact ⟨j, _, _, rfl, by omega, HN⟩
                      case measure => simp [intOf]
                · as_aux_lemma =>
                  rw [decide_eq_false hY2] at AH
                  have AH := Lib.hid AH
                  have HDB := DBIT.out.2.1 (by rw [← f7]; omega)
                  have HN : Hid (∀ w5, Below wr.heap.size wr w5 → DJ w G K n m1 X Y j Q R2 w5) := fun w5 hb5 =>
                    ⟨HS.out.q.below hb5, HVR.out.1, HVR.out.2.1, HS.out.r.below hb5, HS.out.rl, HS.out.rm, by rw [f7, HDB.1], by rw [HVR.out.2.2.2.1, HDB.2, Nat.pow_succ, Nat.mul_comm 2, Nat.mul_assoc, Nat.mul_comm 2], kp_call HS.out.bel hb5⟩
                  clear f5 f6 f7 RR HS hkm hmm hmod hYl DBIT hY2 HDB HS5 F7
                  go_wp2_with fail
                  refine AH.out.mono ?_
                  rintro e w5 ⟨rfl, hb5⟩
                  have HNN := Lib.hid (HN.out w5 hb5)
                  clear hb5 AH HN
                  go_wp2
                  go_roundw
                  case rel => exact ⟨j, _, _, rfl, by omega, HNN⟩
                  case measure => simp [intOf]
end Go.Proofs.YtbplchpbaonadaaDoor
