/-
  mont: the statement MontPrimes.
-/
import Derived.Test.YtcmhacecnahfoaaMm
import Derived.Test.YtcmhacecnahfoaaMq
namespace Go.Proofs.Ytcmhacecnahfoaa
open Go.RowKit Go
set_option linter.unusedVariables false
set_option linter.unusedSimpArgs false
set_option maxRecDepth 100000
theorem low_bit (Z : List Nat) (lZ : Lim Z) (i : Nat) (hk : i / 32 < Z.length) (hv : val Z + 1 = 2 ^ i) :
    Z.getD (i / 32) 0 + 1 = 2 ^ (i % 32) ∧ (Z.getD (i / 32) 0 ||| 2 ^ (i % 32)) = Z.getD (i / 32) 0 + 2 ^ (i % 32) ∧ Z.getD (i / 32) 0 + 2 ^ (i % 32) < 4294967296 ∧ 2 ^ (i % 32) < 4294967296 ∧
    val (Z.set (i / 32) (Z.getD (i / 32) 0 + 2 ^ (i % 32))) + 1 = 2 ^ (i + 1) := by
  have hs : i % 32 < 32 := Nat.mod_lt _ (by decide)
  have hd := val_digit Z lZ (i / 32)
  have hpb := pow_bit i
  have hA : 0 < 4294967296 ^ (i / 32) := Nat.pow_pos (by decide)
  have hB : 0 < 2 ^ (i % 32) := Nat.pow_pos (by decide)
  have hp32 : 2 ^ (i % 32) < 2 ^ (i % 32 + 1) := Nat.pow_lt_pow_right (by decide) (by omega)
  have hp31 := pow_31 (i % 32) (by omega)
  have e : Z.getD (i / 32) 0 + 1 = 2 ^ (i % 32) := by
    have h1 : val Z / 4294967296 ^ (i / 32) = 2 ^ (i % 32) - 1 := by
      rw [hpb] at hv
      generalize 4294967296 ^ (i / 32) = A at *
      generalize 2 ^ (i % 32) = B at *
      have h2 : val Z = A * (B - 1) + (A - 1) := by
        rw [Nat.mul_sub, Nat.mul_one]
        have h3 : A ≤ A * B := Nat.le_mul_of_pos_right A hB
        omega
      rw [h2, Nat.mul_add_div hA, Nat.div_eq_of_lt (by omega), Nat.add_zero]
    rw [hd, h1, Nat.mod_eq_of_lt (by omega)]
    omega
  have hor : (Z.getD (i / 32) 0 ||| 2 ^ (i % 32)) = Z.getD (i / 32) 0 + 2 ^ (i % 32) := by
    have h1 := or_sum 1 (Z.getD (i / 32) 0) (i % 32) (by omega)
    rw [Nat.one_mul] at h1
    rw [Nat.or_comm, h1, Nat.add_comm]
  refine ⟨e, hor, by omega, by omega, ?_⟩
  have hs2 := val_set Z (i / 32) (Z.getD (i / 32) 0 + 2 ^ (i % 32)) hk
  rw [Nat.add_mul, Nat.mul_comm (2 ^ (i % 32)), ← hpb] at hs2
  rw [Nat.pow_succ]
  omega
def ZL31 : List Nat := [2147483647]
def ZS31 : List Nat := [2147483646]
theorem ZL31_lim : Lim ZL31 := by unfold Lim ZL31; decide
theorem ZS31_lim : Lim ZS31 := by unfold Lim ZS31; decide
theorem ZL31_val : val ZL31 = 2 ^ 31 - 1 := by kernel_rfl
theorem ZS31_val : val ZS31 = 2 ^ 31 - 1 - 1 := by kernel_rfl
theorem ZL31_may : mayB ZL31 = true := by kernel_rfl
theorem ZS31_right : rightB ZS31 = true := by kernel_rfl
set_option maxHeartbeats 32000000 in
set_option exponentiation.threshold 600 in
theorem primes_31 (A : Option Addr) (n0 c0 : Nat) (x : List Nat) (z : Nat) (w : World) (hz : z % 4 = 0) (hz2 : z ≤ 255) (h0 : IsUs w A n0 c0 x) (hn : n0 ≤ 300) :
    Calls Try.prog 7 #[.int .u8 (z : Int), .slice A n0 c0] w fun e w' => e = .returned (.bool true) ∧ Below w.heap.size w w' := by
  have IX := Lib.hid h0.ru
  have le0 := h0.le
  have i0 : ¬ (n0 : Int) > 300 := by omega
  have i1 : (z : Int) % 4 = 0 := by omega
  have i2 : (z : Int).tmod 4 = 0 := by rw [Int.tmod_eq_emod_of_nonneg (by omega)]; omega
  obtain ⟨p, hp⟩ : ∃ p, 2 ^ 31 - 1 = p := ⟨_, rfl⟩
  have hpr := pr_31
  have hzl := ZL31_val
  have hzs := ZS31_val
  rw [hp] at hpr hzl hzs
  obtain ⟨s, hs⟩ : ∃ s, briefQ x 128 % p = s := ⟨_, rfl⟩
  have hp2 : 2 ≤ p := hpr.1
  have hsp : s < p := by rw [← hs]; exact Nat.mod_lt _ (by omega)
  have HS := Lib.hid hs
  have hmay := ZL31_may
  obtain ⟨hr, hp0, h128, hodd, h3m, hnum, hmod, hlim, hlow⟩ := may_is ZL31_lim hmay
  rw [hzl] at hmod
  have hmb := mod_big hmod
  have hf := hpr.fermat s
  rw [Nat.mod_eq_of_lt hsp] at hf
  have EX1 : mexpQ (num s) ZL31 p = (num s, 0) := by
    unfold mexpQ
    rw [under_num hsp hmb, hr, val_num, hzl, hf]
    rfl
  obtain ⟨v, hv⟩ : ∃ v, s ^ (p - 1) % p = v := ⟨_, rfl⟩
  have hv1 : (s = 0 → num v = []) ∧ (s ≠ 0 → num v = [1]) := by
    constructor
    · intro h
      rw [← hv, h, Nat.zero_pow (by omega), Nat.zero_mod, num_zero]
    · intro h
      have h9 := hpr.less s (fun hd => by have := Nat.le_of_dvd (by omega) hd; omega)
      rw [← hv, h9]
      exact num_small (by decide) (by decide)
  have EX2 : mexpQ (num s) ZS31 p = (num v, 0) := by
    unfold mexpQ
    rw [under_num hsp hmb, ZS31_right, val_num, hzs, hv]
    rfl
  have HEX1 := Lib.hid EX1
  have HEX2 := Lib.hid EX2
  have HV1 := Lib.hid hv1
  have HR := Lib.hid hr
  have HZL := Lib.hid hzl
  have HMAY := Lib.hid hmay
  have hpp : p + 1 = 2 ^ 31 := by
    have h := Nat.sub_add_cancel (show 1 ≤ 2 ^ 31 from Nat.pow_pos (by decide))
    rw [hp] at h
    exact h
  have HPP := Lib.hid hpp
  clear h0 hz hp hpr hzl hzs hs hmay hr hp0 h128 hodd h3m hnum hmod hlim hlow hmb hf EX1 EX2 hv hv1 hpp
  go_enter Try.func7, Try.ntmps7
  go_wp2_with (refine wpList_mkU _ _ rfl rfl _ _ _ _ 1 rfl rfl rfl rfl (by decide) ?_)
  intro w1 hblk hb1
  obtain ⟨G, hG⟩ : ∃ G, w.heap.size + 1 = G := ⟨_, rfl⟩
  have hwG : w.heap.size ≤ G := by omega
  have hbb : Below w.heap.size w (w.alloc (.cells #[.int .i64 31, .int .i64 61, .int .i64 127, .int .i64 521] 3)) := kp_alloc (Below.refl _ _) _
  have h9 : (w.alloc (.cells #[.int .i64 31, .int .i64 61, .int .i64 127, .int .i64 521] 3)).heap.size = w.heap.size + 1 := by simp
  have hb2 : Below (w.alloc (.cells #[.int .i64 31, .int .i64 61, .int .i64 127, .int .i64 521] 3)).heap.size (w.alloc (.cells #[.int .i64 31, .int .i64 61, .int .i64 127, .int .i64 521] 3)) w1 := by rw [h9]; exact hb1
  have H1 : Hid (BlkU w1 G (List.replicate 1 0) ∧ Below w.heap.size w w1) := ⟨by rw [← hG]; exact hblk, kp_call hbb hb2⟩
  clear hblk hb1 hb2 hbb h9
  try rw [hG]
  have HG := Lib.hid hG
  clear hG
  go_wp2
  go_loopw [7] (fun vi wl => ∃ (i : Nat) (Z : List Nat), vi = .int .i64 (i : Int) ∧ i ≤ 31 ∧ Hid (BlkU wl G Z ∧ Z.length = 1 ∧ Lim Z ∧ val Z + 1 = 2 ^ i ∧ Below w.heap.size w wl)) (fun vi _ => 31 - (intOf vi).toNat)
  case atStart => exact ⟨0, List.replicate 1 0, rfl, Nat.zero_le _, H1.out.1, by simp, Lim.rep 1, by rw [val_zero], H1.out.2⟩
  case round =>
    obtain ⟨i, Z, rfl, hi, HK⟩ := hrel
    clear H1
    by_cases hlt : i < 31
    · as_aux_lemma =>
      have j1 : (i : Int) < 31 := by omega
      have e3 : IntKind.i64.wrap ((i : Int) + 1) = (i : Int) + 1 := IntWalk.i64_in _ (by omega)
      obtain ⟨f1, f2, f3, f4, f5⟩ := HK.out
      obtain ⟨z1, z2, z3, z4, z5⟩ := low_bit Z f3 i (by omega) f4
      obtain ⟨k, hk⟩ : ∃ k, i / 32 = k := ⟨_, rfl⟩
      obtain ⟨t, ht⟩ : ∃ t, i % 32 = t := ⟨_, rfl⟩
      rw [hk] at z1 z2 z3 z5
      rw [ht] at z1 z2 z3 z4 z5
      have hkl : k < Z.length := by omega
      have cq := f1.cell (j := k) hkl
      have fq := f1.free k
      have hQ32 := f3.getD k
      obtain ⟨cv, hcv⟩ : ∃ cv, Z.getD k 0 = cv := ⟨_, rfl⟩
      obtain ⟨yt, hyt⟩ : ∃ yt, 2 ^ t = yt := ⟨_, rfl⟩
      rw [hcv] at z1 z2 z3 z5 cq hQ32
      have l1 : IntKind.u32.wrap ((1 : Int) * 2 ^ t) = (yt : Int) := by
        rw [show (1 : Int) * 2 ^ t = ((2 ^ t : Nat) : Int) by push_cast; omega, hyt]
        exact IntWalk.u32_in _ (by omega)
      have l2 : (2 : Int) ^ t = (yt : Int) := by
        rw [show (2 : Int) ^ t = ((2 ^ t : Nat) : Int) by push_cast; rfl, hyt]
      have l3 : (yt : Int) % 4294967296 = (yt : Int) := by omega
      have l4 : IntKind.u32.wrap (yt : Int) = (yt : Int) := IntWalk.u32_in _ (by omega)
      rw [hyt] at z1 z2 z3 z4 z5
      have hor : bits .or .u32 (cv : Int) (yt : Int) = ((cv + yt : Nat) : Int) := by
        rw [u32_or_nat _ _ (by omega) (by omega), z2]
      obtain ⟨r, hr9⟩ : ∃ r, cv + yt = r := ⟨_, rfl⟩
      rw [hr9] at hor z3 z5
      have e5 : (i : Int).tdiv 32 = (k : Int) := by rw [Int.tdiv_eq_ediv_of_nonneg (by omega)]; omega
      have e6 : (i : Int) / 32 = (k : Int) := by omega
      have e7 : (i : Int).tmod 32 = (t : Int) := by rw [Int.tmod_eq_emod_of_nonneg (by omega)]; omega
      have e8 : (i : Int) % 32 = (t : Int) := by omega
      have e9 : IntKind.i64.wrap (k : Int) = (k : Int) := IntWalk.i64_in _ (by omega)
      have e10 : min t 32 = t := by omega
      have j2 : (0 : Int) ≤ (k : Int) := by omega
      have j3 : (k : Int) < 1 := by omega
      have j4 : (0 : Int) ≤ (t : Int) := by omega
      have j5 : k < 1 := by omega
      have HN : Hid (BlkU (wr.setCell ⟨G, k, none⟩ (.int .u32 (r : Int))).drew G (Z.set k r) ∧ (Z.set k r).length = 1 ∧ Lim (Z.set k r) ∧ val (Z.set k r) + 1 = 2 ^ (i + 1) ∧ Below w.heap.size w ((wr.setCell ⟨G, k, none⟩ (.int .u32 (r : Int))).drew)) :=
        ⟨(f1.set k r).drew, by rw [List.length_set]; exact f2, f3.set k z3, z5, (kp_set f5 hwG).drew⟩
      have cq1 : wr.drew.cell? ⟨G, k, none⟩ = some (.int .u32 (cv : Int)) := cq
      have fq1 : wr.drew.frozen? ⟨G, k, none⟩ = false := fq
      clear f1 f2 f3 f4 f5 hk ht z1 z2 z3 z4 z5 hcv hyt hr9 HK cq fq hkl
      go_wp2_with fail
      go_region
      go_wp2
      go_roundw
      case rel => exact ⟨i + 1, _, by go_num, by omega, HN⟩
      case measure => simp [intOf]; omega
    · as_aux_lemma =>
      have j1 : ¬ (i : Int) < 31 := by omega
      obtain ⟨f1, f2, f3, f4, f5⟩ := HK.out
      rw [show i = 31 by omega, ← HPP.out] at f4
      have hZ : Z = ZL31 := list_of_val f3 ZL31_lim (by rw [f2]; rfl) (by rw [HZL.out]; omega)
      rw [hZ] at f1
      have RM := Lib.hid (blk_ru f1 (by rfl : ZL31.length = 1) ZL31_lim)
      have HB := Lib.hid f5
      clear f1 f2 f3 f4 f5 hZ HK
      go_wp2_with fail
      (with_reducible refine (new_yes (some ⟨G, 0, none⟩) 1 1 ZL31 wr RM.out HMAY.out).mono ?_)
      rintro e w2 ⟨g, rfl, hg, hM, hb⟩
      replace RM := Lib.hid (RM.out.below hb)
      replace HB := Lib.hid (kp_call HB.out hb)
      have MD1 := Lib.hid (HZL.out ▸ hM : MD w2 g p)
      clear hM
      clear hb
      go_wp2_with fail
      (with_reducible refine ((show Calls _ _ _ _ (fun e w' => ∃ A' n' c', e = .returned (.tuple #[.slice A' n' c', .bool true]) ∧ RU w' A' n' (num s) ∧ n' ≤ 256 ∧ Below w2.heap.size w2 w') from HS.out ▸ HZL.out ▸ lbelow_any A (some ⟨G, 0, none⟩) n0 c0 1 1 x ZL31 w2 (IX.out.below HB.out) RM.out (by omega) le0 (by decide) HR.out (by decide))).mono ?_)
      rintro e w3 ⟨A3, k3, d3, rfl, r3, l3, hb⟩
      replace RM := Lib.hid (RM.out.below hb)
      replace MD1 := Lib.hid (MD1.out.below hb)
      replace HB := Lib.hid (kp_call HB.out hb)
      have R3 := Lib.hid r3
      clear r3
      clear hb
      go_wp2_with fail
      (with_reducible refine (mtwin_any (some ⟨G, 0, none⟩) 1 1 ZL31 w3 RM.out (by decide)).mono ?_)
      rintro e w4 ⟨A4, k4, rfl, o4, hb⟩
      have hcap := o4.cap
      obtain ⟨gT, hA4, hT1, hT2⟩ := o4.shape (by omega)
      subst hA4
      obtain ⟨b9, o9, he9, hb9, hc9⟩ := o4.reads (by decide)
      injection he9 with he9
      injection he9 with he1 he2
      subst he1; subst he2
      have cz := hc9 0 (.int .u32 2147483647) rfl
      have cz : w4.cell? ⟨gT, 0, none⟩ = some (.int .u32 2147483647) := cz
      have fz := o4.free 0
      have hgT : w3.heap.size ≤ gT := hT1
      have hge := HB.out.size
      have hbT : Below w3.heap.size w3 (w4.setCell ⟨gT, 0, none⟩ (.int .u32 2147483646)) := kp_set hb hT1
      have hst : RU (w4.setCell ⟨gT, 0, none⟩ (.int .u32 2147483646)) (some ⟨gT, 0, none⟩) 1 ZS31 := ru_of_own (o4.stored 0 (.int .u32 2147483646)) ZS31_lim
      have RS := Lib.hid hst
      replace RM := Lib.hid (RM.out.below hbT)
      replace MD1 := Lib.hid (MD1.out.below hbT)
      replace R3 := Lib.hid (R3.out.below hbT)
      replace HB := Lib.hid (kp_call HB.out hbT)
      clear o4 hc9 hst hT2 hb hbT hge hcap
      go_wp2_with fail
      (with_reducible refine ((HEX2.out ▸ mexp_all g p A3 (some ⟨gT, 0, none⟩) k3 d3 1 k4 (num s) ZS31 _ MD1.out R3.out RS.out (by omega) (by decide) : Calls Try.prog _ _ _ (NumR _ (num v, 0)))).mono ?_)
      rintro e w5 ⟨A6, k6, d6, rfl, s6, l6, m6, q6, hb⟩
      replace RM := Lib.hid (RM.out.below hb)
      replace MD1 := Lib.hid (MD1.out.below hb)
      replace R3 := Lib.hid (R3.out.below hb)
      replace RS := Lib.hid (RS.out.below hb)
      replace HB := Lib.hid (kp_call HB.out hb)
      have R6 := Lib.hid s6.ru
      clear s6
      clear hb
      clear RS
      go_wp2_with fail
      (with_reducible refine ((HEX1.out ▸ mexp_all g p A3 (some ⟨G, 0, none⟩) k3 d3 1 1 (num s) ZL31 w5 MD1.out R3.out RM.out (by omega) (by decide) : Calls Try.prog _ _ _ (NumR w5 (num s, 0)))).mono ?_)
      rintro e w6 ⟨A7, k7, d7, rfl, s7, l7, m7, q7, hb⟩
      replace RM := Lib.hid (RM.out.below hb)
      replace MD1 := Lib.hid (MD1.out.below hb)
      replace R3 := Lib.hid (R3.out.below hb)
      replace R6 := Lib.hid (R6.out.below hb)
      replace HB := Lib.hid (kp_call HB.out hb)
      have R7 := Lib.hid s7.ru
      clear s7
      clear hb
      clear RM MD1
      go_wp2_with fail
      (with_reducible refine (same_t A7 A3 k7 d7 k3 d3 _ _ w6 R7.out R3.out (by omega) (by omega) rfl).mono ?_)
      rintro e w7 ⟨rfl, hb⟩
      replace R3 := Lib.hid (R3.out.below hb)
      replace R6 := Lib.hid (R6.out.below hb)
      replace R7 := Lib.hid (R7.out.below hb)
      replace HB := Lib.hid (kp_call HB.out hb)
      clear hb
      clear R7
      have hk3 : k3 = (num s).length := R3.out.len.symm
      have hk6 : k6 = (num v).length := R6.out.len.symm
      by_cases hs0 : s = 0
      · have hk30 : k3 = 0 := by rw [hk3, hs0, num_zero]; rfl
        have hk60 : k6 = 0 := by rw [hk6, HV1.out.1 hs0]; rfl
        clear hk3 hk6
        subst hk30; subst hk60
        go_wp2_with fail
        (with_reducible refine (mworks_any w7).mono ?_)
        rintro e w8 ⟨rfl, hb⟩
        replace HB := Lib.hid (kp_call HB.out hb)
        clear hb
        go_wp2
        go_ret
        exact ⟨rfl, HB.out⟩
      · have hv9 := HV1.out.2 hs0
        have hk30 : 0 < k3 := by
          rcases Nat.eq_zero_or_pos k3 with h | h
          · rw [h] at hk3
            have h9 := List.eq_nil_of_length_eq_zero hk3.symm
            have h10 := val_num s
            rw [h9] at h10
            exact absurd h10.symm hs0
          · exact h
        have t0 : ((k3 : Int) == 0) = false := by simp; omega
        rw [hv9] at R6
        clear hk3 hk6 hv9
        have hbb : Below w7.heap.size w7 (w7.alloc (.cells #[.int .u32 1] 31)) := kp_alloc (Below.refl _ _) _
        have K1 : Hid (BlkU (w7.alloc (.cells #[.int .u32 1] 31)) w7.heap.size [1]) := has_new _ _
        replace R6 := Lib.hid (R6.out.below hbb)
        replace HB := Lib.hid (kp_call HB.out hbb)
        clear hbb
        go_wp2_with fail
        (with_reducible refine (same_t A6 (some ⟨w7.heap.size, 0, none⟩) k6 d6 1 1 [1] [1] _ R6.out (one_ru K1.out (by decide)) (by omega) (by decide) rfl).mono ?_)
        rintro e w8 ⟨rfl, hb⟩
        replace HB := Lib.hid (kp_call HB.out hb)
        clear hb
        go_wp2_with fail
        (with_reducible refine (mworks_any w8).mono ?_)
        rintro e w9 ⟨rfl, hb⟩
        replace HB := Lib.hid (kp_call HB.out hb)
        clear hb
        go_wp2
        go_ret
        exact ⟨rfl, HB.out⟩
def ZL61 : List Nat := [4294967295, 536870911]
def ZS61 : List Nat := [4294967294, 536870911]
theorem ZL61_lim : Lim ZL61 := by unfold Lim ZL61; decide
theorem ZS61_lim : Lim ZS61 := by unfold Lim ZS61; decide
theorem ZL61_val : val ZL61 = 2 ^ 61 - 1 := by kernel_rfl
theorem ZS61_val : val ZS61 = 2 ^ 61 - 1 - 1 := by kernel_rfl
theorem ZL61_may : mayB ZL61 = true := by kernel_rfl
theorem ZS61_right : rightB ZS61 = true := by kernel_rfl
set_option maxHeartbeats 32000000 in
set_option exponentiation.threshold 600 in
theorem primes_61 (A : Option Addr) (n0 c0 : Nat) (x : List Nat) (z : Nat) (w : World) (hz : z % 4 = 1) (hz2 : z ≤ 255) (h0 : IsUs w A n0 c0 x) (hn : n0 ≤ 300) :
    Calls Try.prog 7 #[.int .u8 (z : Int), .slice A n0 c0] w fun e w' => e = .returned (.bool true) ∧ Below w.heap.size w w' := by
  have IX := Lib.hid h0.ru
  have le0 := h0.le
  have i0 : ¬ (n0 : Int) > 300 := by omega
  have i1 : (z : Int) % 4 = 1 := by omega
  have i2 : (z : Int).tmod 4 = 1 := by rw [Int.tmod_eq_emod_of_nonneg (by omega)]; omega
  obtain ⟨p, hp⟩ : ∃ p, 2 ^ 61 - 1 = p := ⟨_, rfl⟩
  have hpr := pr_61
  have hzl := ZL61_val
  have hzs := ZS61_val
  rw [hp] at hpr hzl hzs
  obtain ⟨s, hs⟩ : ∃ s, briefQ x 128 % p = s := ⟨_, rfl⟩
  have hp2 : 2 ≤ p := hpr.1
  have hsp : s < p := by rw [← hs]; exact Nat.mod_lt _ (by omega)
  have HS := Lib.hid hs
  have hmay := ZL61_may
  obtain ⟨hr, hp0, h128, hodd, h3m, hnum, hmod, hlim, hlow⟩ := may_is ZL61_lim hmay
  rw [hzl] at hmod
  have hmb := mod_big hmod
  have hf := hpr.fermat s
  rw [Nat.mod_eq_of_lt hsp] at hf
  have EX1 : mexpQ (num s) ZL61 p = (num s, 0) := by
    unfold mexpQ
    rw [under_num hsp hmb, hr, val_num, hzl, hf]
    rfl
  obtain ⟨v, hv⟩ : ∃ v, s ^ (p - 1) % p = v := ⟨_, rfl⟩
  have hv1 : (s = 0 → num v = []) ∧ (s ≠ 0 → num v = [1]) := by
    constructor
    · intro h
      rw [← hv, h, Nat.zero_pow (by omega), Nat.zero_mod, num_zero]
    · intro h
      have h9 := hpr.less s (fun hd => by have := Nat.le_of_dvd (by omega) hd; omega)
      rw [← hv, h9]
      exact num_small (by decide) (by decide)
  have EX2 : mexpQ (num s) ZS61 p = (num v, 0) := by
    unfold mexpQ
    rw [under_num hsp hmb, ZS61_right, val_num, hzs, hv]
    rfl
  have HEX1 := Lib.hid EX1
  have HEX2 := Lib.hid EX2
  have HV1 := Lib.hid hv1
  have HR := Lib.hid hr
  have HZL := Lib.hid hzl
  have HMAY := Lib.hid hmay
  have hpp : p + 1 = 2 ^ 61 := by
    have h := Nat.sub_add_cancel (show 1 ≤ 2 ^ 61 from Nat.pow_pos (by decide))
    rw [hp] at h
    exact h
  have HPP := Lib.hid hpp
  clear h0 hz hp hpr hzl hzs hs hmay hr hp0 h128 hodd h3m hnum hmod hlim hlow hmb hf EX1 EX2 hv hv1 hpp
  go_enter Try.func7, Try.ntmps7
  go_wp2_with (refine wpList_mkU _ _ rfl rfl _ _ _ _ 2 rfl rfl rfl rfl (by decide) ?_)
  intro w1 hblk hb1
  obtain ⟨G, hG⟩ : ∃ G, w.heap.size + 1 = G := ⟨_, rfl⟩
  have hwG : w.heap.size ≤ G := by omega
  have hbb : Below w.heap.size w (w.alloc (.cells #[.int .i64 31, .int .i64 61, .int .i64 127, .int .i64 521] 3)) := kp_alloc (Below.refl _ _) _
  have h9 : (w.alloc (.cells #[.int .i64 31, .int .i64 61, .int .i64 127, .int .i64 521] 3)).heap.size = w.heap.size + 1 := by simp
  have hb2 : Below (w.alloc (.cells #[.int .i64 31, .int .i64 61, .int .i64 127, .int .i64 521] 3)).heap.size (w.alloc (.cells #[.int .i64 31, .int .i64 61, .int .i64 127, .int .i64 521] 3)) w1 := by rw [h9]; exact hb1
  have H1 : Hid (BlkU w1 G (List.replicate 2 0) ∧ Below w.heap.size w w1) := ⟨by rw [← hG]; exact hblk, kp_call hbb hb2⟩
  clear hblk hb1 hb2 hbb h9
  try rw [hG]
  have HG := Lib.hid hG
  clear hG
  go_wp2
  go_loopw [7] (fun vi wl => ∃ (i : Nat) (Z : List Nat), vi = .int .i64 (i : Int) ∧ i ≤ 61 ∧ Hid (BlkU wl G Z ∧ Z.length = 2 ∧ Lim Z ∧ val Z + 1 = 2 ^ i ∧ Below w.heap.size w wl)) (fun vi _ => 61 - (intOf vi).toNat)
  case atStart => exact ⟨0, List.replicate 2 0, rfl, Nat.zero_le _, H1.out.1, by simp, Lim.rep 2, by rw [val_zero], H1.out.2⟩
  case round =>
    obtain ⟨i, Z, rfl, hi, HK⟩ := hrel
    clear H1
    by_cases hlt : i < 61
    · as_aux_lemma =>
      have j1 : (i : Int) < 61 := by omega
      have e3 : IntKind.i64.wrap ((i : Int) + 1) = (i : Int) + 1 := IntWalk.i64_in _ (by omega)
      obtain ⟨f1, f2, f3, f4, f5⟩ := HK.out
      obtain ⟨z1, z2, z3, z4, z5⟩ := low_bit Z f3 i (by omega) f4
      obtain ⟨k, hk⟩ : ∃ k, i / 32 = k := ⟨_, rfl⟩
      obtain ⟨t, ht⟩ : ∃ t, i % 32 = t := ⟨_, rfl⟩
      rw [hk] at z1 z2 z3 z5
      rw [ht] at z1 z2 z3 z4 z5
      have hkl : k < Z.length := by omega
      have cq := f1.cell (j := k) hkl
      have fq := f1.free k
      have hQ32 := f3.getD k
      obtain ⟨cv, hcv⟩ : ∃ cv, Z.getD k 0 = cv := ⟨_, rfl⟩
      obtain ⟨yt, hyt⟩ : ∃ yt, 2 ^ t = yt := ⟨_, rfl⟩
      rw [hcv] at z1 z2 z3 z5 cq hQ32
      have l1 : IntKind.u32.wrap ((1 : Int) * 2 ^ t) = (yt : Int) := by
        rw [show (1 : Int) * 2 ^ t = ((2 ^ t : Nat) : Int) by push_cast; omega, hyt]
        exact IntWalk.u32_in _ (by omega)
      have l2 : (2 : Int) ^ t = (yt : Int) := by
        rw [show (2 : Int) ^ t = ((2 ^ t : Nat) : Int) by push_cast; rfl, hyt]
      have l3 : (yt : Int) % 4294967296 = (yt : Int) := by omega
      have l4 : IntKind.u32.wrap (yt : Int) = (yt : Int) := IntWalk.u32_in _ (by omega)
      rw [hyt] at z1 z2 z3 z4 z5
      have hor : bits .or .u32 (cv : Int) (yt : Int) = ((cv + yt : Nat) : Int) := by
        rw [u32_or_nat _ _ (by omega) (by omega), z2]
      obtain ⟨r, hr9⟩ : ∃ r, cv + yt = r := ⟨_, rfl⟩
      rw [hr9] at hor z3 z5
      have e5 : (i : Int).tdiv 32 = (k : Int) := by rw [Int.tdiv_eq_ediv_of_nonneg (by omega)]; omega
      have e6 : (i : Int) / 32 = (k : Int) := by omega
      have e7 : (i : Int).tmod 32 = (t : Int) := by rw [Int.tmod_eq_emod_of_nonneg (by omega)]; omega
      have e8 : (i : Int) % 32 = (t : Int) := by omega
      have e9 : IntKind.i64.wrap (k : Int) = (k : Int) := IntWalk.i64_in _ (by omega)
      have e10 : min t 32 = t := by omega
      have j2 : (0 : Int) ≤ (k : Int) := by omega
      have j3 : (k : Int) < 2 := by omega
      have j4 : (0 : Int) ≤ (t : Int) := by omega
      have j5 : k < 2 := by omega
      have HN : Hid (BlkU (wr.setCell ⟨G, k, none⟩ (.int .u32 (r : Int))).drew G (Z.set k r) ∧ (Z.set k r).length = 2 ∧ Lim (Z.set k r) ∧ val (Z.set k r) + 1 = 2 ^ (i + 1) ∧ Below w.heap.size w ((wr.setCell ⟨G, k, none⟩ (.int .u32 (r : Int))).drew)) :=
        ⟨(f1.set k r).drew, by rw [List.length_set]; exact f2, f3.set k z3, z5, (kp_set f5 hwG).drew⟩
      have cq1 : wr.drew.cell? ⟨G, k, none⟩ = some (.int .u32 (cv : Int)) := cq
      have fq1 : wr.drew.frozen? ⟨G, k, none⟩ = false := fq
      clear f1 f2 f3 f4 f5 hk ht z1 z2 z3 z4 z5 hcv hyt hr9 HK cq fq hkl
      go_wp2_with fail
      go_region
      go_wp2
      go_roundw
      case rel => exact ⟨i + 1, _, by go_num, by omega, HN⟩
      case measure => simp [intOf]; omega
    · as_aux_lemma =>
      have j1 : ¬ (i : Int) < 61 := by omega
      obtain ⟨f1, f2, f3, f4, f5⟩ := HK.out
      rw [show i = 61 by omega, ← HPP.out] at f4
      have hZ : Z = ZL61 := list_of_val f3 ZL61_lim (by rw [f2]; rfl) (by rw [HZL.out]; omega)
      rw [hZ] at f1
      have RM := Lib.hid (blk_ru f1 (by rfl : ZL61.length = 2) ZL61_lim)
      have HB := Lib.hid f5
      clear f1 f2 f3 f4 f5 hZ HK
      go_wp2_with fail
      (with_reducible refine (new_yes (some ⟨G, 0, none⟩) 2 2 ZL61 wr RM.out HMAY.out).mono ?_)
      rintro e w2 ⟨g, rfl, hg, hM, hb⟩
      replace RM := Lib.hid (RM.out.below hb)
      replace HB := Lib.hid (kp_call HB.out hb)
      have MD1 := Lib.hid (HZL.out ▸ hM : MD w2 g p)
      clear hM
      clear hb
      go_wp2_with fail
      (with_reducible refine ((show Calls _ _ _ _ (fun e w' => ∃ A' n' c', e = .returned (.tuple #[.slice A' n' c', .bool true]) ∧ RU w' A' n' (num s) ∧ n' ≤ 256 ∧ Below w2.heap.size w2 w') from HS.out ▸ HZL.out ▸ lbelow_any A (some ⟨G, 0, none⟩) n0 c0 2 2 x ZL61 w2 (IX.out.below HB.out) RM.out (by omega) le0 (by decide) HR.out (by decide))).mono ?_)
      rintro e w3 ⟨A3, k3, d3, rfl, r3, l3, hb⟩
      replace RM := Lib.hid (RM.out.below hb)
      replace MD1 := Lib.hid (MD1.out.below hb)
      replace HB := Lib.hid (kp_call HB.out hb)
      have R3 := Lib.hid r3
      clear r3
      clear hb
      go_wp2_with fail
      (with_reducible refine (mtwin_any (some ⟨G, 0, none⟩) 2 2 ZL61 w3 RM.out (by decide)).mono ?_)
      rintro e w4 ⟨A4, k4, rfl, o4, hb⟩
      have hcap := o4.cap
      obtain ⟨gT, hA4, hT1, hT2⟩ := o4.shape (by omega)
      subst hA4
      obtain ⟨b9, o9, he9, hb9, hc9⟩ := o4.reads (by decide)
      injection he9 with he9
      injection he9 with he1 he2
      subst he1; subst he2
      have cz := hc9 0 (.int .u32 4294967295) rfl
      have cz : w4.cell? ⟨gT, 0, none⟩ = some (.int .u32 4294967295) := cz
      have fz := o4.free 0
      have hgT : w3.heap.size ≤ gT := hT1
      have hge := HB.out.size
      have hbT : Below w3.heap.size w3 (w4.setCell ⟨gT, 0, none⟩ (.int .u32 4294967294)) := kp_set hb hT1
      have hst : RU (w4.setCell ⟨gT, 0, none⟩ (.int .u32 4294967294)) (some ⟨gT, 0, none⟩) 2 ZS61 := ru_of_own (o4.stored 0 (.int .u32 4294967294)) ZS61_lim
      have RS := Lib.hid hst
      replace RM := Lib.hid (RM.out.below hbT)
      replace MD1 := Lib.hid (MD1.out.below hbT)
      replace R3 := Lib.hid (R3.out.below hbT)
      replace HB := Lib.hid (kp_call HB.out hbT)
      clear o4 hc9 hst hT2 hb hbT hge hcap
      go_wp2_with fail
      (with_reducible refine ((HEX2.out ▸ mexp_all g p A3 (some ⟨gT, 0, none⟩) k3 d3 2 k4 (num s) ZS61 _ MD1.out R3.out RS.out (by omega) (by decide) : Calls Try.prog _ _ _ (NumR _ (num v, 0)))).mono ?_)
      rintro e w5 ⟨A6, k6, d6, rfl, s6, l6, m6, q6, hb⟩
      replace RM := Lib.hid (RM.out.below hb)
      replace MD1 := Lib.hid (MD1.out.below hb)
      replace R3 := Lib.hid (R3.out.below hb)
      replace RS := Lib.hid (RS.out.below hb)
      replace HB := Lib.hid (kp_call HB.out hb)
      have R6 := Lib.hid s6.ru
      clear s6
      clear hb
      clear RS
      go_wp2_with fail
      (with_reducible refine ((HEX1.out ▸ mexp_all g p A3 (some ⟨G, 0, none⟩) k3 d3 2 2 (num s) ZL61 w5 MD1.out R3.out RM.out (by omega) (by decide) : Calls Try.prog _ _ _ (NumR w5 (num s, 0)))).mono ?_)
      rintro e w6 ⟨A7, k7, d7, rfl, s7, l7, m7, q7, hb⟩
      replace RM := Lib.hid (RM.out.below hb)
      replace MD1 := Lib.hid (MD1.out.below hb)
      replace R3 := Lib.hid (R3.out.below hb)
      replace R6 := Lib.hid (R6.out.below hb)
      replace HB := Lib.hid (kp_call HB.out hb)
      have R7 := Lib.hid s7.ru
      clear s7
      clear hb
      clear RM MD1
      go_wp2_with fail
      (with_reducible refine (same_t A7 A3 k7 d7 k3 d3 _ _ w6 R7.out R3.out (by omega) (by omega) rfl).mono ?_)
      rintro e w7 ⟨rfl, hb⟩
      replace R3 := Lib.hid (R3.out.below hb)
      replace R6 := Lib.hid (R6.out.below hb)
      replace R7 := Lib.hid (R7.out.below hb)
      replace HB := Lib.hid (kp_call HB.out hb)
      clear hb
      clear R7
      have hk3 : k3 = (num s).length := R3.out.len.symm
      have hk6 : k6 = (num v).length := R6.out.len.symm
      by_cases hs0 : s = 0
      · have hk30 : k3 = 0 := by rw [hk3, hs0, num_zero]; rfl
        have hk60 : k6 = 0 := by rw [hk6, HV1.out.1 hs0]; rfl
        clear hk3 hk6
        subst hk30; subst hk60
        go_wp2_with fail
        (with_reducible refine (mworks_any w7).mono ?_)
        rintro e w8 ⟨rfl, hb⟩
        replace HB := Lib.hid (kp_call HB.out hb)
        clear hb
        go_wp2
        go_ret
        exact ⟨rfl, HB.out⟩
      · have hv9 := HV1.out.2 hs0
        have hk30 : 0 < k3 := by
          rcases Nat.eq_zero_or_pos k3 with h | h
          · rw [h] at hk3
            have h9 := List.eq_nil_of_length_eq_zero hk3.symm
            have h10 := val_num s
            rw [h9] at h10
            exact absurd h10.symm hs0
          · exact h
        have t0 : ((k3 : Int) == 0) = false := by simp; omega
        rw [hv9] at R6
        clear hk3 hk6 hv9
        have hbb : Below w7.heap.size w7 (w7.alloc (.cells #[.int .u32 1] 31)) := kp_alloc (Below.refl _ _) _
        have K1 : Hid (BlkU (w7.alloc (.cells #[.int .u32 1] 31)) w7.heap.size [1]) := has_new _ _
        replace R6 := Lib.hid (R6.out.below hbb)
        replace HB := Lib.hid (kp_call HB.out hbb)
        clear hbb
        go_wp2_with fail
        (with_reducible refine (same_t A6 (some ⟨w7.heap.size, 0, none⟩) k6 d6 1 1 [1] [1] _ R6.out (one_ru K1.out (by decide)) (by omega) (by decide) rfl).mono ?_)
        rintro e w8 ⟨rfl, hb⟩
        replace HB := Lib.hid (kp_call HB.out hb)
        clear hb
        go_wp2_with fail
        (with_reducible refine (mworks_any w8).mono ?_)
        rintro e w9 ⟨rfl, hb⟩
        replace HB := Lib.hid (kp_call HB.out hb)
        clear hb
        go_wp2
        go_ret
        exact ⟨rfl, HB.out⟩
def ZL127 : List Nat := [4294967295, 4294967295, 4294967295, 2147483647]
def ZS127 : List Nat := [4294967294, 4294967295, 4294967295, 2147483647]
theorem ZL127_lim : Lim ZL127 := by unfold Lim ZL127; decide
theorem ZS127_lim : Lim ZS127 := by unfold Lim ZS127; decide
theorem ZL127_val : val ZL127 = 2 ^ 127 - 1 := by kernel_rfl
theorem ZS127_val : val ZS127 = 2 ^ 127 - 1 - 1 := by kernel_rfl
theorem ZL127_may : mayB ZL127 = true := by kernel_rfl
theorem ZS127_right : rightB ZS127 = true := by kernel_rfl
set_option maxHeartbeats 32000000 in
set_option exponentiation.threshold 600 in
theorem primes_127 (A : Option Addr) (n0 c0 : Nat) (x : List Nat) (z : Nat) (w : World) (hz : z % 4 = 2) (hz2 : z ≤ 255) (h0 : IsUs w A n0 c0 x) (hn : n0 ≤ 300) :
    Calls Try.prog 7 #[.int .u8 (z : Int), .slice A n0 c0] w fun e w' => e = .returned (.bool true) ∧ Below w.heap.size w w' := by
  have IX := Lib.hid h0.ru
  have le0 := h0.le
  have i0 : ¬ (n0 : Int) > 300 := by omega
  have i1 : (z : Int) % 4 = 2 := by omega
  have i2 : (z : Int).tmod 4 = 2 := by rw [Int.tmod_eq_emod_of_nonneg (by omega)]; omega
  obtain ⟨p, hp⟩ : ∃ p, 2 ^ 127 - 1 = p := ⟨_, rfl⟩
  have hpr := pr_127
  have hzl := ZL127_val
  have hzs := ZS127_val
  rw [hp] at hpr hzl hzs
  obtain ⟨s, hs⟩ : ∃ s, briefQ x 128 % p = s := ⟨_, rfl⟩
  have hp2 : 2 ≤ p := hpr.1
  have hsp : s < p := by rw [← hs]; exact Nat.mod_lt _ (by omega)
  have HS := Lib.hid hs
  have hmay := ZL127_may
  obtain ⟨hr, hp0, h128, hodd, h3m, hnum, hmod, hlim, hlow⟩ := may_is ZL127_lim hmay
  rw [hzl] at hmod
  have hmb := mod_big hmod
  have hf := hpr.fermat s
  rw [Nat.mod_eq_of_lt hsp] at hf
  have EX1 : mexpQ (num s) ZL127 p = (num s, 0) := by
    unfold mexpQ
    rw [under_num hsp hmb, hr, val_num, hzl, hf]
    rfl
  obtain ⟨v, hv⟩ : ∃ v, s ^ (p - 1) % p = v := ⟨_, rfl⟩
  have hv1 : (s = 0 → num v = []) ∧ (s ≠ 0 → num v = [1]) := by
    constructor
    · intro h
      rw [← hv, h, Nat.zero_pow (by omega), Nat.zero_mod, num_zero]
    · intro h
      have h9 := hpr.less s (fun hd => by have := Nat.le_of_dvd (by omega) hd; omega)
      rw [← hv, h9]
      exact num_small (by decide) (by decide)
  have EX2 : mexpQ (num s) ZS127 p = (num v, 0) := by
    unfold mexpQ
    rw [under_num hsp hmb, ZS127_right, val_num, hzs, hv]
    rfl
  have HEX1 := Lib.hid EX1
  have HEX2 := Lib.hid EX2
  have HV1 := Lib.hid hv1
  have HR := Lib.hid hr
  have HZL := Lib.hid hzl
  have HMAY := Lib.hid hmay
  have hpp : p + 1 = 2 ^ 127 := by
    have h := Nat.sub_add_cancel (show 1 ≤ 2 ^ 127 from Nat.pow_pos (by decide))
    rw [hp] at h
    exact h
  have HPP := Lib.hid hpp
  clear h0 hz hp hpr hzl hzs hs hmay hr hp0 h128 hodd h3m hnum hmod hlim hlow hmb hf EX1 EX2 hv hv1 hpp
  go_enter Try.func7, Try.ntmps7
  go_wp2_with (refine wpList_mkU _ _ rfl rfl _ _ _ _ 4 rfl rfl rfl rfl (by decide) ?_)
  intro w1 hblk hb1
  obtain ⟨G, hG⟩ : ∃ G, w.heap.size + 1 = G := ⟨_, rfl⟩
  have hwG : w.heap.size ≤ G := by omega
  have hbb : Below w.heap.size w (w.alloc (.cells #[.int .i64 31, .int .i64 61, .int .i64 127, .int .i64 521] 3)) := kp_alloc (Below.refl _ _) _
  have h9 : (w.alloc (.cells #[.int .i64 31, .int .i64 61, .int .i64 127, .int .i64 521] 3)).heap.size = w.heap.size + 1 := by simp
  have hb2 : Below (w.alloc (.cells #[.int .i64 31, .int .i64 61, .int .i64 127, .int .i64 521] 3)).heap.size (w.alloc (.cells #[.int .i64 31, .int .i64 61, .int .i64 127, .int .i64 521] 3)) w1 := by rw [h9]; exact hb1
  have H1 : Hid (BlkU w1 G (List.replicate 4 0) ∧ Below w.heap.size w w1) := ⟨by rw [← hG]; exact hblk, kp_call hbb hb2⟩
  clear hblk hb1 hb2 hbb h9
  try rw [hG]
  have HG := Lib.hid hG
  clear hG
  go_wp2
  go_loopw [7] (fun vi wl => ∃ (i : Nat) (Z : List Nat), vi = .int .i64 (i : Int) ∧ i ≤ 127 ∧ Hid (BlkU wl G Z ∧ Z.length = 4 ∧ Lim Z ∧ val Z + 1 = 2 ^ i ∧ Below w.heap.size w wl)) (fun vi _ => 127 - (intOf vi).toNat)
  case atStart => exact ⟨0, List.replicate 4 0, rfl, Nat.zero_le _, H1.out.1, by simp, Lim.rep 4, by rw [val_zero], H1.out.2⟩
  case round =>
    obtain ⟨i, Z, rfl, hi, HK⟩ := hrel
    clear H1
    by_cases hlt : i < 127
    · as_aux_lemma =>
      have j1 : (i : Int) < 127 := by omega
      have e3 : IntKind.i64.wrap ((i : Int) + 1) = (i : Int) + 1 := IntWalk.i64_in _ (by omega)
      obtain ⟨f1, f2, f3, f4, f5⟩ := HK.out
      obtain ⟨z1, z2, z3, z4, z5⟩ := low_bit Z f3 i (by omega) f4
      obtain ⟨k, hk⟩ : ∃ k, i / 32 = k := ⟨_, rfl⟩
      obtain ⟨t, ht⟩ : ∃ t, i % 32 = t := ⟨_, rfl⟩
      rw [hk] at z1 z2 z3 z5
      rw [ht] at z1 z2 z3 z4 z5
      have hkl : k < Z.length := by omega
      have cq := f1.cell (j := k) hkl
      have fq := f1.free k
      have hQ32 := f3.getD k
      obtain ⟨cv, hcv⟩ : ∃ cv, Z.getD k 0 = cv := ⟨_, rfl⟩
      obtain ⟨yt, hyt⟩ : ∃ yt, 2 ^ t = yt := ⟨_, rfl⟩
      rw [hcv] at z1 z2 z3 z5 cq hQ32
      have l1 : IntKind.u32.wrap ((1 : Int) * 2 ^ t) = (yt : Int) := by
        rw [show (1 : Int) * 2 ^ t = ((2 ^ t : Nat) : Int) by push_cast; omega, hyt]
        exact IntWalk.u32_in _ (by omega)
      have l2 : (2 : Int) ^ t = (yt : Int) := by
        rw [show (2 : Int) ^ t = ((2 ^ t : Nat) : Int) by push_cast; rfl, hyt]
      have l3 : (yt : Int) % 4294967296 = (yt : Int) := by omega
      have l4 : IntKind.u32.wrap (yt : Int) = (yt : Int) := IntWalk.u32_in _ (by omega)
      rw [hyt] at z1 z2 z3 z4 z5
      have hor : bits .or .u32 (cv : Int) (yt : Int) = ((cv + yt : Nat) : Int) := by
        rw [u32_or_nat _ _ (by omega) (by omega), z2]
      obtain ⟨r, hr9⟩ : ∃ r, cv + yt = r := ⟨_, rfl⟩
      rw [hr9] at hor z3 z5
      have e5 : (i : Int).tdiv 32 = (k : Int) := by rw [Int.tdiv_eq_ediv_of_nonneg (by omega)]; omega
      have e6 : (i : Int) / 32 = (k : Int) := by omega
      have e7 : (i : Int).tmod 32 = (t : Int) := by rw [Int.tmod_eq_emod_of_nonneg (by omega)]; omega
      have e8 : (i : Int) % 32 = (t : Int) := by omega
      have e9 : IntKind.i64.wrap (k : Int) = (k : Int) := IntWalk.i64_in _ (by omega)
      have e10 : min t 32 = t := by omega
      have j2 : (0 : Int) ≤ (k : Int) := by omega
      have j3 : (k : Int) < 4 := by omega
      have j4 : (0 : Int) ≤ (t : Int) := by omega
      have j5 : k < 4 := by omega
      have HN : Hid (BlkU (wr.setCell ⟨G, k, none⟩ (.int .u32 (r : Int))).drew G (Z.set k r) ∧ (Z.set k r).length = 4 ∧ Lim (Z.set k r) ∧ val (Z.set k r) + 1 = 2 ^ (i + 1) ∧ Below w.heap.size w ((wr.setCell ⟨G, k, none⟩ (.int .u32 (r : Int))).drew)) :=
        ⟨(f1.set k r).drew, by rw [List.length_set]; exact f2, f3.set k z3, z5, (kp_set f5 hwG).drew⟩
      have cq1 : wr.drew.cell? ⟨G, k, none⟩ = some (.int .u32 (cv : Int)) := cq
      have fq1 : wr.drew.frozen? ⟨G, k, none⟩ = false := fq
      clear f1 f2 f3 f4 f5 hk ht z1 z2 z3 z4 z5 hcv hyt hr9 HK cq fq hkl
      go_wp2_with fail
      go_region
      go_wp2
      go_roundw
      case rel => exact ⟨i + 1, _, by go_num, by omega, HN⟩
      case measure => simp [intOf]; omega
    · as_aux_lemma =>
      have j1 : ¬ (i : Int) < 127 := by omega
      obtain ⟨f1, f2, f3, f4, f5⟩ := HK.out
      rw [show i = 127 by omega, ← HPP.out] at f4
      have hZ : Z = ZL127 := list_of_val f3 ZL127_lim (by rw [f2]; rfl) (by rw [HZL.out]; omega)
      rw [hZ] at f1
      have RM := Lib.hid (blk_ru f1 (by rfl : ZL127.length = 4) ZL127_lim)
      have HB := Lib.hid f5
      clear f1 f2 f3 f4 f5 hZ HK
      go_wp2_with fail
      (with_reducible refine (new_yes (some ⟨G, 0, none⟩) 4 4 ZL127 wr RM.out HMAY.out).mono ?_)
      rintro e w2 ⟨g, rfl, hg, hM, hb⟩
      replace RM := Lib.hid (RM.out.below hb)
      replace HB := Lib.hid (kp_call HB.out hb)
      have MD1 := Lib.hid (HZL.out ▸ hM : MD w2 g p)
      clear hM
      clear hb
      go_wp2_with fail
      (with_reducible refine ((show Calls _ _ _ _ (fun e w' => ∃ A' n' c', e = .returned (.tuple #[.slice A' n' c', .bool true]) ∧ RU w' A' n' (num s) ∧ n' ≤ 256 ∧ Below w2.heap.size w2 w') from HS.out ▸ HZL.out ▸ lbelow_any A (some ⟨G, 0, none⟩) n0 c0 4 4 x ZL127 w2 (IX.out.below HB.out) RM.out (by omega) le0 (by decide) HR.out (by decide))).mono ?_)
      rintro e w3 ⟨A3, k3, d3, rfl, r3, l3, hb⟩
      replace RM := Lib.hid (RM.out.below hb)
      replace MD1 := Lib.hid (MD1.out.below hb)
      replace HB := Lib.hid (kp_call HB.out hb)
      have R3 := Lib.hid r3
      clear r3
      clear hb
      go_wp2_with fail
      (with_reducible refine (mtwin_any (some ⟨G, 0, none⟩) 4 4 ZL127 w3 RM.out (by decide)).mono ?_)
      rintro e w4 ⟨A4, k4, rfl, o4, hb⟩
      have hcap := o4.cap
      obtain ⟨gT, hA4, hT1, hT2⟩ := o4.shape (by omega)
      subst hA4
      obtain ⟨b9, o9, he9, hb9, hc9⟩ := o4.reads (by decide)
      injection he9 with he9
      injection he9 with he1 he2
      subst he1; subst he2
      have cz := hc9 0 (.int .u32 4294967295) rfl
      have cz : w4.cell? ⟨gT, 0, none⟩ = some (.int .u32 4294967295) := cz
      have fz := o4.free 0
      have hgT : w3.heap.size ≤ gT := hT1
      have hge := HB.out.size
      have hbT : Below w3.heap.size w3 (w4.setCell ⟨gT, 0, none⟩ (.int .u32 4294967294)) := kp_set hb hT1
      have hst : RU (w4.setCell ⟨gT, 0, none⟩ (.int .u32 4294967294)) (some ⟨gT, 0, none⟩) 4 ZS127 := ru_of_own (o4.stored 0 (.int .u32 4294967294)) ZS127_lim
      have RS := Lib.hid hst
      replace RM := Lib.hid (RM.out.below hbT)
      replace MD1 := Lib.hid (MD1.out.below hbT)
      replace R3 := Lib.hid (R3.out.below hbT)
      replace HB := Lib.hid (kp_call HB.out hbT)
      clear o4 hc9 hst hT2 hb hbT hge hcap
      go_wp2_with fail
      (with_reducible refine ((HEX2.out ▸ mexp_all g p A3 (some ⟨gT, 0, none⟩) k3 d3 4 k4 (num s) ZS127 _ MD1.out R3.out RS.out (by omega) (by decide) : Calls Try.prog _ _ _ (NumR _ (num v, 0)))).mono ?_)
      rintro e w5 ⟨A6, k6, d6, rfl, s6, l6, m6, q6, hb⟩
      replace RM := Lib.hid (RM.out.below hb)
      replace MD1 := Lib.hid (MD1.out.below hb)
      replace R3 := Lib.hid (R3.out.below hb)
      replace RS := Lib.hid (RS.out.below hb)
      replace HB := Lib.hid (kp_call HB.out hb)
      have R6 := Lib.hid s6.ru
      clear s6
      clear hb
      clear RS
      go_wp2_with fail
      (with_reducible refine ((HEX1.out ▸ mexp_all g p A3 (some ⟨G, 0, none⟩) k3 d3 4 4 (num s) ZL127 w5 MD1.out R3.out RM.out (by omega) (by decide) : Calls Try.prog _ _ _ (NumR w5 (num s, 0)))).mono ?_)
      rintro e w6 ⟨A7, k7, d7, rfl, s7, l7, m7, q7, hb⟩
      replace RM := Lib.hid (RM.out.below hb)
      replace MD1 := Lib.hid (MD1.out.below hb)
      replace R3 := Lib.hid (R3.out.below hb)
      replace R6 := Lib.hid (R6.out.below hb)
      replace HB := Lib.hid (kp_call HB.out hb)
      have R7 := Lib.hid s7.ru
      clear s7
      clear hb
      clear RM MD1
      go_wp2_with fail
      (with_reducible refine (same_t A7 A3 k7 d7 k3 d3 _ _ w6 R7.out R3.out (by omega) (by omega) rfl).mono ?_)
      rintro e w7 ⟨rfl, hb⟩
      replace R3 := Lib.hid (R3.out.below hb)
      replace R6 := Lib.hid (R6.out.below hb)
      replace R7 := Lib.hid (R7.out.below hb)
      replace HB := Lib.hid (kp_call HB.out hb)
      clear hb
      clear R7
      have hk3 : k3 = (num s).length := R3.out.len.symm
      have hk6 : k6 = (num v).length := R6.out.len.symm
      by_cases hs0 : s = 0
      · have hk30 : k3 = 0 := by rw [hk3, hs0, num_zero]; rfl
        have hk60 : k6 = 0 := by rw [hk6, HV1.out.1 hs0]; rfl
        clear hk3 hk6
        subst hk30; subst hk60
        go_wp2_with fail
        (with_reducible refine (mworks_any w7).mono ?_)
        rintro e w8 ⟨rfl, hb⟩
        replace HB := Lib.hid (kp_call HB.out hb)
        clear hb
        go_wp2
        go_ret
        exact ⟨rfl, HB.out⟩
      · have hv9 := HV1.out.2 hs0
        have hk30 : 0 < k3 := by
          rcases Nat.eq_zero_or_pos k3 with h | h
          · rw [h] at hk3
            have h9 := List.eq_nil_of_length_eq_zero hk3.symm
            have h10 := val_num s
            rw [h9] at h10
            exact absurd h10.symm hs0
          · exact h
        have t0 : ((k3 : Int) == 0) = false := by simp; omega
        rw [hv9] at R6
        clear hk3 hk6 hv9
        have hbb : Below w7.heap.size w7 (w7.alloc (.cells #[.int .u32 1] 31)) := kp_alloc (Below.refl _ _) _
        have K1 : Hid (BlkU (w7.alloc (.cells #[.int .u32 1] 31)) w7.heap.size [1]) := has_new _ _
        replace R6 := Lib.hid (R6.out.below hbb)
        replace HB := Lib.hid (kp_call HB.out hbb)
        clear hbb
        go_wp2_with fail
        (with_reducible refine (same_t A6 (some ⟨w7.heap.size, 0, none⟩) k6 d6 1 1 [1] [1] _ R6.out (one_ru K1.out (by decide)) (by omega) (by decide) rfl).mono ?_)
        rintro e w8 ⟨rfl, hb⟩
        replace HB := Lib.hid (kp_call HB.out hb)
        clear hb
        go_wp2_with fail
        (with_reducible refine (mworks_any w8).mono ?_)
        rintro e w9 ⟨rfl, hb⟩
        replace HB := Lib.hid (kp_call HB.out hb)
        clear hb
        go_wp2
        go_ret
        exact ⟨rfl, HB.out⟩
def ZL521 : List Nat := [4294967295, 4294967295, 4294967295, 4294967295, 4294967295, 4294967295, 4294967295, 4294967295, 4294967295, 4294967295, 4294967295, 4294967295, 4294967295, 4294967295, 4294967295, 4294967295, 511]
def ZS521 : List Nat := [4294967294, 4294967295, 4294967295, 4294967295, 4294967295, 4294967295, 4294967295, 4294967295, 4294967295, 4294967295, 4294967295, 4294967295, 4294967295, 4294967295, 4294967295, 4294967295, 511]
theorem ZL521_lim : Lim ZL521 := by unfold Lim ZL521; decide
theorem ZS521_lim : Lim ZS521 := by unfold Lim ZS521; decide
theorem ZL521_val : val ZL521 = 2 ^ 521 - 1 := by kernel_rfl
theorem ZS521_val : val ZS521 = 2 ^ 521 - 1 - 1 := by kernel_rfl
theorem ZL521_may : mayB ZL521 = true := by kernel_rfl
theorem ZS521_right : rightB ZS521 = true := by kernel_rfl
set_option maxHeartbeats 32000000 in
set_option exponentiation.threshold 600 in
theorem primes_521 (A : Option Addr) (n0 c0 : Nat) (x : List Nat) (z : Nat) (w : World) (hz : z % 4 = 3) (hz2 : z ≤ 255) (h0 : IsUs w A n0 c0 x) (hn : n0 ≤ 300) :
    Calls Try.prog 7 #[.int .u8 (z : Int), .slice A n0 c0] w fun e w' => e = .returned (.bool true) ∧ Below w.heap.size w w' := by
  have IX := Lib.hid h0.ru
  have le0 := h0.le
  have i0 : ¬ (n0 : Int) > 300 := by omega
  have i1 : (z : Int) % 4 = 3 := by omega
  have i2 : (z : Int).tmod 4 = 3 := by rw [Int.tmod_eq_emod_of_nonneg (by omega)]; omega
  obtain ⟨p, hp⟩ : ∃ p, 2 ^ 521 - 1 = p := ⟨_, rfl⟩
  have hpr := pr_521
  have hzl := ZL521_val
  have hzs := ZS521_val
  rw [hp] at hpr hzl hzs
  obtain ⟨s, hs⟩ : ∃ s, briefQ x 128 % p = s := ⟨_, rfl⟩
  have hp2 : 2 ≤ p := hpr.1
  have hsp : s < p := by rw [← hs]; exact Nat.mod_lt _ (by omega)
  have HS := Lib.hid hs
  have hmay := ZL521_may
  obtain ⟨hr, hp0, h128, hodd, h3m, hnum, hmod, hlim, hlow⟩ := may_is ZL521_lim hmay
  rw [hzl] at hmod
  have hmb := mod_big hmod
  have hf := hpr.fermat s
  rw [Nat.mod_eq_of_lt hsp] at hf
  have EX1 : mexpQ (num s) ZL521 p = (num s, 0) := by
    unfold mexpQ
    rw [under_num hsp hmb, hr, val_num, hzl, hf]
    rfl
  obtain ⟨v, hv⟩ : ∃ v, s ^ (p - 1) % p = v := ⟨_, rfl⟩
  have hv1 : (s = 0 → num v = []) ∧ (s ≠ 0 → num v = [1]) := by
    constructor
    · intro h
      rw [← hv, h, Nat.zero_pow (by omega), Nat.zero_mod, num_zero]
    · intro h
      have h9 := hpr.less s (fun hd => by have := Nat.le_of_dvd (by omega) hd; omega)
      rw [← hv, h9]
      exact num_small (by decide) (by decide)
  have EX2 : mexpQ (num s) ZS521 p = (num v, 0) := by
    unfold mexpQ
    rw [under_num hsp hmb, ZS521_right, val_num, hzs, hv]
    rfl
  have HEX1 := Lib.hid EX1
  have HEX2 := Lib.hid EX2
  have HV1 := Lib.hid hv1
  have HR := Lib.hid hr
  have HZL := Lib.hid hzl
  have HMAY := Lib.hid hmay
  have hpp : p + 1 = 2 ^ 521 := by
    have h := Nat.sub_add_cancel (show 1 ≤ 2 ^ 521 from Nat.pow_pos (by decide))
    rw [hp] at h
    exact h
  have HPP := Lib.hid hpp
  clear h0 hz hp hpr hzl hzs hs hmay hr hp0 h128 hodd h3m hnum hmod hlim hlow hmb hf EX1 EX2 hv hv1 hpp
  go_enter Try.func7, Try.ntmps7
  go_wp2_with (refine wpList_mkU _ _ rfl rfl _ _ _ _ 17 rfl rfl rfl rfl (by decide) ?_)
  intro w1 hblk hb1
  obtain ⟨G, hG⟩ : ∃ G, w.heap.size + 1 = G := ⟨_, rfl⟩
  have hwG : w.heap.size ≤ G := by omega
  have hbb : Below w.heap.size w (w.alloc (.cells #[.int .i64 31, .int .i64 61, .int .i64 127, .int .i64 521] 3)) := kp_alloc (Below.refl _ _) _
  have h9 : (w.alloc (.cells #[.int .i64 31, .int .i64 61, .int .i64 127, .int .i64 521] 3)).heap.size = w.heap.size + 1 := by simp
  have hb2 : Below (w.alloc (.cells #[.int .i64 31, .int .i64 61, .int .i64 127, .int .i64 521] 3)).heap.size (w.alloc (.cells #[.int .i64 31, .int .i64 61, .int .i64 127, .int .i64 521] 3)) w1 := by rw [h9]; exact hb1
  have H1 : Hid (BlkU w1 G (List.replicate 17 0) ∧ Below w.heap.size w w1) := ⟨by rw [← hG]; exact hblk, kp_call hbb hb2⟩
  clear hblk hb1 hb2 hbb h9
  try rw [hG]
  have HG := Lib.hid hG
  clear hG
  go_wp2
  go_loopw [7] (fun vi wl => ∃ (i : Nat) (Z : List Nat), vi = .int .i64 (i : Int) ∧ i ≤ 521 ∧ Hid (BlkU wl G Z ∧ Z.length = 17 ∧ Lim Z ∧ val Z + 1 = 2 ^ i ∧ Below w.heap.size w wl)) (fun vi _ => 521 - (intOf vi).toNat)
  case atStart => exact ⟨0, List.replicate 17 0, rfl, Nat.zero_le _, H1.out.1, by simp, Lim.rep 17, by rw [val_zero], H1.out.2⟩
  case round =>
    obtain ⟨i, Z, rfl, hi, HK⟩ := hrel
    clear H1
    by_cases hlt : i < 521
    · as_aux_lemma =>
      have j1 : (i : Int) < 521 := by omega
      have e3 : IntKind.i64.wrap ((i : Int) + 1) = (i : Int) + 1 := IntWalk.i64_in _ (by omega)
      obtain ⟨f1, f2, f3, f4, f5⟩ := HK.out
      obtain ⟨z1, z2, z3, z4, z5⟩ := low_bit Z f3 i (by omega) f4
      obtain ⟨k, hk⟩ : ∃ k, i / 32 = k := ⟨_, rfl⟩
      obtain ⟨t, ht⟩ : ∃ t, i % 32 = t := ⟨_, rfl⟩
      rw [hk] at z1 z2 z3 z5
      rw [ht] at z1 z2 z3 z4 z5
      have hkl : k < Z.length := by omega
      have cq := f1.cell (j := k) hkl
      have fq := f1.free k
      have hQ32 := f3.getD k
      obtain ⟨cv, hcv⟩ : ∃ cv, Z.getD k 0 = cv := ⟨_, rfl⟩
      obtain ⟨yt, hyt⟩ : ∃ yt, 2 ^ t = yt := ⟨_, rfl⟩
      rw [hcv] at z1 z2 z3 z5 cq hQ32
      have l1 : IntKind.u32.wrap ((1 : Int) * 2 ^ t) = (yt : Int) := by
        rw [show (1 : Int) * 2 ^ t = ((2 ^ t : Nat) : Int) by push_cast; omega, hyt]
        exact IntWalk.u32_in _ (by omega)
      have l2 : (2 : Int) ^ t = (yt : Int) := by
        rw [show (2 : Int) ^ t = ((2 ^ t : Nat) : Int) by push_cast; rfl, hyt]
      have l3 : (yt : Int) % 4294967296 = (yt : Int) := by omega
      have l4 : IntKind.u32.wrap (yt : Int) = (yt : Int) := IntWalk.u32_in _ (by omega)
      rw [hyt] at z1 z2 z3 z4 z5
      have hor : bits .or .u32 (cv : Int) (yt : Int) = ((cv + yt : Nat) : Int) := by
        rw [u32_or_nat _ _ (by omega) (by omega), z2]
      obtain ⟨r, hr9⟩ : ∃ r, cv + yt = r := ⟨_, rfl⟩
      rw [hr9] at hor z3 z5
      have e5 : (i : Int).tdiv 32 = (k : Int) := by rw [Int.tdiv_eq_ediv_of_nonneg (by omega)]; omega
      have e6 : (i : Int) / 32 = (k : Int) := by omega
      have e7 : (i : Int).tmod 32 = (t : Int) := by rw [Int.tmod_eq_emod_of_nonneg (by omega)]; omega
      have e8 : (i : Int) % 32 = (t : Int) := by omega
      have e9 : IntKind.i64.wrap (k : Int) = (k : Int) := IntWalk.i64_in _ (by omega)
      have e10 : min t 32 = t := by omega
      have j2 : (0 : Int) ≤ (k : Int) := by omega
      have j3 : (k : Int) < 17 := by omega
      have j4 : (0 : Int) ≤ (t : Int) := by omega
      have j5 : k < 17 := by omega
      have HN : Hid (BlkU (wr.setCell ⟨G, k, none⟩ (.int .u32 (r : Int))).drew G (Z.set k r) ∧ (Z.set k r).length = 17 ∧ Lim (Z.set k r) ∧ val (Z.set k r) + 1 = 2 ^ (i + 1) ∧ Below w.heap.size w ((wr.setCell ⟨G, k, none⟩ (.int .u32 (r : Int))).drew)) :=
        ⟨(f1.set k r).drew, by rw [List.length_set]; exact f2, f3.set k z3, z5, (kp_set f5 hwG).drew⟩
      have cq1 : wr.drew.cell? ⟨G, k, none⟩ = some (.int .u32 (cv : Int)) := cq
      have fq1 : wr.drew.frozen? ⟨G, k, none⟩ = false := fq
      clear f1 f2 f3 f4 f5 hk ht z1 z2 z3 z4 z5 hcv hyt hr9 HK cq fq hkl
      go_wp2_with fail
      go_region
      go_wp2
      go_roundw
      case rel => exact ⟨i + 1, _, by go_num, by omega, HN⟩
      case measure => simp [intOf]; omega
    · as_aux_lemma =>
      have j1 : ¬ (i : Int) < 521 := by omega
      obtain ⟨f1, f2, f3, f4, f5⟩ := HK.out
      rw [show i = 521 by omega, ← HPP.out] at f4
      have hZ : Z = ZL521 := list_of_val f3 ZL521_lim (by rw [f2]; rfl) (by rw [HZL.out]; omega)
      rw [hZ] at f1
      have RM := Lib.hid (blk_ru f1 (by rfl : ZL521.length = 17) ZL521_lim)
      have HB := Lib.hid f5
      clear f1 f2 f3 f4 f5 hZ HK
      go_wp2_with fail
      (with_reducible refine (new_yes (some ⟨G, 0, none⟩) 17 17 ZL521 wr RM.out HMAY.out).mono ?_)
      rintro e w2 ⟨g, rfl, hg, hM, hb⟩
      replace RM := Lib.hid (RM.out.below hb)
      replace HB := Lib.hid (kp_call HB.out hb)
      have MD1 := Lib.hid (HZL.out ▸ hM : MD w2 g p)
      clear hM
      clear hb
      go_wp2_with fail
      (with_reducible refine ((show Calls _ _ _ _ (fun e w' => ∃ A' n' c', e = .returned (.tuple #[.slice A' n' c', .bool true]) ∧ RU w' A' n' (num s) ∧ n' ≤ 256 ∧ Below w2.heap.size w2 w') from HS.out ▸ HZL.out ▸ lbelow_any A (some ⟨G, 0, none⟩) n0 c0 17 17 x ZL521 w2 (IX.out.below HB.out) RM.out (by omega) le0 (by decide) HR.out (by decide))).mono ?_)
      rintro e w3 ⟨A3, k3, d3, rfl, r3, l3, hb⟩
      replace RM := Lib.hid (RM.out.below hb)
      replace MD1 := Lib.hid (MD1.out.below hb)
      replace HB := Lib.hid (kp_call HB.out hb)
      have R3 := Lib.hid r3
      clear r3
      clear hb
      go_wp2_with fail
      (with_reducible refine (mtwin_any (some ⟨G, 0, none⟩) 17 17 ZL521 w3 RM.out (by decide)).mono ?_)
      rintro e w4 ⟨A4, k4, rfl, o4, hb⟩
      have hcap := o4.cap
      obtain ⟨gT, hA4, hT1, hT2⟩ := o4.shape (by omega)
      subst hA4
      obtain ⟨b9, o9, he9, hb9, hc9⟩ := o4.reads (by decide)
      injection he9 with he9
      injection he9 with he1 he2
      subst he1; subst he2
      have cz := hc9 0 (.int .u32 4294967295) rfl
      have cz : w4.cell? ⟨gT, 0, none⟩ = some (.int .u32 4294967295) := cz
      have fz := o4.free 0
      have hgT : w3.heap.size ≤ gT := hT1
      have hge := HB.out.size
      have hbT : Below w3.heap.size w3 (w4.setCell ⟨gT, 0, none⟩ (.int .u32 4294967294)) := kp_set hb hT1
      have hst : RU (w4.setCell ⟨gT, 0, none⟩ (.int .u32 4294967294)) (some ⟨gT, 0, none⟩) 17 ZS521 := ru_of_own (o4.stored 0 (.int .u32 4294967294)) ZS521_lim
      have RS := Lib.hid hst
      replace RM := Lib.hid (RM.out.below hbT)
      replace MD1 := Lib.hid (MD1.out.below hbT)
      replace R3 := Lib.hid (R3.out.below hbT)
      replace HB := Lib.hid (kp_call HB.out hbT)
      clear o4 hc9 hst hT2 hb hbT hge hcap
      go_wp2_with fail
      (with_reducible refine ((HEX2.out ▸ mexp_all g p A3 (some ⟨gT, 0, none⟩) k3 d3 17 k4 (num s) ZS521 _ MD1.out R3.out RS.out (by omega) (by decide) : Calls Try.prog _ _ _ (NumR _ (num v, 0)))).mono ?_)
      rintro e w5 ⟨A6, k6, d6, rfl, s6, l6, m6, q6, hb⟩
      replace RM := Lib.hid (RM.out.below hb)
      replace MD1 := Lib.hid (MD1.out.below hb)
      replace R3 := Lib.hid (R3.out.below hb)
      replace RS := Lib.hid (RS.out.below hb)
      replace HB := Lib.hid (kp_call HB.out hb)
      have R6 := Lib.hid s6.ru
      clear s6
      clear hb
      clear RS
      go_wp2_with fail
      (with_reducible refine ((HEX1.out ▸ mexp_all g p A3 (some ⟨G, 0, none⟩) k3 d3 17 17 (num s) ZL521 w5 MD1.out R3.out RM.out (by omega) (by decide) : Calls Try.prog _ _ _ (NumR w5 (num s, 0)))).mono ?_)
      rintro e w6 ⟨A7, k7, d7, rfl, s7, l7, m7, q7, hb⟩
      replace RM := Lib.hid (RM.out.below hb)
      replace MD1 := Lib.hid (MD1.out.below hb)
      replace R3 := Lib.hid (R3.out.below hb)
      replace R6 := Lib.hid (R6.out.below hb)
      replace HB := Lib.hid (kp_call HB.out hb)
      have R7 := Lib.hid s7.ru
      clear s7
      clear hb
      clear RM MD1
      go_wp2_with fail
      (with_reducible refine (same_t A7 A3 k7 d7 k3 d3 _ _ w6 R7.out R3.out (by omega) (by omega) rfl).mono ?_)
      rintro e w7 ⟨rfl, hb⟩
      replace R3 := Lib.hid (R3.out.below hb)
      replace R6 := Lib.hid (R6.out.below hb)
      replace R7 := Lib.hid (R7.out.below hb)
      replace HB := Lib.hid (kp_call HB.out hb)
      clear hb
      clear R7
      have hk3 : k3 = (num s).length := R3.out.len.symm
      have hk6 : k6 = (num v).length := R6.out.len.symm
      by_cases hs0 : s = 0
      · have hk30 : k3 = 0 := by rw [hk3, hs0, num_zero]; rfl
        have hk60 : k6 = 0 := by rw [hk6, HV1.out.1 hs0]; rfl
        clear hk3 hk6
        subst hk30; subst hk60
        go_wp2_with fail
        (with_reducible refine (mworks_any w7).mono ?_)
        rintro e w8 ⟨rfl, hb⟩
        replace HB := Lib.hid (kp_call HB.out hb)
        clear hb
        go_wp2
        go_ret
        exact ⟨rfl, HB.out⟩
      · have hv9 := HV1.out.2 hs0
        have hk30 : 0 < k3 := by
          rcases Nat.eq_zero_or_pos k3 with h | h
          · rw [h] at hk3
            have h9 := List.eq_nil_of_length_eq_zero hk3.symm
            have h10 := val_num s
            rw [h9] at h10
            exact absurd h10.symm hs0
          · exact h
        have t0 : ((k3 : Int) == 0) = false := by simp; omega
        rw [hv9] at R6
        clear hk3 hk6 hv9
        have hbb : Below w7.heap.size w7 (w7.alloc (.cells #[.int .u32 1] 31)) := kp_alloc (Below.refl _ _) _
        have K1 : Hid (BlkU (w7.alloc (.cells #[.int .u32 1] 31)) w7.heap.size [1]) := has_new _ _
        replace R6 := Lib.hid (R6.out.below hbb)
        replace HB := Lib.hid (kp_call HB.out hbb)
        clear hbb
        go_wp2_with fail
        (with_reducible refine (same_t A6 (some ⟨w7.heap.size, 0, none⟩) k6 d6 1 1 [1] [1] _ R6.out (one_ru K1.out (by decide)) (by omega) (by decide) rfl).mono ?_)
        rintro e w8 ⟨rfl, hb⟩
        replace HB := Lib.hid (kp_call HB.out hb)
        clear hb
        go_wp2_with fail
        (with_reducible refine (mworks_any w8).mono ?_)
        rintro e w9 ⟨rfl, hb⟩
        replace HB := Lib.hid (kp_call HB.out hb)
        clear hb
        go_wp2
        go_ret
        exact ⟨rfl, HB.out⟩
theorem primes_walk (z : Int) (A : Option Addr) (n0 c0 : Nat) (x : List Nat) (w : World) (h1 : (Lit.int .u8 z).wf = true) (h0 : IsUs w A n0 c0 x) :
    Calls Try.prog 7 #[.int .u8 z, .slice A n0 c0] w fun e w' => e = .returned (.bool true) ∧ Below w.heap.size w w' := by
  obtain ⟨a1, a2⟩ := bounds_u8 h1
  obtain ⟨z', rfl⟩ : ∃ k : Nat, z = (k : Int) := ⟨z.toNat, by omega⟩
  by_cases hv : 300 < n0
  · have i0 : (n0 : Int) > 300 := by omega
    clear hv h0 h1
    go_enter Try.func7, Try.ntmps7
    go_wp2_with fail
    (with_reducible refine (mworks_any w).mono ?_)
    rintro e w1 ⟨rfl, hb⟩
    have HB := Lib.hid hb
    clear hb
    go_wp2
    go_ret
    exact ⟨rfl, HB.out⟩
  · have h4 : z' % 4 = 0 ∨ z' % 4 = 1 ∨ z' % 4 = 2 ∨ z' % 4 = 3 := by omega
    rcases h4 with h | h | h | h
    · exact primes_31 A n0 c0 x z' w h (by omega) h0 (by omega)
    · exact primes_61 A n0 c0 x z' w h (by omega) h0 (by omega)
    · exact primes_127 A n0 c0 x z' w h (by omega) h0 (by omega)
    · exact primes_521 A n0 c0 x z' w h (by omega) h0 (by omega)
end Go.Proofs.Ytcmhacecnahfoaa
