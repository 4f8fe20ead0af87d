/-
  mont: the statement MontSmall.
-/
import Derived.Test.YtcmhacecnahfoaaMk
namespace Go.Proofs.Ytcmhacecnahfoaa
open Go.RowKit Go
set_option linter.unusedVariables false
set_option linter.unusedSimpArgs false
set_option maxRecDepth 100000
theorem under_num {v m : Nat} (h : v < m) (hm : m < 4294967296 ^ 256) : underB (num v) m = true := by
  unfold underB
  rw [num_right, val_num, decide_eq_true h, decide_eq_true (Nat.lt_trans h hm)]
  rfl
theorem num_rightB {v : Nat} (h : v < 4294967296 ^ 256) : rightB (num v) = true := by rw [num_right]; exact decide_eq_true h
theorem small_big {v : Nat} (h : v ≤ 18446744073709551616) : v < 4294967296 ^ 256 := Nat.lt_of_le_of_lt h (by decide)
theorem may_small {m : Nat} (h : m ≤ 65535) : mayB (num m) = (decide (m % 2 = 1) && decide (3 ≤ m)) := by
  rcases Nat.eq_zero_or_pos m with h0 | h0
  · subst h0; rw [num_zero]; decide
  · rw [num_small h0 (by omega)]
    unfold mayB rightB
    rw [val_one]
    simp only [List.length_cons, List.length_nil, List.getD_cons_zero]
    by_cases h1 : m % 2 = 1
    · have : ¬ m % 2 = 0 := by omega
      have h2 : ¬ m = 0 := by omega
      simp [h1, h2]
    · have : m % 2 = 0 := by omega
      simp [this]
set_option maxHeartbeats 8000000 in
theorem small_no (m x y n : Nat) (w : World) (hm : m ≤ 65535) (hx : x ≤ 65535) (hy : y ≤ 65535) (hn : n ≤ 65535) (hno : mayB (num m) = false) :
    Calls Try.prog 6 #[.int .u16 (m : Int), .int .u16 (x : Int), .int .u16 (y : Int), .int .u16 (n : Int)] w fun e w' => e = .returned (.bool true) ∧ Below w.heap.size w w' := by
  have hno2 : m % 2 = 0 ∨ m < 3 := by
    rw [may_small hm] at hno
    rcases Nat.lt_or_ge m 3 with h | h
    · exact .inr h
    · rw [decide_eq_true h, Bool.and_true, decide_eq_false_iff_not] at hno
      exact .inl (by omega)
  have HNO := Lib.hid hno
  by_cases hev : m % 2 = 0
  · have i1 : (m : Int) % 2 = 0 := by omega
    have i2 : (m : Int).tmod 2 = 0 := by rw [Int.tmod_eq_emod_of_nonneg (by omega)]; omega
    clear hno hno2 hev
    go_enter Try.func6, Try.ntmps6
    go_wp2_with fail
    (with_reducible refine (number_any m w (by omega)).mono ?_)
    rintro e w1 ⟨A1, k1, d1, rfl, r1, m1, l1, q1, hb⟩
    have HB := Lib.hid hb
    have R1 := Lib.hid r1
    clear r1
    clear hb
    go_wp2_with fail
    (with_reducible refine (new_no A1 k1 d1 (num m) w1 R1.out (by omega) HNO.out).mono ?_)
    rintro e w2 ⟨rfl, hb⟩
    replace R1 := Lib.hid (R1.out.below hb)
    replace HB := Lib.hid (kp_call HB.out hb)
    clear hb
    go_wp2_with fail
    (with_reducible refine (mworks_any w2).mono ?_)
    rintro e w3 ⟨rfl, hb⟩
    replace R1 := Lib.hid (R1.out.below hb)
    replace HB := Lib.hid (kp_call HB.out hb)
    clear hb
    go_wp2
    go_ret
    exact ⟨rfl, HB.out⟩
  · have i1 : (m : Int) % 2 = 1 := by omega
    have i2 : (m : Int).tmod 2 = 1 := by rw [Int.tmod_eq_emod_of_nonneg (by omega)]; omega
    have i3 : (m : Int) < 3 := by omega
    clear hno hno2 hev
    go_enter Try.func6, Try.ntmps6
    go_wp2_with fail
    (with_reducible refine (number_any m w (by omega)).mono ?_)
    rintro e w1 ⟨A1, k1, d1, rfl, r1, m1, l1, q1, hb⟩
    have HB := Lib.hid hb
    have R1 := Lib.hid r1
    clear r1
    clear hb
    go_wp2_with fail
    (with_reducible refine (new_no A1 k1 d1 (num m) w1 R1.out (by omega) HNO.out).mono ?_)
    rintro e w2 ⟨rfl, hb⟩
    replace R1 := Lib.hid (R1.out.below hb)
    replace HB := Lib.hid (kp_call HB.out hb)
    clear hb
    go_wp2_with fail
    (with_reducible refine (mworks_any w2).mono ?_)
    rintro e w3 ⟨rfl, hb⟩
    replace R1 := Lib.hid (R1.out.below hb)
    replace HB := Lib.hid (kp_call HB.out hb)
    clear hb
    go_wp2
    go_ret
    exact ⟨rfl, HB.out⟩
set_option maxHeartbeats 16000000 in
theorem small_yes (m x y n : Nat) (w : World) (hm : m ≤ 65535) (hx : x ≤ 65535) (hy : y ≤ 65535) (hn : n ≤ 65535) (hyes : mayB (num m) = true) :
    Calls Try.prog 6 #[.int .u16 (m : Int), .int .u16 (x : Int), .int .u16 (y : Int), .int .u16 (n : Int)] w fun e w' => e = .returned (.bool true) ∧ Below w.heap.size w w' := by
  have h3 : m % 2 = 1 ∧ 3 ≤ m := by
    have h := hyes
    rw [may_small hm] at h
    simpa using h
  have HYES := Lib.hid hyes
  obtain ⟨a, ha⟩ : ∃ a, x % m = a := ⟨_, rfl⟩
  obtain ⟨b, hb9⟩ : ∃ b, y % m = b := ⟨_, rfl⟩
  have ham : a < m := by rw [← ha]; exact Nat.mod_lt _ (by omega)
  have hbm : b < m := by rw [← hb9]; exact Nat.mod_lt _ (by omega)
  have i1 : (m : Int) % 2 = 1 := by omega
  have i2 : (m : Int).tmod 2 = 1 := by rw [Int.tmod_eq_emod_of_nonneg (by omega)]; omega
  have i3 : ¬ (m : Int) < 3 := by omega
  have i4 : ¬ (m : Int) = 0 := by omega
  have i5 : ((m : Int) == 0) = false := by simp; omega
  have i6 : (x : Int) % (m : Int) = (a : Int) := by rw [← ha]; rfl
  have i7 : (x : Int).tmod (m : Int) = (a : Int) := by rw [Int.tmod_eq_emod_of_nonneg (by omega)]; exact i6
  have i8 : (y : Int) % (m : Int) = (b : Int) := by rw [← hb9]; rfl
  have i9 : (y : Int).tmod (m : Int) = (b : Int) := by rw [Int.tmod_eq_emod_of_nonneg (by omega)]; exact i8
  have hpi : (a : Int) * (b : Int) = ((a * b : Nat) : Int) := by push_cast; rfl
  have hpl : a * b ≤ 65535 * 65535 := Nat.mul_le_mul (by omega) (by omega)
  obtain ⟨ab, hab⟩ : ∃ ab, a * b = ab := ⟨_, rfl⟩
  rw [hab] at hpi hpl
  obtain ⟨pr, hpr⟩ : ∃ pr, ab % m = pr := ⟨_, rfl⟩
  have hprm : pr < m := by rw [← hpr]; exact Nat.mod_lt _ (by omega)
  have j1 : IntKind.u64.wrap ((a : Int) * (b : Int)) = (ab : Int) := by rw [hpi]; exact IntWalk.u64_in _ (by omega)
  have j2 : (ab : Int) % (m : Int) = (pr : Int) := by rw [← hpr]; rfl
  have j3 : (ab : Int).tmod (m : Int) = (pr : Int) := by rw [Int.tmod_eq_emod_of_nonneg (by omega)]; exact j2
  have MU : mmulQ (num a) (num b) m = (num pr, 0) := by
    unfold mmulQ
    rw [under_num ham (small_big (by omega)), under_num hbm (small_big (by omega)), val_num, val_num, hab, hpr]
    rfl
  have EX : mexpQ (num a) (num n) m = (num (a ^ n % m), 0) := by
    unfold mexpQ
    rw [under_num ham (small_big (by omega)), num_rightB (small_big (by omega)), val_num, val_num]
    rfl
  have HMU := Lib.hid MU
  have HEX := Lib.hid EX
  obtain ⟨pw, hpw⟩ : ∃ pw, a ^ n % m = pw := ⟨_, rfl⟩
  have HPW := Lib.hid hpw
  have hpwm : pw < m := by rw [← hpw]; exact Nat.mod_lt _ (by omega)
  clear hyes ha hb9 hpi hab hpr MU EX hpw
  go_enter Try.func6, Try.ntmps6
  go_wp2_with fail
  (with_reducible refine (number_any m w (by omega)).mono ?_)
  rintro e w1 ⟨A1, k1, d1, rfl, r1, m1, l1, q1, hb⟩
  have HB := Lib.hid hb
  have R1 := Lib.hid r1
  clear r1
  clear hb
  go_wp2_with fail
  (with_reducible refine (new_yes A1 k1 d1 (num m) w1 R1.out HYES.out).mono ?_)
  rintro e w2 ⟨g, rfl, hg, hM, hb⟩
  replace R1 := Lib.hid (R1.out.below hb)
  replace HB := Lib.hid (kp_call HB.out hb)
  have MD1 := Lib.hid (val_num m ▸ hM : MD w2 g m)
  clear hM
  clear hb
  clear R1
  go_wp2_with fail
  (with_reducible refine (number_any a w2 (by omega)).mono ?_)
  rintro e w3 ⟨A2, k2, d2, rfl, r2, m2, l2, q2, hb⟩
  replace MD1 := Lib.hid (MD1.out.below hb)
  replace HB := Lib.hid (kp_call HB.out hb)
  have R2 := Lib.hid r2
  clear r2
  clear hb
  go_wp2_with fail
  (with_reducible refine (number_any b w3 (by omega)).mono ?_)
  rintro e w4 ⟨A3, k3, d3, rfl, r3, m3, l3, q3, hb⟩
  replace MD1 := Lib.hid (MD1.out.below hb)
  replace R2 := Lib.hid (R2.out.below hb)
  replace HB := Lib.hid (kp_call HB.out hb)
  have R3 := Lib.hid r3
  clear r3
  clear hb
  go_wp2_with fail
  (with_reducible refine ((HMU.out ▸ mmul_any g m A2 A3 k2 d2 k3 d3 (num a) (num b) w4 MD1.out R2.out R3.out (by omega) (by omega) : Calls Try.prog _ _ _ (NumR w4 (num pr, 0)))).mono ?_)
  rintro e w5 ⟨A4, k4, d4, rfl, s4, l4, m4, q4, hb⟩
  replace MD1 := Lib.hid (MD1.out.below hb)
  replace R2 := Lib.hid (R2.out.below hb)
  replace R3 := Lib.hid (R3.out.below hb)
  replace HB := Lib.hid (kp_call HB.out hb)
  have R4 := Lib.hid s4.ru
  clear s4
  clear hb
  clear R2 R3
  go_wp2_with fail
  (with_reducible refine (number_any a w5 (by omega)).mono ?_)
  rintro e w6 ⟨A5, k5, d5, rfl, r5, m5, l5, q5, hb⟩
  replace MD1 := Lib.hid (MD1.out.below hb)
  replace R4 := Lib.hid (R4.out.below hb)
  replace HB := Lib.hid (kp_call HB.out hb)
  have R5 := Lib.hid r5
  clear r5
  clear hb
  go_wp2_with fail
  (with_reducible refine (number_any n w6 (by omega)).mono ?_)
  rintro e w7 ⟨A6, k6, d6, rfl, r6, m6, l6, q6, hb⟩
  replace MD1 := Lib.hid (MD1.out.below hb)
  replace R4 := Lib.hid (R4.out.below hb)
  replace R5 := Lib.hid (R5.out.below hb)
  replace HB := Lib.hid (kp_call HB.out hb)
  have R6 := Lib.hid r6
  clear r6
  clear hb
  go_wp2_with fail
  (with_reducible refine ((HPW.out ▸ HEX.out ▸ mexp_all g m A5 A6 k5 d5 k6 d6 (num a) (num n) w7 MD1.out R5.out R6.out (by omega) (by omega) : Calls Try.prog _ _ _ (NumR w7 (num pw, 0)))).mono ?_)
  rintro e w8 ⟨A7, k7, d7, rfl, s7, l7, m7, q7, hb⟩
  replace MD1 := Lib.hid (MD1.out.below hb)
  replace R4 := Lib.hid (R4.out.below hb)
  replace R5 := Lib.hid (R5.out.below hb)
  replace R6 := Lib.hid (R6.out.below hb)
  replace HB := Lib.hid (kp_call HB.out hb)
  have R7 := Lib.hid s7.ru
  clear s7
  clear hb
  clear R5 R6 MD1
  go_wp2
  go_loop [17, 18] (fun vu vi => ∃ (i u : Nat), vu = .int .u64 (u : Int) ∧ vi = .int .i64 (i : Int) ∧ i ≤ n ∧ u < m ∧ Hid (u = a ^ i % m)) (fun _ vi => n - (intOf vi).toNat)
  case atStart => exact ⟨0, 1, rfl, rfl, Nat.zero_le _, by omega, by unfold Hid; rw [Nat.pow_zero, Nat.mod_eq_of_lt (by omega)]⟩
  case round =>
    obtain ⟨i, u, rfl, rfl, hi, hu, HU⟩ := hrel
    by_cases hlt : i < n
    · have n1 : (i : Int) < (n : Int) := by omega
      have e3 : IntKind.i64.wrap ((i : Int) + 1) = (i : Int) + 1 := IntWalk.i64_in _ (by omega)
      have hqi : (u : Int) * (a : Int) = ((u * a : Nat) : Int) := by push_cast; rfl
      have hql : u * a ≤ 65535 * 65535 := Nat.mul_le_mul (by omega) (by omega)
      have hst : u * a % m = a ^ (i + 1) % m := by rw [HU.out, Nat.mod_mul_mod, ← Nat.pow_succ]
      obtain ⟨ua, hua⟩ : ∃ ua, u * a = ua := ⟨_, rfl⟩
      rw [hua] at hqi hql hst
      obtain ⟨r, hr⟩ : ∃ r, ua % m = r := ⟨_, rfl⟩
      rw [hr] at hst
      have hrm : r < m := by rw [← hr]; exact Nat.mod_lt _ (by omega)
      have n2 : IntKind.u64.wrap ((u : Int) * (a : Int)) = (ua : Int) := by rw [hqi]; exact IntWalk.u64_in _ (by omega)
      have n3 : (ua : Int) % (m : Int) = (r : Int) := by rw [← hr]; rfl
      have n4 : (ua : Int).tmod (m : Int) = (r : Int) := by rw [Int.tmod_eq_emod_of_nonneg (by omega)]; exact n3
      have HN := Lib.hid hst
      clear HU hqi hua hr hst
      go_wp2
      go_round
      case rel => exact ⟨i + 1, r, rfl, by go_num, by omega, hrm, HN⟩
      case measure => simp [intOf]; omega
    · have n1 : ¬ (i : Int) < (n : Int) := by omega
      have hup : u = pw := by rw [HU.out, show i = n by omega]; exact HPW.out
      clear HU
      subst hup
      go_wp2_with fail
      (with_reducible refine (number_any pr w8 (by omega)).mono ?_)
      rintro e w9 ⟨A8, k8, d8, rfl, r8, m8, l8, q8, hb⟩
      replace R4 := Lib.hid (R4.out.below hb)
      replace R7 := Lib.hid (R7.out.below hb)
      replace HB := Lib.hid (kp_call HB.out hb)
      have R8 := Lib.hid r8
      clear r8
      clear hb
      go_wp2_with fail
      (with_reducible refine (same_t A4 A8 k4 d4 k8 d8 _ _ w9 R4.out R8.out (by omega) (by omega) rfl).mono ?_)
      rintro e w10 ⟨rfl, hb⟩
      replace R4 := Lib.hid (R4.out.below hb)
      replace R7 := Lib.hid (R7.out.below hb)
      replace R8 := Lib.hid (R8.out.below hb)
      replace HB := Lib.hid (kp_call HB.out hb)
      clear hb
      clear R4 R8
      go_wp2_with fail
      (with_reducible refine (number_any u w10 (by omega)).mono ?_)
      rintro e w11 ⟨A9, k9, d9, rfl, r9, m9, l9, q9, hb⟩
      replace R7 := Lib.hid (R7.out.below hb)
      replace HB := Lib.hid (kp_call HB.out hb)
      have R9 := Lib.hid r9
      clear r9
      clear hb
      go_wp2_with fail
      (with_reducible refine (same_t A7 A9 k7 d7 k9 d9 _ _ w11 R7.out R9.out (by omega) (by omega) rfl).mono ?_)
      rintro e w12 ⟨rfl, hb⟩
      replace R7 := Lib.hid (R7.out.below hb)
      replace R9 := Lib.hid (R9.out.below hb)
      replace HB := Lib.hid (kp_call HB.out hb)
      clear hb
      clear R7 R9
      go_wp2_with fail
      (with_reducible refine (mworks_any w12).mono ?_)
      rintro e w13 ⟨rfl, hb⟩
      replace HB := Lib.hid (kp_call HB.out hb)
      clear hb
      go_wp2
      go_ret
      exact ⟨rfl, HB.out⟩
theorem small_walk (m x y n : Int) (w : World) (h0 : (Lit.int .u16 m).wf = true) (h1 : (Lit.int .u16 x).wf = true) (h2 : (Lit.int .u16 y).wf = true) (h3 : (Lit.int .u16 n).wf = true) :
    Calls Try.prog 6 #[.int .u16 m, .int .u16 x, .int .u16 y, .int .u16 n] w fun e w' => e = .returned (.bool true) ∧ Below w.heap.size w w' := by
  obtain ⟨a1, a2⟩ := bounds_u16 h0
  obtain ⟨b1, b2⟩ := bounds_u16 h1
  obtain ⟨c1, c2⟩ := bounds_u16 h2
  obtain ⟨d1, d2⟩ := bounds_u16 h3
  obtain ⟨m', rfl⟩ : ∃ k : Nat, m = (k : Int) := ⟨m.toNat, by omega⟩
  obtain ⟨x', rfl⟩ : ∃ k : Nat, x = (k : Int) := ⟨x.toNat, by omega⟩
  obtain ⟨y', rfl⟩ : ∃ k : Nat, y = (k : Int) := ⟨y.toNat, by omega⟩
  obtain ⟨n', rfl⟩ : ∃ k : Nat, n = (k : Int) := ⟨n.toNat, by omega⟩
  cases hmy : mayB (num m') with
  | false => exact small_no m' x' y' n' w (by omega) (by omega) (by omega) (by omega) hmy
  | true => exact small_yes m' x' y' n' w (by omega) (by omega) (by omega) (by omega) hmy
end Go.Proofs.Ytcmhacecnahfoaa
