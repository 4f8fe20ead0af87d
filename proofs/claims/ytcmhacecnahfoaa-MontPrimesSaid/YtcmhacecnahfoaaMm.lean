/-
  mont: the statement MontPowers.
-/
import Derived.Test.YtcmhacecnahfoaaMl
namespace Go.Proofs.Ytcmhacecnahfoaa
open Go.RowKit Go
set_option linter.unusedVariables false
set_option linter.unusedSimpArgs false
set_option maxRecDepth 100000
theorem pw_sum (s a b m : Nat) : s ^ (a + b) % m = (s ^ a % m) * (s ^ b % m) % m := by rw [Nat.pow_add, Nat.mul_mod]
theorem pw_prod (s t a m : Nat) : (s * t % m) ^ a % m = (s ^ a % m) * (t ^ a % m) % m := by rw [← Nat.pow_mod, Nat.mul_pow, Nat.mul_mod]
theorem pw_pow (s a b m : Nat) : (s ^ a % m) ^ b % m = s ^ (a * b) % m := by rw [← Nat.pow_mod, ← Nat.pow_mul]
theorem exp_num {s e m : Nat} (hs : s < m) (hm : m < 4294967296 ^ 256) (he : e ≤ 18446744073709551616) : mexpQ (num s) (num e) m = (num (s ^ e % m), 0) := by
  unfold mexpQ
  rw [under_num hs hm, num_rightB (small_big he), val_num, val_num]
  rfl
theorem mul_num {s t m : Nat} (hs : s < m) (ht : t < m) (hm : m < 4294967296 ^ 256) : mmulQ (num s) (num t) m = (num (s * t % m), 0) := by
  unfold mmulQ
  rw [under_num hs hm, under_num ht hm, val_num, val_num]
  rfl
theorem mod_big {m : Nat} (h : IsMod m) : m < 4294967296 ^ 256 := Nat.lt_of_lt_of_le (lt_limbs m) (Nat.pow_le_pow_right (by decide) (by have := h.len; omega))
/-- Exp of numbers. -/
theorem exp_n (g m : Nat) (A B : Option Addr) (n c k d s e : Nat) (w : World) (hM : MD w g m) (hA : RU w A n (num s)) (hB : RU w B k (num e)) (hn : n ≤ 1000) (hk : k ≤ 1000) (hs : s < m) (he : e ≤ 18446744073709551616) :
    Calls Try.prog 16 #[.pointer (some ⟨g, 0, none⟩), .slice A n c, .slice B k d] w (NumR w (num (s ^ e % m), 0)) := by
  have h := mexp_all g m A B n c k d (num s) (num e) w hM hA hB hn hk
  rw [exp_num hs (mod_big hM.is) he] at h
  exact h
theorem mul_n5 (g m : Nat) (A B : Option Addr) (n c k d s t : Nat) (w : World) (hM : MD w g m) (hA : RU w A n (num s)) (hB : RU w B k (num t)) (hn : n ≤ 1000) (hk : k ≤ 1000) (hs : s < m) (ht : t < m) :
    Calls Try.prog 14 #[.pointer (some ⟨g, 0, none⟩), .slice A n c, .slice B k d] w (NumR w (num (s * t % m), 0)) := by
  have h := mmul_any g m A B n c k d (num s) (num t) w hM hA hB hn hk
  rw [mul_num hs ht (mod_big hM.is)] at h
  exact h
theorem powers_vast (A : Option Addr) (n0 c0 : Nat) (ms : List Nat) (B : Option Addr) (n1 c1 : Nat) (x : List Nat) (C : Option Addr) (n2 c2 : Nat) (y : List Nat) (a b : Nat) (w : World) (h0 : IsUs w A n0 c0 ms) (h1 : IsUs w B n1 c1 x) (h2 : IsUs w C n2 c2 y) (hv : 24 < n0 ∨ 300 < n1 ∨ 300 < n2) :
    Calls Try.prog 4 #[.slice A n0 c0, .slice B n1 c1, .slice C n2 c2, .int .u16 (a : Int), .int .u16 (b : Int)] w fun e w' => e = .returned (.bool true) ∧ Below w.heap.size w w' := by
  clear h0 h1 h2
  by_cases v0 : 24 < n0
  · have i0 : (n0 : Int) > 24 := by omega
    clear hv v0
    go_enter Try.func4, Try.ntmps4
    go_wp2_with fail
    (with_reducible refine (mworks_any w).mono ?_)
    rintro e w1 ⟨rfl, hb⟩
    have HB := Lib.hid hb
    clear hb
    go_wp2
    go_ret
    exact ⟨rfl, HB.out⟩
  · have i0 : ¬ (n0 : Int) > 24 := by omega
    by_cases v1 : 300 < n1
    · have i1 : (n1 : Int) > 300 := by omega
      clear hv v0 v1
      go_enter Try.func4, Try.ntmps4
      go_wp2_with fail
      (with_reducible refine (mworks_any w).mono ?_)
      rintro e w1 ⟨rfl, hb⟩
      have HB := Lib.hid hb
      clear hb
      go_wp2
      go_ret
      exact ⟨rfl, HB.out⟩
    · have i1 : ¬ (n1 : Int) > 300 := by omega
      have i2 : (n2 : Int) > 300 := by omega
      clear hv v0 v1
      go_enter Try.func4, Try.ntmps4
      go_wp2_with fail
      (with_reducible refine (mworks_any w).mono ?_)
      rintro e w1 ⟨rfl, hb⟩
      have HB := Lib.hid hb
      clear hb
      go_wp2
      go_ret
      exact ⟨rfl, HB.out⟩
set_option maxHeartbeats 8000000 in
theorem powers_no (A : Option Addr) (n0 c0 : Nat) (ms : List Nat) (B : Option Addr) (n1 c1 : Nat) (x : List Nat) (C : Option Addr) (n2 c2 : Nat) (y : List Nat) (a b : Nat) (w : World) (h0 : IsUs w A n0 c0 ms) (h1 : IsUs w B n1 c1 x) (h2 : IsUs w C n2 c2 y) (v0 : n0 ≤ 24) (v1 : n1 ≤ 300) (v2 : n2 ≤ 300) (hmy : mayB ms = false) :
    Calls Try.prog 4 #[.slice A n0 c0, .slice B n1 c1, .slice C n2 c2, .int .u16 (a : Int), .int .u16 (b : Int)] w fun e w' => e = .returned (.bool true) ∧ Below w.heap.size w w' := by
  have IM := Lib.hid h0.ru
  have IX := Lib.hid h1.ru
  have IY := Lib.hid h2.ru
  have le1 := h1.le
  have le2 := h2.le
  have i0 : ¬ (n0 : Int) > 24 := by omega
  have i1 : ¬ (n1 : Int) > 300 := by omega
  have i2 : ¬ (n2 : Int) > 300 := by omega
  have HMY := Lib.hid hmy
  clear h0 h1 h2 hmy
  go_enter Try.func4, Try.ntmps4
  go_wp2_with fail
  (with_reducible refine (mtwin_any A n0 c0 ms w IM.out (by omega)).mono ?_)
  rintro e w1 ⟨A1, k1, rfl, o1, hb⟩
  have HB := Lib.hid hb
  have R1 := Lib.hid (ru_of_own o1 IM.out.lim)
  clear o1
  clear hb
  go_wp2_with fail
  (with_reducible refine (new_no A1 n0 k1 ms w1 R1.out (by omega) HMY.out).mono ?_)
  rintro e w2 ⟨rfl, hb⟩
  replace R1 := Lib.hid (R1.out.below hb)
  replace HB := Lib.hid (kp_call HB.out hb)
  clear hb
  go_wp2_with fail
  (with_reducible refine (mworks_any w2).mono ?_)
  rintro e w3 ⟨rfl, hb⟩
  replace R1 := Lib.hid (R1.out.below hb)
  replace HB := Lib.hid (kp_call HB.out hb)
  clear hb
  go_wp2
  go_ret
  exact ⟨rfl, HB.out⟩
set_option maxHeartbeats 32000000 in
theorem powers_yes (A : Option Addr) (n0 c0 : Nat) (ms : List Nat) (B : Option Addr) (n1 c1 : Nat) (x : List Nat) (C : Option Addr) (n2 c2 : Nat) (y : List Nat) (a b : Nat) (w : World) (h0 : IsUs w A n0 c0 ms) (h1 : IsUs w B n1 c1 x) (h2 : IsUs w C n2 c2 y) (v0 : n0 ≤ 24) (v1 : n1 ≤ 300) (v2 : n2 ≤ 300) (ha : a ≤ 65535) (hb0 : b ≤ 65535) (hmy : mayB ms = true) :
    Calls Try.prog 4 #[.slice A n0 c0, .slice B n1 c1, .slice C n2 c2, .int .u16 (a : Int), .int .u16 (b : Int)] w fun e w' => e = .returned (.bool true) ∧ Below w.heap.size w w' := by
  have IM := Lib.hid h0.ru
  have IX := Lib.hid h1.ru
  have IY := Lib.hid h2.ru
  have le1 := h1.le
  have le2 := h2.le
  have i0 : ¬ (n0 : Int) > 24 := by omega
  have i1 : ¬ (n1 : Int) > 300 := by omega
  have i2 : ¬ (n2 : Int) > 300 := by omega
  have HMY := Lib.hid hmy
  obtain ⟨hr, hp0, h128, hodd, h3, hnum, hmod, hlim, hlow⟩ := may_is h0.ru.lim hmy
  have hlm := h0.ru.len
  rw [hlm] at hp0 h128
  have HR := Lib.hid hr
  obtain ⟨m, hmv⟩ : ∃ m, val ms = m := ⟨_, rfl⟩
  rw [hmv] at h3 hmod
  have HMV := Lib.hid hmv
  have HMB := Lib.hid (mod_big hmod)
  obtain ⟨s, hs⟩ : ∃ s, briefQ x 128 % m = s := ⟨_, rfl⟩
  obtain ⟨t, ht⟩ : ∃ t, briefQ y 128 % m = t := ⟨_, rfl⟩
  have hsm : s < m := by rw [← hs]; exact Nat.mod_lt _ (by omega)
  have htm : t < m := by rw [← ht]; exact Nat.mod_lt _ (by omega)
  have HS := Lib.hid hs
  have HT := Lib.hid ht
  have E1 := Lib.hid (pw_sum s a b m)
  have E2 := Lib.hid (pw_prod s t a m)
  have E3 := Lib.hid (pw_pow s a b m)
  have hpl : a * b ≤ 65535 * 65535 := Nat.mul_le_mul ha hb0
  have hpi : (a : Int) * (b : Int) = ((a * b : Nat) : Int) := by push_cast; rfl
  obtain ⟨ab, hab⟩ : ∃ ab, a * b = ab := ⟨_, rfl⟩
  rw [hab] at hpl hpi E3
  obtain ⟨sm, hsum⟩ : ∃ sm, a + b = sm := ⟨_, rfl⟩
  rw [hsum] at E1
  have hsmb : sm ≤ 131070 := by omega
  have j1 : IntKind.u64.wrap ((a : Int) + (b : Int)) = (sm : Int) := by rw [show (a : Int) + b = sm by omega]; exact IntWalk.u64_in _ (by omega)
  have j2 : IntKind.u64.wrap ((a : Int) * (b : Int)) = (ab : Int) := by rw [hpi]; exact IntWalk.u64_in _ (by omega)
  have M0 : ∀ z, z % m < m := fun z => Nat.mod_lt _ (by omega)
  have HM0 := Lib.hid M0
  obtain ⟨P, hP⟩ : ∃ P, s ^ a % m = P := ⟨_, rfl⟩
  obtain ⟨Q, hQ⟩ : ∃ Q, s ^ b % m = Q := ⟨_, rfl⟩
  obtain ⟨U, hU⟩ : ∃ U, s ^ sm % m = U := ⟨_, rfl⟩
  obtain ⟨PQ, hPQ⟩ : ∃ PQ, P * Q % m = PQ := ⟨_, rfl⟩
  obtain ⟨ST, hST⟩ : ∃ ST, s * t % m = ST := ⟨_, rfl⟩
  obtain ⟨T, hT9⟩ : ∃ T, t ^ a % m = T := ⟨_, rfl⟩
  obtain ⟨L, hL⟩ : ∃ L, ST ^ a % m = L := ⟨_, rfl⟩
  obtain ⟨PT, hPT⟩ : ∃ PT, P * T % m = PT := ⟨_, rfl⟩
  obtain ⟨D, hD⟩ : ∃ D, P ^ b % m = D := ⟨_, rfl⟩
  obtain ⟨F, hF⟩ : ∃ F, s ^ ab % m = F := ⟨_, rfl⟩
  have q1 : U = PQ := by have h := E1.out; rw [hU, hP, hQ, hPQ] at h; exact h
  have q2 : L = PT := by have h := E2.out; rw [hST, hP, hT9, hPT, hL] at h; exact h
  have q3 : D = F := by have h := E3.out; rw [hP, hD, hF] at h; exact h
  have mP : P < m := by rw [← hP]; exact M0 _
  have mQ : Q < m := by rw [← hQ]; exact M0 _
  have mST : ST < m := by rw [← hST]; exact M0 _
  have mT : T < m := by rw [← hT9]; exact M0 _
  have Q1 := Lib.hid q1
  have Q2 := Lib.hid q2
  have Q3 := Lib.hid q3
  have hP := Lib.hid hP
  have hQ := Lib.hid hQ
  have hU := Lib.hid hU
  have hPQ := Lib.hid hPQ
  have hST := Lib.hid hST
  have hT9 := Lib.hid hT9
  have hL := Lib.hid hL
  have hPT := Lib.hid hPT
  have hD := Lib.hid hD
  have hF := Lib.hid hF
  clear h0 h1 h2 hmy hr hodd hnum hmod hlim hlow hlm hmv hs ht hpi hab hsum M0 q1 q2 q3 E1 E2 E3
  go_enter Try.func4, Try.ntmps4
  go_wp2_with fail
  (with_reducible refine (mtwin_any A n0 c0 ms w IM.out (by omega)).mono ?_)
  rintro e w1 ⟨A1, k1, rfl, o1, hb⟩
  have HB := Lib.hid hb
  have R1 := Lib.hid (ru_of_own o1 IM.out.lim)
  clear o1
  clear hb
  go_wp2_with fail
  (with_reducible refine (new_yes A1 n0 k1 ms w1 R1.out HMY.out).mono ?_)
  rintro e w2 ⟨g, rfl, hg, hM, hb⟩
  replace R1 := Lib.hid (R1.out.below hb)
  replace HB := Lib.hid (kp_call HB.out hb)
  have MD1 := Lib.hid (HMV.out ▸ hM : MD w2 g m)
  clear hM
  clear hb
  clear R1
  go_wp2_with fail
  (with_reducible refine ((show Calls _ _ _ _ (fun e w' => ∃ A' n' c', e = .returned (.tuple #[.slice A' n' c', .bool true]) ∧ RU w' A' n' (num s) ∧ n' ≤ 256 ∧ Below w2.heap.size w2 w') from HS.out ▸ HMV.out ▸ lbelow_any B A n1 c1 n0 c0 x ms w2 (IX.out.below HB.out) (IM.out.below HB.out) (by omega) le1 (by omega) HR.out hp0)).mono ?_)
  rintro e w3 ⟨A3, k3, d3, rfl, r3, l3, hb⟩
  replace MD1 := Lib.hid (MD1.out.below hb)
  replace HB := Lib.hid (kp_call HB.out hb)
  have R3 := Lib.hid r3
  clear r3
  clear hb
  go_wp2_with fail
  (with_reducible refine ((show Calls _ _ _ _ (fun e w' => ∃ A' n' c', e = .returned (.tuple #[.slice A' n' c', .bool true]) ∧ RU w' A' n' (num t) ∧ n' ≤ 256 ∧ Below w3.heap.size w3 w') from HT.out ▸ HMV.out ▸ lbelow_any C A n2 c2 n0 c0 y ms w3 (IY.out.below HB.out) (IM.out.below HB.out) (by omega) le2 (by omega) HR.out hp0)).mono ?_)
  rintro e w4 ⟨A4, k4, d4, rfl, r4, l4, hb⟩
  replace MD1 := Lib.hid (MD1.out.below hb)
  replace R3 := Lib.hid (R3.out.below hb)
  replace HB := Lib.hid (kp_call HB.out hb)
  have R4 := Lib.hid r4
  clear r4
  clear hb
  go_wp2_with fail
  (with_reducible refine (number_any a w4 (by omega)).mono ?_)
  rintro e w5 ⟨A5, k5, d5, rfl, r5, m5, l5, q5, hb⟩
  replace MD1 := Lib.hid (MD1.out.below hb)
  replace R3 := Lib.hid (R3.out.below hb)
  replace R4 := Lib.hid (R4.out.below hb)
  replace HB := Lib.hid (kp_call HB.out hb)
  have R5 := Lib.hid r5
  clear r5
  clear hb
  go_wp2_with fail
  (with_reducible refine ((hP.out ▸ exp_n g m A3 A5 k3 d3 k5 d5 s a w5 MD1.out R3.out R5.out (by omega) (by omega) hsm (by omega) : Calls Try.prog _ _ _ (NumR w5 (num P, 0)))).mono ?_)
  rintro e w6 ⟨A6, k6, d6, rfl, s6, l6, m6, q6, hb⟩
  replace MD1 := Lib.hid (MD1.out.below hb)
  replace R3 := Lib.hid (R3.out.below hb)
  replace R4 := Lib.hid (R4.out.below hb)
  replace R5 := Lib.hid (R5.out.below hb)
  replace HB := Lib.hid (kp_call HB.out hb)
  have R6 := Lib.hid s6.ru
  clear s6
  clear hb
  clear R5
  go_wp2_with fail
  (with_reducible refine (number_any b w6 (by omega)).mono ?_)
  rintro e w7 ⟨A7, k7, d7, rfl, r7, m7, l7, q7, hb⟩
  replace MD1 := Lib.hid (MD1.out.below hb)
  replace R3 := Lib.hid (R3.out.below hb)
  replace R4 := Lib.hid (R4.out.below hb)
  replace R6 := Lib.hid (R6.out.below hb)
  replace HB := Lib.hid (kp_call HB.out hb)
  have R7 := Lib.hid r7
  clear r7
  clear hb
  go_wp2_with fail
  (with_reducible refine ((hQ.out ▸ exp_n g m A3 A7 k3 d3 k7 d7 s b w7 MD1.out R3.out R7.out (by omega) (by omega) hsm (by omega) : Calls Try.prog _ _ _ (NumR w7 (num Q, 0)))).mono ?_)
  rintro e w8 ⟨A8, k8, d8, rfl, s8, l8, m8, q8, hb⟩
  replace MD1 := Lib.hid (MD1.out.below hb)
  replace R3 := Lib.hid (R3.out.below hb)
  replace R4 := Lib.hid (R4.out.below hb)
  replace R6 := Lib.hid (R6.out.below hb)
  replace R7 := Lib.hid (R7.out.below hb)
  replace HB := Lib.hid (kp_call HB.out hb)
  have R8 := Lib.hid s8.ru
  clear s8
  clear hb
  clear R7
  go_wp2_with fail
  (with_reducible refine (number_any sm w8 (by omega)).mono ?_)
  rintro e w9 ⟨A9, k9, d9, rfl, r9, m9, l9, q9, hb⟩
  replace MD1 := Lib.hid (MD1.out.below hb)
  replace R3 := Lib.hid (R3.out.below hb)
  replace R4 := Lib.hid (R4.out.below hb)
  replace R6 := Lib.hid (R6.out.below hb)
  replace R8 := Lib.hid (R8.out.below hb)
  replace HB := Lib.hid (kp_call HB.out hb)
  have R9 := Lib.hid r9
  clear r9
  clear hb
  go_wp2_with fail
  (with_reducible refine ((hU.out ▸ exp_n g m A3 A9 k3 d3 k9 d9 s sm w9 MD1.out R3.out R9.out (by omega) (by omega) hsm (by omega) : Calls Try.prog _ _ _ (NumR w9 (num U, 0)))).mono ?_)
  rintro e w10 ⟨A10, k10, d10, rfl, s10, l10, m10, q10, hb⟩
  replace MD1 := Lib.hid (MD1.out.below hb)
  replace R3 := Lib.hid (R3.out.below hb)
  replace R4 := Lib.hid (R4.out.below hb)
  replace R6 := Lib.hid (R6.out.below hb)
  replace R8 := Lib.hid (R8.out.below hb)
  replace R9 := Lib.hid (R9.out.below hb)
  replace HB := Lib.hid (kp_call HB.out hb)
  have R10 := Lib.hid s10.ru
  clear s10
  clear hb
  clear R9
  go_wp2_with fail
  (with_reducible refine ((hPQ.out ▸ mul_n5 g m A6 A8 k6 d6 k8 d8 P Q w10 MD1.out R6.out R8.out (by omega) (by omega) mP mQ : Calls Try.prog _ _ _ (NumR w10 (num PQ, 0)))).mono ?_)
  rintro e w11 ⟨A11, k11, d11, rfl, s11, l11, m11, q11, hb⟩
  replace MD1 := Lib.hid (MD1.out.below hb)
  replace R3 := Lib.hid (R3.out.below hb)
  replace R4 := Lib.hid (R4.out.below hb)
  replace R6 := Lib.hid (R6.out.below hb)
  replace R8 := Lib.hid (R8.out.below hb)
  replace R10 := Lib.hid (R10.out.below hb)
  replace HB := Lib.hid (kp_call HB.out hb)
  have R11 := Lib.hid s11.ru
  clear s11
  clear hb
  go_wp2_with fail
  (with_reducible refine ((hST.out ▸ mul_n5 g m A3 A4 k3 d3 k4 d4 s t w11 MD1.out R3.out R4.out (by omega) (by omega) hsm htm : Calls Try.prog _ _ _ (NumR w11 (num ST, 0)))).mono ?_)
  rintro e w12 ⟨A12, k12, d12, rfl, s12, l12, m12, q12, hb⟩
  replace MD1 := Lib.hid (MD1.out.below hb)
  replace R3 := Lib.hid (R3.out.below hb)
  replace R4 := Lib.hid (R4.out.below hb)
  replace R6 := Lib.hid (R6.out.below hb)
  replace R8 := Lib.hid (R8.out.below hb)
  replace R10 := Lib.hid (R10.out.below hb)
  replace R11 := Lib.hid (R11.out.below hb)
  replace HB := Lib.hid (kp_call HB.out hb)
  have R12 := Lib.hid s12.ru
  clear s12
  clear hb
  go_wp2_with fail
  (with_reducible refine (number_any a w12 (by omega)).mono ?_)
  rintro e w13 ⟨A13, k13, d13, rfl, r13, m13, l13, q13, hb⟩
  replace MD1 := Lib.hid (MD1.out.below hb)
  replace R3 := Lib.hid (R3.out.below hb)
  replace R4 := Lib.hid (R4.out.below hb)
  replace R6 := Lib.hid (R6.out.below hb)
  replace R8 := Lib.hid (R8.out.below hb)
  replace R10 := Lib.hid (R10.out.below hb)
  replace R11 := Lib.hid (R11.out.below hb)
  replace R12 := Lib.hid (R12.out.below hb)
  replace HB := Lib.hid (kp_call HB.out hb)
  have R13 := Lib.hid r13
  clear r13
  clear hb
  go_wp2_with fail
  (with_reducible refine ((hT9.out ▸ exp_n g m A4 A13 k4 d4 k13 d13 t a w13 MD1.out R4.out R13.out (by omega) (by omega) htm (by omega) : Calls Try.prog _ _ _ (NumR w13 (num T, 0)))).mono ?_)
  rintro e w14 ⟨A14, k14, d14, rfl, s14, l14, m14, q14, hb⟩
  replace MD1 := Lib.hid (MD1.out.below hb)
  replace R3 := Lib.hid (R3.out.below hb)
  replace R4 := Lib.hid (R4.out.below hb)
  replace R6 := Lib.hid (R6.out.below hb)
  replace R8 := Lib.hid (R8.out.below hb)
  replace R10 := Lib.hid (R10.out.below hb)
  replace R11 := Lib.hid (R11.out.below hb)
  replace R12 := Lib.hid (R12.out.below hb)
  replace R13 := Lib.hid (R13.out.below hb)
  replace HB := Lib.hid (kp_call HB.out hb)
  have R14 := Lib.hid s14.ru
  clear s14
  clear hb
  clear R13
  go_wp2_with fail
  (with_reducible refine (number_any a w14 (by omega)).mono ?_)
  rintro e w15 ⟨A15, k15, d15, rfl, r15, m15, l15, q15, hb⟩
  replace MD1 := Lib.hid (MD1.out.below hb)
  replace R3 := Lib.hid (R3.out.below hb)
  replace R4 := Lib.hid (R4.out.below hb)
  replace R6 := Lib.hid (R6.out.below hb)
  replace R8 := Lib.hid (R8.out.below hb)
  replace R10 := Lib.hid (R10.out.below hb)
  replace R11 := Lib.hid (R11.out.below hb)
  replace R12 := Lib.hid (R12.out.below hb)
  replace R14 := Lib.hid (R14.out.below hb)
  replace HB := Lib.hid (kp_call HB.out hb)
  have R15 := Lib.hid r15
  clear r15
  clear hb
  go_wp2_with fail
  (with_reducible refine ((hL.out ▸ exp_n g m A12 A15 k12 d12 k15 d15 ST a w15 MD1.out R12.out R15.out (by omega) (by omega) mST (by omega) : Calls Try.prog _ _ _ (NumR w15 (num L, 0)))).mono ?_)
  rintro e w16 ⟨A16, k16, d16, rfl, s16, l16, m16, q16, hb⟩
  replace MD1 := Lib.hid (MD1.out.below hb)
  replace R3 := Lib.hid (R3.out.below hb)
  replace R4 := Lib.hid (R4.out.below hb)
  replace R6 := Lib.hid (R6.out.below hb)
  replace R8 := Lib.hid (R8.out.below hb)
  replace R10 := Lib.hid (R10.out.below hb)
  replace R11 := Lib.hid (R11.out.below hb)
  replace R12 := Lib.hid (R12.out.below hb)
  replace R14 := Lib.hid (R14.out.below hb)
  replace R15 := Lib.hid (R15.out.below hb)
  replace HB := Lib.hid (kp_call HB.out hb)
  have R16 := Lib.hid s16.ru
  clear s16
  clear hb
  clear R15
  go_wp2_with fail
  (with_reducible refine ((hPT.out ▸ mul_n5 g m A6 A14 k6 d6 k14 d14 P T w16 MD1.out R6.out R14.out (by omega) (by omega) mP mT : Calls Try.prog _ _ _ (NumR w16 (num PT, 0)))).mono ?_)
  rintro e w17 ⟨A17, k17, d17, rfl, s17, l17, m17, q17, hb⟩
  replace MD1 := Lib.hid (MD1.out.below hb)
  replace R3 := Lib.hid (R3.out.below hb)
  replace R4 := Lib.hid (R4.out.below hb)
  replace R6 := Lib.hid (R6.out.below hb)
  replace R8 := Lib.hid (R8.out.below hb)
  replace R10 := Lib.hid (R10.out.below hb)
  replace R11 := Lib.hid (R11.out.below hb)
  replace R12 := Lib.hid (R12.out.below hb)
  replace R14 := Lib.hid (R14.out.below hb)
  replace R16 := Lib.hid (R16.out.below hb)
  replace HB := Lib.hid (kp_call HB.out hb)
  have R17 := Lib.hid s17.ru
  clear s17
  clear hb
  go_wp2_with fail
  (with_reducible refine (number_any b w17 (by omega)).mono ?_)
  rintro e w18 ⟨A18, k18, d18, rfl, r18, m18, l18, q18, hb⟩
  replace MD1 := Lib.hid (MD1.out.below hb)
  replace R3 := Lib.hid (R3.out.below hb)
  replace R4 := Lib.hid (R4.out.below hb)
  replace R6 := Lib.hid (R6.out.below hb)
  replace R8 := Lib.hid (R8.out.below hb)
  replace R10 := Lib.hid (R10.out.below hb)
  replace R11 := Lib.hid (R11.out.below hb)
  replace R12 := Lib.hid (R12.out.below hb)
  replace R14 := Lib.hid (R14.out.below hb)
  replace R16 := Lib.hid (R16.out.below hb)
  replace R17 := Lib.hid (R17.out.below hb)
  replace HB := Lib.hid (kp_call HB.out hb)
  have R18 := Lib.hid r18
  clear r18
  clear hb
  go_wp2_with fail
  (with_reducible refine ((hD.out ▸ exp_n g m A6 A18 k6 d6 k18 d18 P b w18 MD1.out R6.out R18.out (by omega) (by omega) mP (by omega) : Calls Try.prog _ _ _ (NumR w18 (num D, 0)))).mono ?_)
  rintro e w19 ⟨A19, k19, d19, rfl, s19, l19, m19, q19, hb⟩
  replace MD1 := Lib.hid (MD1.out.below hb)
  replace R3 := Lib.hid (R3.out.below hb)
  replace R4 := Lib.hid (R4.out.below hb)
  replace R6 := Lib.hid (R6.out.below hb)
  replace R8 := Lib.hid (R8.out.below hb)
  replace R10 := Lib.hid (R10.out.below hb)
  replace R11 := Lib.hid (R11.out.below hb)
  replace R12 := Lib.hid (R12.out.below hb)
  replace R14 := Lib.hid (R14.out.below hb)
  replace R16 := Lib.hid (R16.out.below hb)
  replace R17 := Lib.hid (R17.out.below hb)
  replace R18 := Lib.hid (R18.out.below hb)
  replace HB := Lib.hid (kp_call HB.out hb)
  have R19 := Lib.hid s19.ru
  clear s19
  clear hb
  clear R18
  go_wp2_with fail
  (with_reducible refine (number_any ab w19 (by omega)).mono ?_)
  rintro e w20 ⟨A20, k20, d20, rfl, r20, m20, l20, q20, hb⟩
  replace MD1 := Lib.hid (MD1.out.below hb)
  replace R3 := Lib.hid (R3.out.below hb)
  replace R4 := Lib.hid (R4.out.below hb)
  replace R6 := Lib.hid (R6.out.below hb)
  replace R8 := Lib.hid (R8.out.below hb)
  replace R10 := Lib.hid (R10.out.below hb)
  replace R11 := Lib.hid (R11.out.below hb)
  replace R12 := Lib.hid (R12.out.below hb)
  replace R14 := Lib.hid (R14.out.below hb)
  replace R16 := Lib.hid (R16.out.below hb)
  replace R17 := Lib.hid (R17.out.below hb)
  replace R19 := Lib.hid (R19.out.below hb)
  replace HB := Lib.hid (kp_call HB.out hb)
  have R20 := Lib.hid r20
  clear r20
  clear hb
  go_wp2_with fail
  (with_reducible refine ((hF.out ▸ exp_n g m A3 A20 k3 d3 k20 d20 s ab w20 MD1.out R3.out R20.out (by omega) (by omega) hsm (by omega) : Calls Try.prog _ _ _ (NumR w20 (num F, 0)))).mono ?_)
  rintro e w21 ⟨A21, k21, d21, rfl, s21, l21, m21, q21, hb⟩
  replace MD1 := Lib.hid (MD1.out.below hb)
  replace R3 := Lib.hid (R3.out.below hb)
  replace R4 := Lib.hid (R4.out.below hb)
  replace R6 := Lib.hid (R6.out.below hb)
  replace R8 := Lib.hid (R8.out.below hb)
  replace R10 := Lib.hid (R10.out.below hb)
  replace R11 := Lib.hid (R11.out.below hb)
  replace R12 := Lib.hid (R12.out.below hb)
  replace R14 := Lib.hid (R14.out.below hb)
  replace R16 := Lib.hid (R16.out.below hb)
  replace R17 := Lib.hid (R17.out.below hb)
  replace R19 := Lib.hid (R19.out.below hb)
  replace R20 := Lib.hid (R20.out.below hb)
  replace HB := Lib.hid (kp_call HB.out hb)
  have R21 := Lib.hid s21.ru
  clear s21
  clear hb
  clear R20
  go_wp2_with fail
  (with_reducible refine (same_t A10 A11 k10 d10 k11 d11 _ _ w21 R10.out R11.out (by omega) (by omega) (by rw [Q1.out])).mono ?_)
  rintro e w22 ⟨rfl, hb⟩
  replace MD1 := Lib.hid (MD1.out.below hb)
  replace R3 := Lib.hid (R3.out.below hb)
  replace R4 := Lib.hid (R4.out.below hb)
  replace R6 := Lib.hid (R6.out.below hb)
  replace R8 := Lib.hid (R8.out.below hb)
  replace R10 := Lib.hid (R10.out.below hb)
  replace R11 := Lib.hid (R11.out.below hb)
  replace R12 := Lib.hid (R12.out.below hb)
  replace R14 := Lib.hid (R14.out.below hb)
  replace R16 := Lib.hid (R16.out.below hb)
  replace R17 := Lib.hid (R17.out.below hb)
  replace R19 := Lib.hid (R19.out.below hb)
  replace R21 := Lib.hid (R21.out.below hb)
  replace HB := Lib.hid (kp_call HB.out hb)
  clear hb
  go_wp2_with fail
  (with_reducible refine (same_t A16 A17 k16 d16 k17 d17 _ _ w22 R16.out R17.out (by omega) (by omega) (by rw [Q2.out])).mono ?_)
  rintro e w23 ⟨rfl, hb⟩
  replace MD1 := Lib.hid (MD1.out.below hb)
  replace R3 := Lib.hid (R3.out.below hb)
  replace R4 := Lib.hid (R4.out.below hb)
  replace R6 := Lib.hid (R6.out.below hb)
  replace R8 := Lib.hid (R8.out.below hb)
  replace R10 := Lib.hid (R10.out.below hb)
  replace R11 := Lib.hid (R11.out.below hb)
  replace R12 := Lib.hid (R12.out.below hb)
  replace R14 := Lib.hid (R14.out.below hb)
  replace R16 := Lib.hid (R16.out.below hb)
  replace R17 := Lib.hid (R17.out.below hb)
  replace R19 := Lib.hid (R19.out.below hb)
  replace R21 := Lib.hid (R21.out.below hb)
  replace HB := Lib.hid (kp_call HB.out hb)
  clear hb
  go_wp2_with fail
  (with_reducible refine (same_t A19 A21 k19 d19 k21 d21 _ _ w23 R19.out R21.out (by omega) (by omega) (by rw [Q3.out])).mono ?_)
  rintro e w24 ⟨rfl, hb⟩
  replace MD1 := Lib.hid (MD1.out.below hb)
  replace R3 := Lib.hid (R3.out.below hb)
  replace R4 := Lib.hid (R4.out.below hb)
  replace R6 := Lib.hid (R6.out.below hb)
  replace R8 := Lib.hid (R8.out.below hb)
  replace R10 := Lib.hid (R10.out.below hb)
  replace R11 := Lib.hid (R11.out.below hb)
  replace R12 := Lib.hid (R12.out.below hb)
  replace R14 := Lib.hid (R14.out.below hb)
  replace R16 := Lib.hid (R16.out.below hb)
  replace R17 := Lib.hid (R17.out.below hb)
  replace R19 := Lib.hid (R19.out.below hb)
  replace R21 := Lib.hid (R21.out.below hb)
  replace HB := Lib.hid (kp_call HB.out hb)
  clear hb
  go_wp2_with fail
  (with_reducible refine (mworks_any w24).mono ?_)
  rintro e w25 ⟨rfl, hb⟩
  replace MD1 := Lib.hid (MD1.out.below hb)
  replace R3 := Lib.hid (R3.out.below hb)
  replace R4 := Lib.hid (R4.out.below hb)
  replace R6 := Lib.hid (R6.out.below hb)
  replace R8 := Lib.hid (R8.out.below hb)
  replace R10 := Lib.hid (R10.out.below hb)
  replace R11 := Lib.hid (R11.out.below hb)
  replace R12 := Lib.hid (R12.out.below hb)
  replace R14 := Lib.hid (R14.out.below hb)
  replace R16 := Lib.hid (R16.out.below hb)
  replace R17 := Lib.hid (R17.out.below hb)
  replace R19 := Lib.hid (R19.out.below hb)
  replace R21 := Lib.hid (R21.out.below hb)
  replace HB := Lib.hid (kp_call HB.out hb)
  clear hb
  go_wp2
  go_ret
  exact ⟨rfl, HB.out⟩
theorem powers_walk (A : Option Addr) (n0 c0 : Nat) (ms : List Nat) (B : Option Addr) (n1 c1 : Nat) (x : List Nat) (C : Option Addr) (n2 c2 : Nat) (y : List Nat) (a b : Int) (w : World) (h0 : IsUs w A n0 c0 ms) (h1 : IsUs w B n1 c1 x) (h2 : IsUs w C n2 c2 y) (h3 : (Lit.int .u16 a).wf = true) (h4 : (Lit.int .u16 b).wf = true) :
    Calls Try.prog 4 #[.slice A n0 c0, .slice B n1 c1, .slice C n2 c2, .int .u16 a, .int .u16 b] w fun e w' => e = .returned (.bool true) ∧ Below w.heap.size w w' := by
  obtain ⟨a1, a2⟩ := bounds_u16 h3
  obtain ⟨b1, b2⟩ := bounds_u16 h4
  obtain ⟨a', rfl⟩ : ∃ k : Nat, a = (k : Int) := ⟨a.toNat, by omega⟩
  obtain ⟨b', rfl⟩ : ∃ k : Nat, b = (k : Int) := ⟨b.toNat, by omega⟩
  by_cases hv : 24 < n0 ∨ 300 < n1 ∨ 300 < n2
  · exact powers_vast A n0 c0 ms B n1 c1 x C n2 c2 y a' b' w h0 h1 h2 hv
  · cases hmy : mayB ms with
    | false => exact powers_no A n0 c0 ms B n1 c1 x C n2 c2 y a' b' w h0 h1 h2 (by omega) (by omega) (by omega) hmy
    | true => exact powers_yes A n0 c0 ms B n1 c1 x C n2 c2 y a' b' w h0 h1 h2 (by omega) (by omega) (by omega) (by omega) (by omega) hmy
end Go.Proofs.Ytcmhacecnahfoaa
