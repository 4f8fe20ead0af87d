/-
  nat: the statement NatDivides.
-/
import Derived.Test.YtpopohfbcedpbaaNu
namespace Go.Proofs.Ytpopohfbcedpbaa
open Go.RowKit Go
set_option linter.unusedVariables false
set_option linter.unusedSimpArgs false
set_option maxRecDepth 100000
set_option maxHeartbeats 16000000 in
theorem divides_z (A : Option Addr) (n0 c0 : Nat) (x : List Nat) (B : Option Addr) (n1 c1 : Nat) (y : List Nat) (w : World) (h0 : IsUs w A n0 c0 x) (h1 : IsUs w B n1 c1 y) (hz : briefQ y 128 = 0) :
    Calls Try.prog 6 #[.slice A n0 c0, .slice B n1 c1] w fun e w' => e = .returned (.bool true) ∧ Below w.heap.size w w' := by
  have Ix := Lib.hid h0
  have le0 := h0.le
  have mx0 : c0 ≤ 9223372036854775807 := by have h := h0.max; unfold maxLen at h; exact h
  have Bva := brief_lt x 128 h0.ru.lim
  obtain ⟨va, hva⟩ : ∃ va, briefQ x 128 = va := ⟨_, rfl⟩
  rw [hva] at Bva
  have Vva := Lib.hid hva
  have Bva := Lib.hid Bva
  clear h0 hva
  have Iy := Lib.hid h1
  have le1 := h1.le
  have mx1 : c1 ≤ 9223372036854775807 := by have h := h1.max; unfold maxLen at h; exact h
  have Bvb := brief_lt y 128 h1.ru.lim
  obtain ⟨vb, hvb⟩ : ∃ vb, briefQ y 128 = vb := ⟨_, rfl⟩
  rw [hvb] at Bvb
  have Vvb := Lib.hid hvb
  have Bvb := Lib.hid Bvb
  rw [hvb] at hz
  clear h1 hvb
  subst hz
  go_enter Try.func6, Try.ntmps6
  go_wp2_with fail
  have C := brief_any A n0 c0 128 x w (Ix.out.ru) le0 mx0 (by decide)
  rw [Vva.out] at C
  refine C.mono ?_
  rintro e w1 ⟨A10, n10, c10, rfl, r10, l10, m10, q10, hb⟩
  have HB := Lib.hid hb
  have R10 := Lib.hid r10
  clear C r10 hb
  go_wp2_with fail
  have C := brief_any B n1 c1 128 y w1 (Iy.out.ru.below HB.out) le1 mx1 (by decide)
  rw [Vvb.out] at C
  refine C.mono ?_
  rintro e w2 ⟨A11, n11, c11, rfl, r11, l11, m11, q11, hb⟩
  replace R10 := Lib.hid (R10.out.below hb)
  replace HB := Lib.hid (kp_call HB.out hb)
  have R11 := Lib.hid r11
  clear C r11 hb
  have hz := R11.out.len
  rw [num_zero] at hz
  obtain rfl : 0 = n11 := hz
  go_wp2_with fail
  have C := div_any A10 A11 n10 c10 0 c11 _ _ w2 R10.out R11.out (by omega) (by omega)
  rw [div_z] at C
  refine C.mono ?_
  rintro e w3 ⟨A12, n12, c12, A13, n13, c13, rfl, s12, l12, m12, q12, s13, l13, m13, q13, hb⟩
  replace R10 := Lib.hid (R10.out.below hb)
  replace R11 := Lib.hid (R11.out.below hb)
  replace HB := Lib.hid (kp_call HB.out hb)
  have R12 := Lib.hid s12.ru
  have R13 := Lib.hid s13.ru
  clear C s12 s13 hb
  obtain rfl : 0 = n12 := R12.out.len
  obtain rfl : 0 = n13 := R13.out.len
  go_wp2_with fail
  refine (works_any w3).mono ?_
  rintro e w4 ⟨rfl, hb⟩
  replace R10 := Lib.hid (R10.out.below hb)
  replace R11 := Lib.hid (R11.out.below hb)
  replace R12 := Lib.hid (R12.out.below hb)
  replace R13 := Lib.hid (R13.out.below hb)
  replace HB := Lib.hid (kp_call HB.out hb)
  clear hb
  go_wp2
  go_ret
  exact ⟨rfl, HB.out⟩
set_option maxHeartbeats 16000000 in
theorem divides_lt (A : Option Addr) (n0 c0 : Nat) (x : List Nat) (B : Option Addr) (n1 c1 : Nat) (y : List Nat) (w : World) (h0 : IsUs w A n0 c0 x) (h1 : IsUs w B n1 c1 y) (hz : 0 < briefQ y 128) (hc : briefQ x 128 < briefQ y 128) :
    Calls Try.prog 6 #[.slice A n0 c0, .slice B n1 c1] w fun e w' => e = .returned (.bool true) ∧ Below w.heap.size w w' := by
  have Ix := Lib.hid h0
  have le0 := h0.le
  have mx0 : c0 ≤ 9223372036854775807 := by have h := h0.max; unfold maxLen at h; exact h
  have Bva := brief_lt x 128 h0.ru.lim
  obtain ⟨va, hva⟩ : ∃ va, briefQ x 128 = va := ⟨_, rfl⟩
  rw [hva] at Bva
  have Vva := Lib.hid hva
  have Bva := Lib.hid Bva
  rw [hva] at hc
  clear h0 hva
  have Iy := Lib.hid h1
  have le1 := h1.le
  have mx1 : c1 ≤ 9223372036854775807 := by have h := h1.max; unfold maxLen at h; exact h
  have Bvb := brief_lt y 128 h1.ru.lim
  obtain ⟨vb, hvb⟩ : ∃ vb, briefQ y 128 = vb := ⟨_, rfl⟩
  rw [hvb] at Bvb
  have Vvb := Lib.hid hvb
  have Bvb := Lib.hid Bvb
  rw [hvb] at hz hc
  clear h1 hvb
  have HZ := Lib.hid hz
  have HC := Lib.hid hc
  clear hz hc
  have X1 : Hid (va / vb < 4294967296 ^ 128) := Nat.lt_of_le_of_lt (Nat.div_le_self _ _) Bva.out
  have X2 : Hid (va / vb * vb < 4294967296 ^ 128) := Nat.lt_of_le_of_lt (Nat.div_mul_le_self _ _) Bva.out
  have X3 : Hid (va % vb < vb) := Nat.mod_lt _ HZ.out
  have X4 : Hid (va % vb < 4294967296 ^ 128) := Nat.lt_trans X3.out Bvb.out
  have XE : Hid (va / vb * vb + va % vb = va) := (div_facts va vb HZ.out).2.2
  go_enter Try.func6, Try.ntmps6
  go_wp2_with fail
  have C := brief_any A n0 c0 128 x w (Ix.out.ru) le0 mx0 (by decide)
  rw [Vva.out] at C
  refine C.mono ?_
  rintro e w1 ⟨A10, n10, c10, rfl, r10, l10, m10, q10, hb⟩
  have HB := Lib.hid hb
  have R10 := Lib.hid r10
  clear C r10 hb
  go_wp2_with fail
  have C := brief_any B n1 c1 128 y w1 (Iy.out.ru.below HB.out) le1 mx1 (by decide)
  rw [Vvb.out] at C
  refine C.mono ?_
  rintro e w2 ⟨A11, n11, c11, rfl, r11, l11, m11, q11, hb⟩
  replace R10 := Lib.hid (R10.out.below hb)
  replace HB := Lib.hid (kp_call HB.out hb)
  have R11 := Lib.hid r11
  clear C r11 hb
  have hz := R11.out.len
  rw [num_pos vb (by have := HZ.out; omega), List.length_cons] at hz
  have t1 : ((n11 : Int) == 0) = false := by simp; omega
  have t2 : ¬ n11 = 0 := by omega
  have HL := Lib.hid hz
  clear hz
  go_wp2_with fail
  have C := div_any A10 A11 n10 c10 n11 c11 _ _ w2 R10.out R11.out (by omega) (by omega)
  rw [div_n Bva.out Bvb.out HZ.out (by decide)] at C
  refine C.mono ?_
  rintro e w3 ⟨A12, n12, c12, A13, n13, c13, rfl, s12, l12, m12, q12, s13, l13, m13, q13, hb⟩
  replace R10 := Lib.hid (R10.out.below hb)
  replace R11 := Lib.hid (R11.out.below hb)
  replace HB := Lib.hid (kp_call HB.out hb)
  have R12 := Lib.hid s12.ru
  have R13 := Lib.hid s13.ru
  clear C s12 s13 hb
  go_wp2_with fail
  have C := mul_any A12 A11 n12 c12 n11 c11 _ _ w3 R12.out R11.out (by omega) (by omega)
  rw [mul_n X1.out Bvb.out (by decide)] at C
  refine C.mono ?_
  rintro e w4 ⟨A14, n14, c14, rfl, s14, l14, m14, q14, hb⟩
  replace R10 := Lib.hid (R10.out.below hb)
  replace R11 := Lib.hid (R11.out.below hb)
  replace R12 := Lib.hid (R12.out.below hb)
  replace R13 := Lib.hid (R13.out.below hb)
  replace HB := Lib.hid (kp_call HB.out hb)
  have R14 := Lib.hid s14.ru
  clear C s14 hb
  go_wp2_with fail
  have C := add_any A14 A13 n14 c14 n13 c13 _ _ w4 R14.out R13.out (by omega) (by omega)
  rw [add_n X2.out X4.out (by decide), XE.out] at C
  refine C.mono ?_
  rintro e w5 ⟨A15, n15, c15, rfl, s15, l15, m15, q15, hb⟩
  replace R10 := Lib.hid (R10.out.below hb)
  replace R11 := Lib.hid (R11.out.below hb)
  replace R12 := Lib.hid (R12.out.below hb)
  replace R13 := Lib.hid (R13.out.below hb)
  replace R14 := Lib.hid (R14.out.below hb)
  replace HB := Lib.hid (kp_call HB.out hb)
  have R15 := Lib.hid s15.ru
  clear C s15 hb
  go_wp2_with fail
  have C := same_t A15 A10 n15 c15 n10 c10 _ _ w5 R15.out R10.out (by omega) (by omega) rfl
  refine C.mono ?_
  rintro e w6 ⟨rfl, hb⟩
  replace R10 := Lib.hid (R10.out.below hb)
  replace R11 := Lib.hid (R11.out.below hb)
  replace R12 := Lib.hid (R12.out.below hb)
  replace R13 := Lib.hid (R13.out.below hb)
  replace R14 := Lib.hid (R14.out.below hb)
  replace R15 := Lib.hid (R15.out.below hb)
  replace HB := Lib.hid (kp_call HB.out hb)
  clear C hb
  go_wp2_with fail
  have C := cmp_any A13 A11 n13 c13 n11 c11 _ _ w6 R13.out R11.out (by omega) (by omega)
  rw [cmp_n X4.out Bvb.out (by decide), show cmpV (va % vb) vb = -1 by unfold cmpV; rw [if_pos X3.out]] at C
  refine C.mono ?_
  rintro e w7 ⟨rfl, hb⟩
  replace R10 := Lib.hid (R10.out.below hb)
  replace R11 := Lib.hid (R11.out.below hb)
  replace R12 := Lib.hid (R12.out.below hb)
  replace R13 := Lib.hid (R13.out.below hb)
  replace R14 := Lib.hid (R14.out.below hb)
  replace R15 := Lib.hid (R15.out.below hb)
  replace HB := Lib.hid (kp_call HB.out hb)
  clear C hb
  go_wp2_with fail
  have C := right_any A12 n12 c12 _ w7 R12.out (by omega)
  rw [right_n X1.out (by decide)] at C
  refine C.mono ?_
  rintro e w' ⟨rfl, rfl⟩
  clear C
  go_wp2_with fail
  have C := right_any A13 n13 c13 _ w7 R13.out (by omega)
  rw [right_n X4.out (by decide)] at C
  refine C.mono ?_
  rintro e w' ⟨rfl, rfl⟩
  clear C
  go_wp2_with fail
  have C := sub_any A10 A11 n10 c10 n11 c11 _ _ w7 R10.out R11.out (by omega) (by omega)
  rw [sub_bad Bva.out Bvb.out (by have := HC.out; omega) (by decide)] at C
  refine C.mono ?_
  rintro e w8 ⟨A16, n16, c16, rfl, s16, l16, m16, q16, hb⟩
  replace R10 := Lib.hid (R10.out.below hb)
  replace R11 := Lib.hid (R11.out.below hb)
  replace R12 := Lib.hid (R12.out.below hb)
  replace R13 := Lib.hid (R13.out.below hb)
  replace R14 := Lib.hid (R14.out.below hb)
  replace R15 := Lib.hid (R15.out.below hb)
  replace HB := Lib.hid (kp_call HB.out hb)
  have R16 := Lib.hid s16.ru
  clear C s16 hb
  go_wp2_with fail
  have C := sub_any A11 A10 n11 c11 n10 c10 _ _ w8 R11.out R10.out (by omega) (by omega)
  rw [sub_n Bvb.out (by have := HC.out; omega) (by decide)] at C
  refine C.mono ?_
  rintro e w9 ⟨A17, n17, c17, rfl, s17, l17, m17, q17, hb⟩
  replace R10 := Lib.hid (R10.out.below hb)
  replace R11 := Lib.hid (R11.out.below hb)
  replace R12 := Lib.hid (R12.out.below hb)
  replace R13 := Lib.hid (R13.out.below hb)
  replace R14 := Lib.hid (R14.out.below hb)
  replace R15 := Lib.hid (R15.out.below hb)
  replace R16 := Lib.hid (R16.out.below hb)
  replace HB := Lib.hid (kp_call HB.out hb)
  have R17 := Lib.hid s17.ru
  clear C s17 hb
  go_wp2_with fail
  have C := cmp_any A10 A11 n10 c10 n11 c11 _ _ w9 R10.out R11.out (by omega) (by omega)
  rw [cmp_n Bva.out Bvb.out (by decide), show cmpV va vb = -1 by unfold cmpV; rw [if_pos HC.out]] at C
  refine C.mono ?_
  rintro e w10 ⟨rfl, hb⟩
  replace R10 := Lib.hid (R10.out.below hb)
  replace R11 := Lib.hid (R11.out.below hb)
  replace R12 := Lib.hid (R12.out.below hb)
  replace R13 := Lib.hid (R13.out.below hb)
  replace R14 := Lib.hid (R14.out.below hb)
  replace R15 := Lib.hid (R15.out.below hb)
  replace R16 := Lib.hid (R16.out.below hb)
  replace R17 := Lib.hid (R17.out.below hb)
  replace HB := Lib.hid (kp_call HB.out hb)
  clear C hb
  go_wp2_with fail
  refine (works_any w10).mono ?_
  rintro e w11 ⟨rfl, hb⟩
  replace R10 := Lib.hid (R10.out.below hb)
  replace R11 := Lib.hid (R11.out.below hb)
  replace R12 := Lib.hid (R12.out.below hb)
  replace R13 := Lib.hid (R13.out.below hb)
  replace R14 := Lib.hid (R14.out.below hb)
  replace R15 := Lib.hid (R15.out.below hb)
  replace R16 := Lib.hid (R16.out.below hb)
  replace R17 := Lib.hid (R17.out.below hb)
  replace HB := Lib.hid (kp_call HB.out hb)
  clear hb
  go_wp2
  go_ret
  exact ⟨rfl, HB.out⟩
set_option maxHeartbeats 16000000 in
theorem divides_eq (A : Option Addr) (n0 c0 : Nat) (x : List Nat) (B : Option Addr) (n1 c1 : Nat) (y : List Nat) (w : World) (h0 : IsUs w A n0 c0 x) (h1 : IsUs w B n1 c1 y) (hz : 0 < briefQ y 128) (hc : briefQ x 128 = briefQ y 128) :
    Calls Try.prog 6 #[.slice A n0 c0, .slice B n1 c1] w fun e w' => e = .returned (.bool true) ∧ Below w.heap.size w w' := by
  have Ix := Lib.hid h0
  have le0 := h0.le
  have mx0 : c0 ≤ 9223372036854775807 := by have h := h0.max; unfold maxLen at h; exact h
  have Bva := brief_lt x 128 h0.ru.lim
  obtain ⟨va, hva⟩ : ∃ va, briefQ x 128 = va := ⟨_, rfl⟩
  rw [hva] at Bva
  have Vva := Lib.hid hva
  have Bva := Lib.hid Bva
  rw [hva] at hc
  clear h0 hva
  have Iy := Lib.hid h1
  have le1 := h1.le
  have mx1 : c1 ≤ 9223372036854775807 := by have h := h1.max; unfold maxLen at h; exact h
  have Bvb := brief_lt y 128 h1.ru.lim
  obtain ⟨vb, hvb⟩ : ∃ vb, briefQ y 128 = vb := ⟨_, rfl⟩
  rw [hvb] at Bvb
  have Vvb := Lib.hid hvb
  have Bvb := Lib.hid Bvb
  rw [hvb] at hz hc
  clear h1 hvb
  have HZ := Lib.hid hz
  have HC := Lib.hid hc
  clear hz hc
  have X1 : Hid (va / vb < 4294967296 ^ 128) := Nat.lt_of_le_of_lt (Nat.div_le_self _ _) Bva.out
  have X2 : Hid (va / vb * vb < 4294967296 ^ 128) := Nat.lt_of_le_of_lt (Nat.div_mul_le_self _ _) Bva.out
  have X3 : Hid (va % vb < vb) := Nat.mod_lt _ HZ.out
  have X4 : Hid (va % vb < 4294967296 ^ 128) := Nat.lt_trans X3.out Bvb.out
  have XE : Hid (va / vb * vb + va % vb = va) := (div_facts va vb HZ.out).2.2
  go_enter Try.func6, Try.ntmps6
  go_wp2_with fail
  have C := brief_any A n0 c0 128 x w (Ix.out.ru) le0 mx0 (by decide)
  rw [Vva.out] at C
  refine C.mono ?_
  rintro e w1 ⟨A10, n10, c10, rfl, r10, l10, m10, q10, hb⟩
  have HB := Lib.hid hb
  have R10 := Lib.hid r10
  clear C r10 hb
  go_wp2_with fail
  have C := brief_any B n1 c1 128 y w1 (Iy.out.ru.below HB.out) le1 mx1 (by decide)
  rw [Vvb.out] at C
  refine C.mono ?_
  rintro e w2 ⟨A11, n11, c11, rfl, r11, l11, m11, q11, hb⟩
  replace R10 := Lib.hid (R10.out.below hb)
  replace HB := Lib.hid (kp_call HB.out hb)
  have R11 := Lib.hid r11
  clear C r11 hb
  have hz := R11.out.len
  rw [num_pos vb (by have := HZ.out; omega), List.length_cons] at hz
  have t1 : ((n11 : Int) == 0) = false := by simp; omega
  have t2 : ¬ n11 = 0 := by omega
  have HL := Lib.hid hz
  clear hz
  go_wp2_with fail
  have C := div_any A10 A11 n10 c10 n11 c11 _ _ w2 R10.out R11.out (by omega) (by omega)
  rw [div_n Bva.out Bvb.out HZ.out (by decide)] at C
  refine C.mono ?_
  rintro e w3 ⟨A12, n12, c12, A13, n13, c13, rfl, s12, l12, m12, q12, s13, l13, m13, q13, hb⟩
  replace R10 := Lib.hid (R10.out.below hb)
  replace R11 := Lib.hid (R11.out.below hb)
  replace HB := Lib.hid (kp_call HB.out hb)
  have R12 := Lib.hid s12.ru
  have R13 := Lib.hid s13.ru
  clear C s12 s13 hb
  go_wp2_with fail
  have C := mul_any A12 A11 n12 c12 n11 c11 _ _ w3 R12.out R11.out (by omega) (by omega)
  rw [mul_n X1.out Bvb.out (by decide)] at C
  refine C.mono ?_
  rintro e w4 ⟨A14, n14, c14, rfl, s14, l14, m14, q14, hb⟩
  replace R10 := Lib.hid (R10.out.below hb)
  replace R11 := Lib.hid (R11.out.below hb)
  replace R12 := Lib.hid (R12.out.below hb)
  replace R13 := Lib.hid (R13.out.below hb)
  replace HB := Lib.hid (kp_call HB.out hb)
  have R14 := Lib.hid s14.ru
  clear C s14 hb
  go_wp2_with fail
  have C := add_any A14 A13 n14 c14 n13 c13 _ _ w4 R14.out R13.out (by omega) (by omega)
  rw [add_n X2.out X4.out (by decide), XE.out] at C
  refine C.mono ?_
  rintro e w5 ⟨A15, n15, c15, rfl, s15, l15, m15, q15, hb⟩
  replace R10 := Lib.hid (R10.out.below hb)
  replace R11 := Lib.hid (R11.out.below hb)
  replace R12 := Lib.hid (R12.out.below hb)
  replace R13 := Lib.hid (R13.out.below hb)
  replace R14 := Lib.hid (R14.out.below hb)
  replace HB := Lib.hid (kp_call HB.out hb)
  have R15 := Lib.hid s15.ru
  clear C s15 hb
  go_wp2_with fail
  have C := same_t A15 A10 n15 c15 n10 c10 _ _ w5 R15.out R10.out (by omega) (by omega) rfl
  refine C.mono ?_
  rintro e w6 ⟨rfl, hb⟩
  replace R10 := Lib.hid (R10.out.below hb)
  replace R11 := Lib.hid (R11.out.below hb)
  replace R12 := Lib.hid (R12.out.below hb)
  replace R13 := Lib.hid (R13.out.below hb)
  replace R14 := Lib.hid (R14.out.below hb)
  replace R15 := Lib.hid (R15.out.below hb)
  replace HB := Lib.hid (kp_call HB.out hb)
  clear C hb
  go_wp2_with fail
  have C := cmp_any A13 A11 n13 c13 n11 c11 _ _ w6 R13.out R11.out (by omega) (by omega)
  rw [cmp_n X4.out Bvb.out (by decide), show cmpV (va % vb) vb = -1 by unfold cmpV; rw [if_pos X3.out]] at C
  refine C.mono ?_
  rintro e w7 ⟨rfl, hb⟩
  replace R10 := Lib.hid (R10.out.below hb)
  replace R11 := Lib.hid (R11.out.below hb)
  replace R12 := Lib.hid (R12.out.below hb)
  replace R13 := Lib.hid (R13.out.below hb)
  replace R14 := Lib.hid (R14.out.below hb)
  replace R15 := Lib.hid (R15.out.below hb)
  replace HB := Lib.hid (kp_call HB.out hb)
  clear C hb
  go_wp2_with fail
  have C := right_any A12 n12 c12 _ w7 R12.out (by omega)
  rw [right_n X1.out (by decide)] at C
  refine C.mono ?_
  rintro e w' ⟨rfl, rfl⟩
  clear C
  go_wp2_with fail
  have C := right_any A13 n13 c13 _ w7 R13.out (by omega)
  rw [right_n X4.out (by decide)] at C
  refine C.mono ?_
  rintro e w' ⟨rfl, rfl⟩
  clear C
  go_wp2_with fail
  have C := sub_any A10 A11 n10 c10 n11 c11 _ _ w7 R10.out R11.out (by omega) (by omega)
  rw [sub_n Bva.out (by have := HC.out; omega) (by decide)] at C
  refine C.mono ?_
  rintro e w8 ⟨A16, n16, c16, rfl, s16, l16, m16, q16, hb⟩
  replace R10 := Lib.hid (R10.out.below hb)
  replace R11 := Lib.hid (R11.out.below hb)
  replace R12 := Lib.hid (R12.out.below hb)
  replace R13 := Lib.hid (R13.out.below hb)
  replace R14 := Lib.hid (R14.out.below hb)
  replace R15 := Lib.hid (R15.out.below hb)
  replace HB := Lib.hid (kp_call HB.out hb)
  have R16 := Lib.hid s16.ru
  clear C s16 hb
  go_wp2_with fail
  have C := sub_any A11 A10 n11 c11 n10 c10 _ _ w8 R11.out R10.out (by omega) (by omega)
  rw [sub_n Bvb.out (by have := HC.out; omega) (by decide)] at C
  refine C.mono ?_
  rintro e w9 ⟨A17, n17, c17, rfl, s17, l17, m17, q17, hb⟩
  replace R10 := Lib.hid (R10.out.below hb)
  replace R11 := Lib.hid (R11.out.below hb)
  replace R12 := Lib.hid (R12.out.below hb)
  replace R13 := Lib.hid (R13.out.below hb)
  replace R14 := Lib.hid (R14.out.below hb)
  replace R15 := Lib.hid (R15.out.below hb)
  replace R16 := Lib.hid (R16.out.below hb)
  replace HB := Lib.hid (kp_call HB.out hb)
  have R17 := Lib.hid s17.ru
  clear C s17 hb
  go_wp2_with fail
  have C := cmp_any A10 A11 n10 c10 n11 c11 _ _ w9 R10.out R11.out (by omega) (by omega)
  rw [cmp_n Bva.out Bvb.out (by decide), show cmpV va vb = 0 by unfold cmpV; rw [if_neg (by have := HC.out; omega), if_neg (by have := HC.out; omega)]] at C
  refine C.mono ?_
  rintro e w10 ⟨rfl, hb⟩
  replace R10 := Lib.hid (R10.out.below hb)
  replace R11 := Lib.hid (R11.out.below hb)
  replace R12 := Lib.hid (R12.out.below hb)
  replace R13 := Lib.hid (R13.out.below hb)
  replace R14 := Lib.hid (R14.out.below hb)
  replace R15 := Lib.hid (R15.out.below hb)
  replace R16 := Lib.hid (R16.out.below hb)
  replace R17 := Lib.hid (R17.out.below hb)
  replace HB := Lib.hid (kp_call HB.out hb)
  clear C hb
  go_wp2_with fail
  have C := same_t A10 A11 n10 c10 n11 c11 _ _ w10 R10.out R11.out (by omega) (by omega) (by rw [HC.out])
  refine C.mono ?_
  rintro e w11 ⟨rfl, hb⟩
  replace R10 := Lib.hid (R10.out.below hb)
  replace R11 := Lib.hid (R11.out.below hb)
  replace R12 := Lib.hid (R12.out.below hb)
  replace R13 := Lib.hid (R13.out.below hb)
  replace R14 := Lib.hid (R14.out.below hb)
  replace R15 := Lib.hid (R15.out.below hb)
  replace R16 := Lib.hid (R16.out.below hb)
  replace R17 := Lib.hid (R17.out.below hb)
  replace HB := Lib.hid (kp_call HB.out hb)
  clear C hb
  go_wp2_with fail
  refine (works_any w11).mono ?_
  rintro e w12 ⟨rfl, hb⟩
  replace R10 := Lib.hid (R10.out.below hb)
  replace R11 := Lib.hid (R11.out.below hb)
  replace R12 := Lib.hid (R12.out.below hb)
  replace R13 := Lib.hid (R13.out.below hb)
  replace R14 := Lib.hid (R14.out.below hb)
  replace R15 := Lib.hid (R15.out.below hb)
  replace R16 := Lib.hid (R16.out.below hb)
  replace R17 := Lib.hid (R17.out.below hb)
  replace HB := Lib.hid (kp_call HB.out hb)
  clear hb
  go_wp2
  go_ret
  exact ⟨rfl, HB.out⟩
set_option maxHeartbeats 16000000 in
theorem divides_gt (A : Option Addr) (n0 c0 : Nat) (x : List Nat) (B : Option Addr) (n1 c1 : Nat) (y : List Nat) (w : World) (h0 : IsUs w A n0 c0 x) (h1 : IsUs w B n1 c1 y) (hz : 0 < briefQ y 128) (hc : briefQ y 128 < briefQ x 128) :
    Calls Try.prog 6 #[.slice A n0 c0, .slice B n1 c1] w fun e w' => e = .returned (.bool true) ∧ Below w.heap.size w w' := by
  have Ix := Lib.hid h0
  have le0 := h0.le
  have mx0 : c0 ≤ 9223372036854775807 := by have h := h0.max; unfold maxLen at h; exact h
  have Bva := brief_lt x 128 h0.ru.lim
  obtain ⟨va, hva⟩ : ∃ va, briefQ x 128 = va := ⟨_, rfl⟩
  rw [hva] at Bva
  have Vva := Lib.hid hva
  have Bva := Lib.hid Bva
  rw [hva] at hc
  clear h0 hva
  have Iy := Lib.hid h1
  have le1 := h1.le
  have mx1 : c1 ≤ 9223372036854775807 := by have h := h1.max; unfold maxLen at h; exact h
  have Bvb := brief_lt y 128 h1.ru.lim
  obtain ⟨vb, hvb⟩ : ∃ vb, briefQ y 128 = vb := ⟨_, rfl⟩
  rw [hvb] at Bvb
  have Vvb := Lib.hid hvb
  have Bvb := Lib.hid Bvb
  rw [hvb] at hz hc
  clear h1 hvb
  have HZ := Lib.hid hz
  have HC := Lib.hid hc
  clear hz hc
  have X1 : Hid (va / vb < 4294967296 ^ 128) := Nat.lt_of_le_of_lt (Nat.div_le_self _ _) Bva.out
  have X2 : Hid (va / vb * vb < 4294967296 ^ 128) := Nat.lt_of_le_of_lt (Nat.div_mul_le_self _ _) Bva.out
  have X3 : Hid (va % vb < vb) := Nat.mod_lt _ HZ.out
  have X4 : Hid (va % vb < 4294967296 ^ 128) := Nat.lt_trans X3.out Bvb.out
  have XE : Hid (va / vb * vb + va % vb = va) := (div_facts va vb HZ.out).2.2
  go_enter Try.func6, Try.ntmps6
  go_wp2_with fail
  have C := brief_any A n0 c0 128 x w (Ix.out.ru) le0 mx0 (by decide)
  rw [Vva.out] at C
  refine C.mono ?_
  rintro e w1 ⟨A10, n10, c10, rfl, r10, l10, m10, q10, hb⟩
  have HB := Lib.hid hb
  have R10 := Lib.hid r10
  clear C r10 hb
  go_wp2_with fail
  have C := brief_any B n1 c1 128 y w1 (Iy.out.ru.below HB.out) le1 mx1 (by decide)
  rw [Vvb.out] at C
  refine C.mono ?_
  rintro e w2 ⟨A11, n11, c11, rfl, r11, l11, m11, q11, hb⟩
  replace R10 := Lib.hid (R10.out.below hb)
  replace HB := Lib.hid (kp_call HB.out hb)
  have R11 := Lib.hid r11
  clear C r11 hb
  have hz := R11.out.len
  rw [num_pos vb (by have := HZ.out; omega), List.length_cons] at hz
  have t1 : ((n11 : Int) == 0) = false := by simp; omega
  have t2 : ¬ n11 = 0 := by omega
  have HL := Lib.hid hz
  clear hz
  go_wp2_with fail
  have C := div_any A10 A11 n10 c10 n11 c11 _ _ w2 R10.out R11.out (by omega) (by omega)
  rw [div_n Bva.out Bvb.out HZ.out (by decide)] at C
  refine C.mono ?_
  rintro e w3 ⟨A12, n12, c12, A13, n13, c13, rfl, s12, l12, m12, q12, s13, l13, m13, q13, hb⟩
  replace R10 := Lib.hid (R10.out.below hb)
  replace R11 := Lib.hid (R11.out.below hb)
  replace HB := Lib.hid (kp_call HB.out hb)
  have R12 := Lib.hid s12.ru
  have R13 := Lib.hid s13.ru
  clear C s12 s13 hb
  go_wp2_with fail
  have C := mul_any A12 A11 n12 c12 n11 c11 _ _ w3 R12.out R11.out (by omega) (by omega)
  rw [mul_n X1.out Bvb.out (by decide)] at C
  refine C.mono ?_
  rintro e w4 ⟨A14, n14, c14, rfl, s14, l14, m14, q14, hb⟩
  replace R10 := Lib.hid (R10.out.below hb)
  replace R11 := Lib.hid (R11.out.below hb)
  replace R12 := Lib.hid (R12.out.below hb)
  replace R13 := Lib.hid (R13.out.below hb)
  replace HB := Lib.hid (kp_call HB.out hb)
  have R14 := Lib.hid s14.ru
  clear C s14 hb
  go_wp2_with fail
  have C := add_any A14 A13 n14 c14 n13 c13 _ _ w4 R14.out R13.out (by omega) (by omega)
  rw [add_n X2.out X4.out (by decide), XE.out] at C
  refine C.mono ?_
  rintro e w5 ⟨A15, n15, c15, rfl, s15, l15, m15, q15, hb⟩
  replace R10 := Lib.hid (R10.out.below hb)
  replace R11 := Lib.hid (R11.out.below hb)
  replace R12 := Lib.hid (R12.out.below hb)
  replace R13 := Lib.hid (R13.out.below hb)
  replace R14 := Lib.hid (R14.out.below hb)
  replace HB := Lib.hid (kp_call HB.out hb)
  have R15 := Lib.hid s15.ru
  clear C s15 hb
  go_wp2_with fail
  have C := same_t A15 A10 n15 c15 n10 c10 _ _ w5 R15.out R10.out (by omega) (by omega) rfl
  refine C.mono ?_
  rintro e w6 ⟨rfl, hb⟩
  replace R10 := Lib.hid (R10.out.below hb)
  replace R11 := Lib.hid (R11.out.below hb)
  replace R12 := Lib.hid (R12.out.below hb)
  replace R13 := Lib.hid (R13.out.below hb)
  replace R14 := Lib.hid (R14.out.below hb)
  replace R15 := Lib.hid (R15.out.below hb)
  replace HB := Lib.hid (kp_call HB.out hb)
  clear C hb
  go_wp2_with fail
  have C := cmp_any A13 A11 n13 c13 n11 c11 _ _ w6 R13.out R11.out (by omega) (by omega)
  rw [cmp_n X4.out Bvb.out (by decide), show cmpV (va % vb) vb = -1 by unfold cmpV; rw [if_pos X3.out]] at C
  refine C.mono ?_
  rintro e w7 ⟨rfl, hb⟩
  replace R10 := Lib.hid (R10.out.below hb)
  replace R11 := Lib.hid (R11.out.below hb)
  replace R12 := Lib.hid (R12.out.below hb)
  replace R13 := Lib.hid (R13.out.below hb)
  replace R14 := Lib.hid (R14.out.below hb)
  replace R15 := Lib.hid (R15.out.below hb)
  replace HB := Lib.hid (kp_call HB.out hb)
  clear C hb
  go_wp2_with fail
  have C := right_any A12 n12 c12 _ w7 R12.out (by omega)
  rw [right_n X1.out (by decide)] at C
  refine C.mono ?_
  rintro e w' ⟨rfl, rfl⟩
  clear C
  go_wp2_with fail
  have C := right_any A13 n13 c13 _ w7 R13.out (by omega)
  rw [right_n X4.out (by decide)] at C
  refine C.mono ?_
  rintro e w' ⟨rfl, rfl⟩
  clear C
  go_wp2_with fail
  have C := sub_any A10 A11 n10 c10 n11 c11 _ _ w7 R10.out R11.out (by omega) (by omega)
  rw [sub_n Bva.out (by have := HC.out; omega) (by decide)] at C
  refine C.mono ?_
  rintro e w8 ⟨A16, n16, c16, rfl, s16, l16, m16, q16, hb⟩
  replace R10 := Lib.hid (R10.out.below hb)
  replace R11 := Lib.hid (R11.out.below hb)
  replace R12 := Lib.hid (R12.out.below hb)
  replace R13 := Lib.hid (R13.out.below hb)
  replace R14 := Lib.hid (R14.out.below hb)
  replace R15 := Lib.hid (R15.out.below hb)
  replace HB := Lib.hid (kp_call HB.out hb)
  have R16 := Lib.hid s16.ru
  clear C s16 hb
  go_wp2_with fail
  have C := sub_any A11 A10 n11 c11 n10 c10 _ _ w8 R11.out R10.out (by omega) (by omega)
  rw [sub_bad Bvb.out Bva.out (by have := HC.out; omega) (by decide)] at C
  refine C.mono ?_
  rintro e w9 ⟨A17, n17, c17, rfl, s17, l17, m17, q17, hb⟩
  replace R10 := Lib.hid (R10.out.below hb)
  replace R11 := Lib.hid (R11.out.below hb)
  replace R12 := Lib.hid (R12.out.below hb)
  replace R13 := Lib.hid (R13.out.below hb)
  replace R14 := Lib.hid (R14.out.below hb)
  replace R15 := Lib.hid (R15.out.below hb)
  replace R16 := Lib.hid (R16.out.below hb)
  replace HB := Lib.hid (kp_call HB.out hb)
  have R17 := Lib.hid s17.ru
  clear C s17 hb
  go_wp2_with fail
  have C := cmp_any A10 A11 n10 c10 n11 c11 _ _ w9 R10.out R11.out (by omega) (by omega)
  rw [cmp_n Bva.out Bvb.out (by decide), show cmpV va vb = 1 by unfold cmpV; rw [if_neg (by have := HC.out; omega), if_pos HC.out]] at C
  refine C.mono ?_
  rintro e w10 ⟨rfl, hb⟩
  replace R10 := Lib.hid (R10.out.below hb)
  replace R11 := Lib.hid (R11.out.below hb)
  replace R12 := Lib.hid (R12.out.below hb)
  replace R13 := Lib.hid (R13.out.below hb)
  replace R14 := Lib.hid (R14.out.below hb)
  replace R15 := Lib.hid (R15.out.below hb)
  replace R16 := Lib.hid (R16.out.below hb)
  replace R17 := Lib.hid (R17.out.below hb)
  replace HB := Lib.hid (kp_call HB.out hb)
  clear C hb
  go_wp2_with fail
  refine (works_any w10).mono ?_
  rintro e w11 ⟨rfl, hb⟩
  replace R10 := Lib.hid (R10.out.below hb)
  replace R11 := Lib.hid (R11.out.below hb)
  replace R12 := Lib.hid (R12.out.below hb)
  replace R13 := Lib.hid (R13.out.below hb)
  replace R14 := Lib.hid (R14.out.below hb)
  replace R15 := Lib.hid (R15.out.below hb)
  replace R16 := Lib.hid (R16.out.below hb)
  replace R17 := Lib.hid (R17.out.below hb)
  replace HB := Lib.hid (kp_call HB.out hb)
  clear hb
  go_wp2
  go_ret
  exact ⟨rfl, HB.out⟩
set_option maxHeartbeats 16000000 in
theorem divides_walk (A : Option Addr) (n0 c0 : Nat) (x : List Nat) (B : Option Addr) (n1 c1 : Nat) (y : List Nat) (w : World) (h0 : IsUs w A n0 c0 x) (h1 : IsUs w B n1 c1 y) :
    Calls Try.prog 6 #[.slice A n0 c0, .slice B n1 c1] w fun e w' => e = .returned (.bool true) ∧ Below w.heap.size w w' := by
  by_cases hz : briefQ y 128 = 0
  · exact divides_z A n0 c0 x B n1 c1 y w h0 h1 hz
  · have hz0 : 0 < briefQ y 128 := by omega
    rcases Nat.lt_trichotomy (briefQ x 128) (briefQ y 128) with h | h | h
    · exact divides_lt A n0 c0 x B n1 c1 y w h0 h1 hz0 h
    · exact divides_eq A n0 c0 x B n1 c1 y w h0 h1 hz0 h
    · exact divides_gt A n0 c0 x B n1 c1 y w h0 h1 hz0 h
end Go.Proofs.Ytpopohfbcedpbaa
