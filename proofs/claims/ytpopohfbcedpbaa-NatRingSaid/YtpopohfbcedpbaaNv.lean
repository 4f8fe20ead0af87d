/-
  nat: the statement NatRing.
-/
import Derived.Test.YtpopohfbcedpbaaNu
namespace Go.Proofs.Ytpopohfbcedpbaa
open Go.RowKit Go
set_option linter.unusedVariables false
set_option linter.unusedSimpArgs false
set_option maxRecDepth 100000
set_option maxHeartbeats 16000000 in
theorem ring_walk (A : Option Addr) (n0 c0 : Nat) (x : List Nat) (B : Option Addr) (n1 c1 : Nat) (y : List Nat) (C : Option Addr) (n2 c2 : Nat) (z : List Nat) (w : World) (h0 : IsUs w A n0 c0 x) (h1 : IsUs w B n1 c1 y) (h2 : IsUs w C n2 c2 z) :
    Calls Try.prog 5 #[.slice A n0 c0, .slice B n1 c1, .slice C n2 c2] w fun e w' => e = .returned (.bool true) ∧ Below w.heap.size w w' := by
  have Ix := Lib.hid h0
  have le0 := h0.le
  have mx0 : c0 ≤ 9223372036854775807 := by have h := h0.max; unfold maxLen at h; exact h
  have Bva := brief_lt x 80 h0.ru.lim
  obtain ⟨va, hva⟩ : ∃ va, briefQ x 80 = va := ⟨_, rfl⟩
  rw [hva] at Bva
  have Vva := Lib.hid hva
  have Bva := Lib.hid Bva
  clear h0 hva
  have Iy := Lib.hid h1
  have le1 := h1.le
  have mx1 : c1 ≤ 9223372036854775807 := by have h := h1.max; unfold maxLen at h; exact h
  have Bvb := brief_lt y 80 h1.ru.lim
  obtain ⟨vb, hvb⟩ : ∃ vb, briefQ y 80 = vb := ⟨_, rfl⟩
  rw [hvb] at Bvb
  have Vvb := Lib.hid hvb
  have Bvb := Lib.hid Bvb
  clear h1 hvb
  have Iz := Lib.hid h2
  have le2 := h2.le
  have mx2 : c2 ≤ 9223372036854775807 := by have h := h2.max; unfold maxLen at h; exact h
  have Bvc := brief_lt z 80 h2.ru.lim
  obtain ⟨vc, hvc⟩ : ∃ vc, briefQ z 80 = vc := ⟨_, rfl⟩
  rw [hvc] at Bvc
  have Vvc := Lib.hid hvc
  have Bvc := Lib.hid Bvc
  clear h2 hvc
  have X1 := Lib.hid (pw_add Bva.out Bvb.out)
  have X2 := Lib.hid (pw_mul Bva.out Bvb.out)
  have X3 := Lib.hid (pw_mul Bva.out Bvc.out)
  have X4 := Lib.hid (pw_mul Bvb.out Bvc.out)
  go_enter Try.func5, Try.ntmps5
  go_wp2_with fail
  have C := brief_any A n0 c0 80 x w (Ix.out.ru) le0 mx0 (by decide)
  rw [Vva.out] at C
  refine C.mono ?_
  rintro e w1 ⟨A10, n10, c10, rfl, r10, l10, m10, q10, hb⟩
  have HB := Lib.hid hb
  have R10 := Lib.hid r10
  clear C r10 hb
  go_wp2_with fail
  have C := brief_any B n1 c1 80 y w1 (Iy.out.ru.below HB.out) le1 mx1 (by decide)
  rw [Vvb.out] at C
  refine C.mono ?_
  rintro e w2 ⟨A11, n11, c11, rfl, r11, l11, m11, q11, hb⟩
  replace R10 := Lib.hid (R10.out.below hb)
  replace HB := Lib.hid (kp_call HB.out hb)
  have R11 := Lib.hid r11
  clear C r11 hb
  go_wp2_with fail
  have C := brief_any C n2 c2 80 z w2 (Iz.out.ru.below HB.out) le2 mx2 (by decide)
  rw [Vvc.out] at C
  refine C.mono ?_
  rintro e w3 ⟨A12, n12, c12, rfl, r12, l12, m12, q12, hb⟩
  replace R10 := Lib.hid (R10.out.below hb)
  replace R11 := Lib.hid (R11.out.below hb)
  replace HB := Lib.hid (kp_call HB.out hb)
  have R12 := Lib.hid r12
  clear C r12 hb
  go_wp2_with fail
  have C := add_any A10 A11 n10 c10 n11 c11 _ _ w3 R10.out R11.out (by omega) (by omega)
  rw [add_n Bva.out Bvb.out (by decide)] at C
  refine C.mono ?_
  rintro e w4 ⟨A20, n20, c20, rfl, s20, l20, m20, q20, hb⟩
  replace R10 := Lib.hid (R10.out.below hb)
  replace R11 := Lib.hid (R11.out.below hb)
  replace R12 := Lib.hid (R12.out.below hb)
  replace HB := Lib.hid (kp_call HB.out hb)
  have R20 := Lib.hid s20.ru
  clear C s20 hb
  go_wp2_with fail
  have C := add_any A11 A10 n11 c11 n10 c10 _ _ w4 R11.out R10.out (by omega) (by omega)
  rw [add_n Bvb.out Bva.out (by decide), Nat.add_comm vb] at C
  refine C.mono ?_
  rintro e w5 ⟨A21, n21, c21, rfl, s21, l21, m21, q21, hb⟩
  replace R10 := Lib.hid (R10.out.below hb)
  replace R11 := Lib.hid (R11.out.below hb)
  replace R12 := Lib.hid (R12.out.below hb)
  replace R20 := Lib.hid (R20.out.below hb)
  replace HB := Lib.hid (kp_call HB.out hb)
  have R21 := Lib.hid s21.ru
  clear C s21 hb
  go_wp2_with fail
  have C := mul_any A10 A11 n10 c10 n11 c11 _ _ w5 R10.out R11.out (by omega) (by omega)
  rw [mul_n Bva.out Bvb.out (by decide)] at C
  refine C.mono ?_
  rintro e w6 ⟨A22, n22, c22, rfl, s22, l22, m22, q22, hb⟩
  replace R10 := Lib.hid (R10.out.below hb)
  replace R11 := Lib.hid (R11.out.below hb)
  replace R12 := Lib.hid (R12.out.below hb)
  replace R20 := Lib.hid (R20.out.below hb)
  replace R21 := Lib.hid (R21.out.below hb)
  replace HB := Lib.hid (kp_call HB.out hb)
  have R22 := Lib.hid s22.ru
  clear C s22 hb
  go_wp2_with fail
  have C := mul_any A11 A10 n11 c11 n10 c10 _ _ w6 R11.out R10.out (by omega) (by omega)
  rw [mul_n Bvb.out Bva.out (by decide), Nat.mul_comm vb] at C
  refine C.mono ?_
  rintro e w7 ⟨A23, n23, c23, rfl, s23, l23, m23, q23, hb⟩
  replace R10 := Lib.hid (R10.out.below hb)
  replace R11 := Lib.hid (R11.out.below hb)
  replace R12 := Lib.hid (R12.out.below hb)
  replace R20 := Lib.hid (R20.out.below hb)
  replace R21 := Lib.hid (R21.out.below hb)
  replace R22 := Lib.hid (R22.out.below hb)
  replace HB := Lib.hid (kp_call HB.out hb)
  have R23 := Lib.hid s23.ru
  clear C s23 hb
  go_wp2_with fail
  have C := mul_any A20 A12 n20 c20 n12 c12 _ _ w7 R20.out R12.out (by omega) (by omega)
  rw [mul_n X1.out Bvc.out (by decide), Nat.add_mul] at C
  refine C.mono ?_
  rintro e w8 ⟨A24, n24, c24, rfl, s24, l24, m24, q24, hb⟩
  replace R10 := Lib.hid (R10.out.below hb)
  replace R11 := Lib.hid (R11.out.below hb)
  replace R12 := Lib.hid (R12.out.below hb)
  replace R20 := Lib.hid (R20.out.below hb)
  replace R21 := Lib.hid (R21.out.below hb)
  replace R22 := Lib.hid (R22.out.below hb)
  replace R23 := Lib.hid (R23.out.below hb)
  replace HB := Lib.hid (kp_call HB.out hb)
  have R24 := Lib.hid s24.ru
  clear C s24 hb
  go_wp2_with fail
  have C := mul_any A10 A12 n10 c10 n12 c12 _ _ w8 R10.out R12.out (by omega) (by omega)
  rw [mul_n Bva.out Bvc.out (by decide)] at C
  refine C.mono ?_
  rintro e w9 ⟨A25, n25, c25, rfl, s25, l25, m25, q25, hb⟩
  replace R10 := Lib.hid (R10.out.below hb)
  replace R11 := Lib.hid (R11.out.below hb)
  replace R12 := Lib.hid (R12.out.below hb)
  replace R20 := Lib.hid (R20.out.below hb)
  replace R21 := Lib.hid (R21.out.below hb)
  replace R22 := Lib.hid (R22.out.below hb)
  replace R23 := Lib.hid (R23.out.below hb)
  replace R24 := Lib.hid (R24.out.below hb)
  replace HB := Lib.hid (kp_call HB.out hb)
  have R25 := Lib.hid s25.ru
  clear C s25 hb
  go_wp2_with fail
  have C := mul_any A11 A12 n11 c11 n12 c12 _ _ w9 R11.out R12.out (by omega) (by omega)
  rw [mul_n Bvb.out Bvc.out (by decide)] at C
  refine C.mono ?_
  rintro e w10 ⟨A26, n26, c26, rfl, s26, l26, m26, q26, hb⟩
  replace R10 := Lib.hid (R10.out.below hb)
  replace R11 := Lib.hid (R11.out.below hb)
  replace R12 := Lib.hid (R12.out.below hb)
  replace R20 := Lib.hid (R20.out.below hb)
  replace R21 := Lib.hid (R21.out.below hb)
  replace R22 := Lib.hid (R22.out.below hb)
  replace R23 := Lib.hid (R23.out.below hb)
  replace R24 := Lib.hid (R24.out.below hb)
  replace R25 := Lib.hid (R25.out.below hb)
  replace HB := Lib.hid (kp_call HB.out hb)
  have R26 := Lib.hid s26.ru
  clear C s26 hb
  go_wp2_with fail
  have C := add_any A25 A26 n25 c25 n26 c26 _ _ w10 R25.out R26.out (by omega) (by omega)
  rw [add_n X3.out X4.out (by decide)] at C
  refine C.mono ?_
  rintro e w11 ⟨A27, n27, c27, rfl, s27, l27, m27, q27, hb⟩
  replace R10 := Lib.hid (R10.out.below hb)
  replace R11 := Lib.hid (R11.out.below hb)
  replace R12 := Lib.hid (R12.out.below hb)
  replace R20 := Lib.hid (R20.out.below hb)
  replace R21 := Lib.hid (R21.out.below hb)
  replace R22 := Lib.hid (R22.out.below hb)
  replace R23 := Lib.hid (R23.out.below hb)
  replace R24 := Lib.hid (R24.out.below hb)
  replace R25 := Lib.hid (R25.out.below hb)
  replace R26 := Lib.hid (R26.out.below hb)
  replace HB := Lib.hid (kp_call HB.out hb)
  have R27 := Lib.hid s27.ru
  clear C s27 hb
  go_wp2_with fail
  have C := sub_any A20 A11 n20 c20 n11 c11 _ _ w11 R20.out R11.out (by omega) (by omega)
  rw [sub_n X1.out (Nat.le_add_left _ _) (by decide), Nat.add_sub_cancel] at C
  refine C.mono ?_
  rintro e w12 ⟨A28, n28, c28, rfl, s28, l28, m28, q28, hb⟩
  replace R10 := Lib.hid (R10.out.below hb)
  replace R11 := Lib.hid (R11.out.below hb)
  replace R12 := Lib.hid (R12.out.below hb)
  replace R20 := Lib.hid (R20.out.below hb)
  replace R21 := Lib.hid (R21.out.below hb)
  replace R22 := Lib.hid (R22.out.below hb)
  replace R23 := Lib.hid (R23.out.below hb)
  replace R24 := Lib.hid (R24.out.below hb)
  replace R25 := Lib.hid (R25.out.below hb)
  replace R26 := Lib.hid (R26.out.below hb)
  replace R27 := Lib.hid (R27.out.below hb)
  replace HB := Lib.hid (kp_call HB.out hb)
  have R28 := Lib.hid s28.ru
  clear C s28 hb
  go_wp2_with fail
  have C := mul_any A22 A12 n22 c22 n12 c12 _ _ w12 R22.out R12.out (by omega) (by omega)
  rw [mul_n X2.out Bvc.out (by decide)] at C
  refine C.mono ?_
  rintro e w13 ⟨A29, n29, c29, rfl, s29, l29, m29, q29, hb⟩
  replace R10 := Lib.hid (R10.out.below hb)
  replace R11 := Lib.hid (R11.out.below hb)
  replace R12 := Lib.hid (R12.out.below hb)
  replace R20 := Lib.hid (R20.out.below hb)
  replace R21 := Lib.hid (R21.out.below hb)
  replace R22 := Lib.hid (R22.out.below hb)
  replace R23 := Lib.hid (R23.out.below hb)
  replace R24 := Lib.hid (R24.out.below hb)
  replace R25 := Lib.hid (R25.out.below hb)
  replace R26 := Lib.hid (R26.out.below hb)
  replace R27 := Lib.hid (R27.out.below hb)
  replace R28 := Lib.hid (R28.out.below hb)
  replace HB := Lib.hid (kp_call HB.out hb)
  have R29 := Lib.hid s29.ru
  clear C s29 hb
  go_wp2_with fail
  have C := mul_any A10 A26 n10 c10 n26 c26 _ _ w13 R10.out R26.out (by omega) (by omega)
  rw [mul_n Bva.out X4.out (by decide), ← Nat.mul_assoc] at C
  refine C.mono ?_
  rintro e w14 ⟨A30, n30, c30, rfl, s30, l30, m30, q30, hb⟩
  replace R10 := Lib.hid (R10.out.below hb)
  replace R11 := Lib.hid (R11.out.below hb)
  replace R12 := Lib.hid (R12.out.below hb)
  replace R20 := Lib.hid (R20.out.below hb)
  replace R21 := Lib.hid (R21.out.below hb)
  replace R22 := Lib.hid (R22.out.below hb)
  replace R23 := Lib.hid (R23.out.below hb)
  replace R24 := Lib.hid (R24.out.below hb)
  replace R25 := Lib.hid (R25.out.below hb)
  replace R26 := Lib.hid (R26.out.below hb)
  replace R27 := Lib.hid (R27.out.below hb)
  replace R28 := Lib.hid (R28.out.below hb)
  replace R29 := Lib.hid (R29.out.below hb)
  replace HB := Lib.hid (kp_call HB.out hb)
  have R30 := Lib.hid s30.ru
  clear C s30 hb
  go_wp2_with fail
  have C := same_t A20 A21 n20 c20 n21 c21 _ _ w14 R20.out R21.out (by omega) (by omega) rfl
  refine C.mono ?_
  rintro e w15 ⟨rfl, hb⟩
  replace R10 := Lib.hid (R10.out.below hb)
  replace R11 := Lib.hid (R11.out.below hb)
  replace R12 := Lib.hid (R12.out.below hb)
  replace R20 := Lib.hid (R20.out.below hb)
  replace R21 := Lib.hid (R21.out.below hb)
  replace R22 := Lib.hid (R22.out.below hb)
  replace R23 := Lib.hid (R23.out.below hb)
  replace R24 := Lib.hid (R24.out.below hb)
  replace R25 := Lib.hid (R25.out.below hb)
  replace R26 := Lib.hid (R26.out.below hb)
  replace R27 := Lib.hid (R27.out.below hb)
  replace R28 := Lib.hid (R28.out.below hb)
  replace R29 := Lib.hid (R29.out.below hb)
  replace R30 := Lib.hid (R30.out.below hb)
  replace HB := Lib.hid (kp_call HB.out hb)
  clear C hb
  go_wp2_with fail
  have C := same_t A22 A23 n22 c22 n23 c23 _ _ w15 R22.out R23.out (by omega) (by omega) rfl
  refine C.mono ?_
  rintro e w16 ⟨rfl, hb⟩
  replace R10 := Lib.hid (R10.out.below hb)
  replace R11 := Lib.hid (R11.out.below hb)
  replace R12 := Lib.hid (R12.out.below hb)
  replace R20 := Lib.hid (R20.out.below hb)
  replace R21 := Lib.hid (R21.out.below hb)
  replace R22 := Lib.hid (R22.out.below hb)
  replace R23 := Lib.hid (R23.out.below hb)
  replace R24 := Lib.hid (R24.out.below hb)
  replace R25 := Lib.hid (R25.out.below hb)
  replace R26 := Lib.hid (R26.out.below hb)
  replace R27 := Lib.hid (R27.out.below hb)
  replace R28 := Lib.hid (R28.out.below hb)
  replace R29 := Lib.hid (R29.out.below hb)
  replace R30 := Lib.hid (R30.out.below hb)
  replace HB := Lib.hid (kp_call HB.out hb)
  clear C hb
  go_wp2_with fail
  have C := same_t A24 A27 n24 c24 n27 c27 _ _ w16 R24.out R27.out (by omega) (by omega) rfl
  refine C.mono ?_
  rintro e w17 ⟨rfl, hb⟩
  replace R10 := Lib.hid (R10.out.below hb)
  replace R11 := Lib.hid (R11.out.below hb)
  replace R12 := Lib.hid (R12.out.below hb)
  replace R20 := Lib.hid (R20.out.below hb)
  replace R21 := Lib.hid (R21.out.below hb)
  replace R22 := Lib.hid (R22.out.below hb)
  replace R23 := Lib.hid (R23.out.below hb)
  replace R24 := Lib.hid (R24.out.below hb)
  replace R25 := Lib.hid (R25.out.below hb)
  replace R26 := Lib.hid (R26.out.below hb)
  replace R27 := Lib.hid (R27.out.below hb)
  replace R28 := Lib.hid (R28.out.below hb)
  replace R29 := Lib.hid (R29.out.below hb)
  replace R30 := Lib.hid (R30.out.below hb)
  replace HB := Lib.hid (kp_call HB.out hb)
  clear C hb
  go_wp2_with fail
  have C := same_t A28 A10 n28 c28 n10 c10 _ _ w17 R28.out R10.out (by omega) (by omega) rfl
  refine C.mono ?_
  rintro e w18 ⟨rfl, hb⟩
  replace R10 := Lib.hid (R10.out.below hb)
  replace R11 := Lib.hid (R11.out.below hb)
  replace R12 := Lib.hid (R12.out.below hb)
  replace R20 := Lib.hid (R20.out.below hb)
  replace R21 := Lib.hid (R21.out.below hb)
  replace R22 := Lib.hid (R22.out.below hb)
  replace R23 := Lib.hid (R23.out.below hb)
  replace R24 := Lib.hid (R24.out.below hb)
  replace R25 := Lib.hid (R25.out.below hb)
  replace R26 := Lib.hid (R26.out.below hb)
  replace R27 := Lib.hid (R27.out.below hb)
  replace R28 := Lib.hid (R28.out.below hb)
  replace R29 := Lib.hid (R29.out.below hb)
  replace R30 := Lib.hid (R30.out.below hb)
  replace HB := Lib.hid (kp_call HB.out hb)
  clear C hb
  go_wp2_with fail
  have C := same_t A29 A30 n29 c29 n30 c30 _ _ w18 R29.out R30.out (by omega) (by omega) rfl
  refine C.mono ?_
  rintro e w19 ⟨rfl, hb⟩
  replace R10 := Lib.hid (R10.out.below hb)
  replace R11 := Lib.hid (R11.out.below hb)
  replace R12 := Lib.hid (R12.out.below hb)
  replace R20 := Lib.hid (R20.out.below hb)
  replace R21 := Lib.hid (R21.out.below hb)
  replace R22 := Lib.hid (R22.out.below hb)
  replace R23 := Lib.hid (R23.out.below hb)
  replace R24 := Lib.hid (R24.out.below hb)
  replace R25 := Lib.hid (R25.out.below hb)
  replace R26 := Lib.hid (R26.out.below hb)
  replace R27 := Lib.hid (R27.out.below hb)
  replace R28 := Lib.hid (R28.out.below hb)
  replace R29 := Lib.hid (R29.out.below hb)
  replace R30 := Lib.hid (R30.out.below hb)
  replace HB := Lib.hid (kp_call HB.out hb)
  clear C hb
  go_wp2_with fail
  have C := right_any A20 n20 c20 _ w19 R20.out (by omega)
  rw [right_n X1.out (by decide)] at C
  refine C.mono ?_
  rintro e w' ⟨rfl, rfl⟩
  clear C
  go_wp2_with fail
  have C := right_any A22 n22 c22 _ w19 R22.out (by omega)
  rw [right_n X2.out (by decide)] at C
  refine C.mono ?_
  rintro e w' ⟨rfl, rfl⟩
  clear C
  go_wp2_with fail
  refine (works_any w19).mono ?_
  rintro e w20 ⟨rfl, hb⟩
  replace R10 := Lib.hid (R10.out.below hb)
  replace R11 := Lib.hid (R11.out.below hb)
  replace R12 := Lib.hid (R12.out.below hb)
  replace R20 := Lib.hid (R20.out.below hb)
  replace R21 := Lib.hid (R21.out.below hb)
  replace R22 := Lib.hid (R22.out.below hb)
  replace R23 := Lib.hid (R23.out.below hb)
  replace R24 := Lib.hid (R24.out.below hb)
  replace R25 := Lib.hid (R25.out.below hb)
  replace R26 := Lib.hid (R26.out.below hb)
  replace R27 := Lib.hid (R27.out.below hb)
  replace R28 := Lib.hid (R28.out.below hb)
  replace R29 := Lib.hid (R29.out.below hb)
  replace R30 := Lib.hid (R30.out.below hb)
  replace HB := Lib.hid (kp_call HB.out hb)
  clear hb
  go_wp2
  go_ret
  exact ⟨rfl, HB.out⟩
end Go.Proofs.Ytpopohfbcedpbaa
