/-
  nat: the statement NatOrder.
-/
import Derived.Test.YtpopohfbcedpbaaNu
namespace Go.Proofs.Ytpopohfbcedpbaa
open Go.RowKit Go
set_option linter.unusedVariables false
set_option linter.unusedSimpArgs false
set_option maxRecDepth 100000
theorem bits_mono {u v : Nat} (h : u ≤ v) : bitsN u ≤ bitsN v := by
  rw [bits_le]
  exact Nat.lt_of_le_of_lt h ((bits_le v _).1 (Nat.le_refl _))
theorem cmpV_lt {u v : Nat} (h : u < v) : cmpV u v = -1 := by unfold cmpV; rw [if_pos h]
theorem cmpV_gt {u v : Nat} (h : v < u) : cmpV u v = 1 := by unfold cmpV; rw [if_neg (by omega), if_pos h]
theorem cmpV_eq {u v : Nat} (h : u = v) : cmpV u v = 0 := by unfold cmpV; rw [if_neg (by omega), if_neg (by omega)]
set_option maxHeartbeats 16000000 in
theorem order_l1a (A : Option Addr) (n0 c0 : Nat) (x : List Nat) (B : Option Addr) (n1 c1 : Nat) (y : List Nat) (C : Option Addr) (n2 c2 : Nat) (z : List Nat) (w : World) (h0 : IsUs w A n0 c0 x) (h1 : IsUs w B n1 c1 y) (h2 : IsUs w C n2 c2 z) (hc : briefQ x 80 < briefQ y 80) (hd : briefQ y 80 < briefQ z 80) :
    Calls Try.prog 8 #[.slice A n0 c0, .slice B n1 c1, .slice C n2 c2] w fun e w' => e = .returned (.bool true) ∧ Below w.heap.size w w' := by
  have Ix := Lib.hid h0
  have le0 := h0.le
  have mx0 : c0 ≤ 9223372036854775807 := by have h := h0.max; unfold maxLen at h; exact h
  have Bva := brief_lt x 80 h0.ru.lim
  obtain ⟨va, hva⟩ : ∃ va, briefQ x 80 = va := ⟨_, rfl⟩
  rw [hva] at Bva
  have Vva := Lib.hid hva
  have Bva := Lib.hid Bva
  rw [hva] at hc
  clear h0 hva
  have Iy := Lib.hid h1
  have le1 := h1.le
  have mx1 : c1 ≤ 9223372036854775807 := by have h := h1.max; unfold maxLen at h; exact h
  have Bvb := brief_lt y 80 h1.ru.lim
  obtain ⟨vb, hvb⟩ : ∃ vb, briefQ y 80 = vb := ⟨_, rfl⟩
  rw [hvb] at Bvb
  have Vvb := Lib.hid hvb
  have Bvb := Lib.hid Bvb
  rw [hvb] at hc hd
  clear h1 hvb
  have Iz := Lib.hid h2
  have le2 := h2.le
  have mx2 : c2 ≤ 9223372036854775807 := by have h := h2.max; unfold maxLen at h; exact h
  have Bvc := brief_lt z 80 h2.ru.lim
  obtain ⟨vc, hvc⟩ : ∃ vc, briefQ z 80 = vc := ⟨_, rfl⟩
  rw [hvc] at Bvc
  have Vvc := Lib.hid hvc
  have Bvc := Lib.hid Bvc
  rw [hvc] at hd
  clear h2 hvc
  have HC := Lib.hid hc
  have HD := Lib.hid hd
  clear hc hd
  go_enter Try.func8, Try.ntmps8
  go_wp2_with fail
  have C := brief_any A n0 c0 80 x w (Ix.out.ru) le0 mx0 (by decide)
  rw [Vva.out] at C
  refine C.mono ?_
  rintro e w1 ⟨A10, n10, c10, rfl, r10, l10, m10, q10, hb⟩
  have HB := Lib.hid hb
  have R10 := Lib.hid r10
  clear C r10 hb
  go_wp2_with fail
  have C := brief_any B n1 c1 80 y w1 (Iy.out.ru.below HB.out) le1 mx1 (by decide)
  rw [Vvb.out] at C
  refine C.mono ?_
  rintro e w2 ⟨A11, n11, c11, rfl, r11, l11, m11, q11, hb⟩
  replace R10 := Lib.hid (R10.out.below hb)
  replace HB := Lib.hid (kp_call HB.out hb)
  have R11 := Lib.hid r11
  clear C r11 hb
  go_wp2_with fail
  have C := brief_any C n2 c2 80 z w2 (Iz.out.ru.below HB.out) le2 mx2 (by decide)
  rw [Vvc.out] at C
  refine C.mono ?_
  rintro e w3 ⟨A12, n12, c12, rfl, r12, l12, m12, q12, hb⟩
  replace R10 := Lib.hid (R10.out.below hb)
  replace R11 := Lib.hid (R11.out.below hb)
  replace HB := Lib.hid (kp_call HB.out hb)
  have R12 := Lib.hid r12
  clear C r12 hb
  go_wp2_with fail
  have C := cmp_any A10 A11 n10 c10 n11 c11 _ _ w3 R10.out R11.out (by omega) (by omega)
  rw [cmp_n Bva.out Bvb.out (by decide), cmpV_lt HC.out] at C
  refine C.mono ?_
  rintro e w4 ⟨rfl, hb⟩
  replace R10 := Lib.hid (R10.out.below hb)
  replace R11 := Lib.hid (R11.out.below hb)
  replace R12 := Lib.hid (R12.out.below hb)
  replace HB := Lib.hid (kp_call HB.out hb)
  clear C hb
  go_wp2_with fail
  have C := cmp_any A11 A10 n11 c11 n10 c10 _ _ w4 R11.out R10.out (by omega) (by omega)
  rw [cmp_n Bvb.out Bva.out (by decide), cmpV_gt HC.out] at C
  refine C.mono ?_
  rintro e w5 ⟨rfl, hb⟩
  replace R10 := Lib.hid (R10.out.below hb)
  replace R11 := Lib.hid (R11.out.below hb)
  replace R12 := Lib.hid (R12.out.below hb)
  replace HB := Lib.hid (kp_call HB.out hb)
  clear C hb
  go_wp2_with fail
  have C := same_any A10 A11 n10 c10 n11 c11 _ _ w5 R10.out R11.out (by omega) (by omega)
  rw [decide_eq_false (fun e => by have := num_inj e; have := HC.out; omega)] at C
  refine C.mono ?_
  rintro e w6 ⟨rfl, hb⟩
  replace R10 := Lib.hid (R10.out.below hb)
  replace R11 := Lib.hid (R11.out.below hb)
  replace R12 := Lib.hid (R12.out.below hb)
  replace HB := Lib.hid (kp_call HB.out hb)
  clear C hb
  go_wp2_with fail
  have C := cmp_any A10 A10 n10 c10 n10 c10 _ _ w6 R10.out R10.out (by omega) (by omega)
  rw [cmp_n Bva.out Bva.out (by decide), cmpV_eq rfl] at C
  refine C.mono ?_
  rintro e w7 ⟨rfl, hb⟩
  replace R10 := Lib.hid (R10.out.below hb)
  replace R11 := Lib.hid (R11.out.below hb)
  replace R12 := Lib.hid (R12.out.below hb)
  replace HB := Lib.hid (kp_call HB.out hb)
  clear C hb
  go_wp2_with fail
  have C := cmp_any A11 A12 n11 c11 n12 c12 _ _ w7 R11.out R12.out (by omega) (by omega)
  rw [cmp_n Bvb.out Bvc.out (by decide), cmpV_lt HD.out] at C
  refine C.mono ?_
  rintro e w8 ⟨rfl, hb⟩
  replace R10 := Lib.hid (R10.out.below hb)
  replace R11 := Lib.hid (R11.out.below hb)
  replace R12 := Lib.hid (R12.out.below hb)
  replace HB := Lib.hid (kp_call HB.out hb)
  clear C hb
  go_wp2_with fail
  have C := cmp_any A10 A12 n10 c10 n12 c12 _ _ w8 R10.out R12.out (by omega) (by omega)
  rw [cmp_n Bva.out Bvc.out (by decide), cmpV_lt (by have := HC.out; have := HD.out; omega)] at C
  refine C.mono ?_
  rintro e w9 ⟨rfl, hb⟩
  replace R10 := Lib.hid (R10.out.below hb)
  replace R11 := Lib.hid (R11.out.below hb)
  replace R12 := Lib.hid (R12.out.below hb)
  replace HB := Lib.hid (kp_call HB.out hb)
  clear C hb
  go_wp2_with fail
  have C := add_any A10 A12 n10 c10 n12 c12 _ _ w9 R10.out R12.out (by omega) (by omega)
  rw [add_n Bva.out Bvc.out (by decide)] at C
  refine C.mono ?_
  rintro e w10 ⟨A20, n20, c20, rfl, s20, l20, m20, q20, hb⟩
  replace R10 := Lib.hid (R10.out.below hb)
  replace R11 := Lib.hid (R11.out.below hb)
  replace R12 := Lib.hid (R12.out.below hb)
  replace HB := Lib.hid (kp_call HB.out hb)
  have R20 := Lib.hid s20.ru
  clear C s20 hb
  go_wp2_with fail
  have C := add_any A11 A12 n11 c11 n12 c12 _ _ w10 R11.out R12.out (by omega) (by omega)
  rw [add_n Bvb.out Bvc.out (by decide)] at C
  refine C.mono ?_
  rintro e w11 ⟨A21, n21, c21, rfl, s21, l21, m21, q21, hb⟩
  replace R10 := Lib.hid (R10.out.below hb)
  replace R11 := Lib.hid (R11.out.below hb)
  replace R12 := Lib.hid (R12.out.below hb)
  replace R20 := Lib.hid (R20.out.below hb)
  replace HB := Lib.hid (kp_call HB.out hb)
  have R21 := Lib.hid s21.ru
  clear C s21 hb
  go_wp2_with fail
  have C := cmp_any A20 A21 n20 c20 n21 c21 _ _ w11 R20.out R21.out (by omega) (by omega)
  rw [cmp_n (pw_add Bva.out Bvc.out) (pw_add Bvb.out Bvc.out) (by decide), cmpV_lt (by have := HC.out; omega)] at C
  refine C.mono ?_
  rintro e w12 ⟨rfl, hb⟩
  replace R10 := Lib.hid (R10.out.below hb)
  replace R11 := Lib.hid (R11.out.below hb)
  replace R12 := Lib.hid (R12.out.below hb)
  replace R20 := Lib.hid (R20.out.below hb)
  replace R21 := Lib.hid (R21.out.below hb)
  replace HB := Lib.hid (kp_call HB.out hb)
  clear C hb
  go_wp2_with fail
  have C := bits_any A10 n10 c10 _ w12 R10.out (by omega)
  rw [if_pos (right_n Bva.out (by decide)), val_num] at C
  refine C.mono ?_
  rintro e w' ⟨rfl, rfl⟩
  clear C
  go_wp2_with fail
  have C := bits_any A11 n11 c11 _ w12 R11.out (by omega)
  rw [if_pos (right_n Bvb.out (by decide)), val_num] at C
  refine C.mono ?_
  rintro e w' ⟨rfl, rfl⟩
  clear C
  by_cases hbb : (bitsN va : Int) < (bitsN vb : Int)
  · go_wp2_with fail
    refine (works_any w12).mono ?_
    rintro e w13 ⟨rfl, hb⟩
    replace R10 := Lib.hid (R10.out.below hb)
    replace R11 := Lib.hid (R11.out.below hb)
    replace R12 := Lib.hid (R12.out.below hb)
    replace R20 := Lib.hid (R20.out.below hb)
    replace R21 := Lib.hid (R21.out.below hb)
    replace HB := Lib.hid (kp_call HB.out hb)
    clear hb
    go_wp2
    go_ret
    exact ⟨rfl, HB.out⟩
  · go_wp2_with fail
    refine (works_any w12).mono ?_
    rintro e w13 ⟨rfl, hb⟩
    replace R10 := Lib.hid (R10.out.below hb)
    replace R11 := Lib.hid (R11.out.below hb)
    replace R12 := Lib.hid (R12.out.below hb)
    replace R20 := Lib.hid (R20.out.below hb)
    replace R21 := Lib.hid (R21.out.below hb)
    replace HB := Lib.hid (kp_call HB.out hb)
    clear hb
    go_wp2
    go_ret
    exact ⟨rfl, HB.out⟩
set_option maxHeartbeats 16000000 in
theorem order_l1b (A : Option Addr) (n0 c0 : Nat) (x : List Nat) (B : Option Addr) (n1 c1 : Nat) (y : List Nat) (C : Option Addr) (n2 c2 : Nat) (z : List Nat) (w : World) (h0 : IsUs w A n0 c0 x) (h1 : IsUs w B n1 c1 y) (h2 : IsUs w C n2 c2 z) (hc : briefQ x 80 < briefQ y 80) (hd : briefQ y 80 = briefQ z 80) :
    Calls Try.prog 8 #[.slice A n0 c0, .slice B n1 c1, .slice C n2 c2] w fun e w' => e = .returned (.bool true) ∧ Below w.heap.size w w' := by
  have Ix := Lib.hid h0
  have le0 := h0.le
  have mx0 : c0 ≤ 9223372036854775807 := by have h := h0.max; unfold maxLen at h; exact h
  have Bva := brief_lt x 80 h0.ru.lim
  obtain ⟨va, hva⟩ : ∃ va, briefQ x 80 = va := ⟨_, rfl⟩
  rw [hva] at Bva
  have Vva := Lib.hid hva
  have Bva := Lib.hid Bva
  rw [hva] at hc
  clear h0 hva
  have Iy := Lib.hid h1
  have le1 := h1.le
  have mx1 : c1 ≤ 9223372036854775807 := by have h := h1.max; unfold maxLen at h; exact h
  have Bvb := brief_lt y 80 h1.ru.lim
  obtain ⟨vb, hvb⟩ : ∃ vb, briefQ y 80 = vb := ⟨_, rfl⟩
  rw [hvb] at Bvb
  have Vvb := Lib.hid hvb
  have Bvb := Lib.hid Bvb
  rw [hvb] at hc hd
  clear h1 hvb
  have Iz := Lib.hid h2
  have le2 := h2.le
  have mx2 : c2 ≤ 9223372036854775807 := by have h := h2.max; unfold maxLen at h; exact h
  have Bvc := brief_lt z 80 h2.ru.lim
  obtain ⟨vc, hvc⟩ : ∃ vc, briefQ z 80 = vc := ⟨_, rfl⟩
  rw [hvc] at Bvc
  have Vvc := Lib.hid hvc
  have Bvc := Lib.hid Bvc
  rw [hvc] at hd
  clear h2 hvc
  have HC := Lib.hid hc
  have HD := Lib.hid hd
  clear hc hd
  go_enter Try.func8, Try.ntmps8
  go_wp2_with fail
  have C := brief_any A n0 c0 80 x w (Ix.out.ru) le0 mx0 (by decide)
  rw [Vva.out] at C
  refine C.mono ?_
  rintro e w1 ⟨A10, n10, c10, rfl, r10, l10, m10, q10, hb⟩
  have HB := Lib.hid hb
  have R10 := Lib.hid r10
  clear C r10 hb
  go_wp2_with fail
  have C := brief_any B n1 c1 80 y w1 (Iy.out.ru.below HB.out) le1 mx1 (by decide)
  rw [Vvb.out] at C
  refine C.mono ?_
  rintro e w2 ⟨A11, n11, c11, rfl, r11, l11, m11, q11, hb⟩
  replace R10 := Lib.hid (R10.out.below hb)
  replace HB := Lib.hid (kp_call HB.out hb)
  have R11 := Lib.hid r11
  clear C r11 hb
  go_wp2_with fail
  have C := brief_any C n2 c2 80 z w2 (Iz.out.ru.below HB.out) le2 mx2 (by decide)
  rw [Vvc.out] at C
  refine C.mono ?_
  rintro e w3 ⟨A12, n12, c12, rfl, r12, l12, m12, q12, hb⟩
  replace R10 := Lib.hid (R10.out.below hb)
  replace R11 := Lib.hid (R11.out.below hb)
  replace HB := Lib.hid (kp_call HB.out hb)
  have R12 := Lib.hid r12
  clear C r12 hb
  go_wp2_with fail
  have C := cmp_any A10 A11 n10 c10 n11 c11 _ _ w3 R10.out R11.out (by omega) (by omega)
  rw [cmp_n Bva.out Bvb.out (by decide), cmpV_lt HC.out] at C
  refine C.mono ?_
  rintro e w4 ⟨rfl, hb⟩
  replace R10 := Lib.hid (R10.out.below hb)
  replace R11 := Lib.hid (R11.out.below hb)
  replace R12 := Lib.hid (R12.out.below hb)
  replace HB := Lib.hid (kp_call HB.out hb)
  clear C hb
  go_wp2_with fail
  have C := cmp_any A11 A10 n11 c11 n10 c10 _ _ w4 R11.out R10.out (by omega) (by omega)
  rw [cmp_n Bvb.out Bva.out (by decide), cmpV_gt HC.out] at C
  refine C.mono ?_
  rintro e w5 ⟨rfl, hb⟩
  replace R10 := Lib.hid (R10.out.below hb)
  replace R11 := Lib.hid (R11.out.below hb)
  replace R12 := Lib.hid (R12.out.below hb)
  replace HB := Lib.hid (kp_call HB.out hb)
  clear C hb
  go_wp2_with fail
  have C := same_any A10 A11 n10 c10 n11 c11 _ _ w5 R10.out R11.out (by omega) (by omega)
  rw [decide_eq_false (fun e => by have := num_inj e; have := HC.out; omega)] at C
  refine C.mono ?_
  rintro e w6 ⟨rfl, hb⟩
  replace R10 := Lib.hid (R10.out.below hb)
  replace R11 := Lib.hid (R11.out.below hb)
  replace R12 := Lib.hid (R12.out.below hb)
  replace HB := Lib.hid (kp_call HB.out hb)
  clear C hb
  go_wp2_with fail
  have C := cmp_any A10 A10 n10 c10 n10 c10 _ _ w6 R10.out R10.out (by omega) (by omega)
  rw [cmp_n Bva.out Bva.out (by decide), cmpV_eq rfl] at C
  refine C.mono ?_
  rintro e w7 ⟨rfl, hb⟩
  replace R10 := Lib.hid (R10.out.below hb)
  replace R11 := Lib.hid (R11.out.below hb)
  replace R12 := Lib.hid (R12.out.below hb)
  replace HB := Lib.hid (kp_call HB.out hb)
  clear C hb
  go_wp2_with fail
  have C := cmp_any A11 A12 n11 c11 n12 c12 _ _ w7 R11.out R12.out (by omega) (by omega)
  rw [cmp_n Bvb.out Bvc.out (by decide), cmpV_eq HD.out] at C
  refine C.mono ?_
  rintro e w8 ⟨rfl, hb⟩
  replace R10 := Lib.hid (R10.out.below hb)
  replace R11 := Lib.hid (R11.out.below hb)
  replace R12 := Lib.hid (R12.out.below hb)
  replace HB := Lib.hid (kp_call HB.out hb)
  clear C hb
  go_wp2_with fail
  have C := cmp_any A10 A12 n10 c10 n12 c12 _ _ w8 R10.out R12.out (by omega) (by omega)
  rw [cmp_n Bva.out Bvc.out (by decide), cmpV_lt (by have := HC.out; have := HD.out; omega)] at C
  refine C.mono ?_
  rintro e w9 ⟨rfl, hb⟩
  replace R10 := Lib.hid (R10.out.below hb)
  replace R11 := Lib.hid (R11.out.below hb)
  replace R12 := Lib.hid (R12.out.below hb)
  replace HB := Lib.hid (kp_call HB.out hb)
  clear C hb
  go_wp2_with fail
  have C := add_any A10 A12 n10 c10 n12 c12 _ _ w9 R10.out R12.out (by omega) (by omega)
  rw [add_n Bva.out Bvc.out (by decide)] at C
  refine C.mono ?_
  rintro e w10 ⟨A20, n20, c20, rfl, s20, l20, m20, q20, hb⟩
  replace R10 := Lib.hid (R10.out.below hb)
  replace R11 := Lib.hid (R11.out.below hb)
  replace R12 := Lib.hid (R12.out.below hb)
  replace HB := Lib.hid (kp_call HB.out hb)
  have R20 := Lib.hid s20.ru
  clear C s20 hb
  go_wp2_with fail
  have C := add_any A11 A12 n11 c11 n12 c12 _ _ w10 R11.out R12.out (by omega) (by omega)
  rw [add_n Bvb.out Bvc.out (by decide)] at C
  refine C.mono ?_
  rintro e w11 ⟨A21, n21, c21, rfl, s21, l21, m21, q21, hb⟩
  replace R10 := Lib.hid (R10.out.below hb)
  replace R11 := Lib.hid (R11.out.below hb)
  replace R12 := Lib.hid (R12.out.below hb)
  replace R20 := Lib.hid (R20.out.below hb)
  replace HB := Lib.hid (kp_call HB.out hb)
  have R21 := Lib.hid s21.ru
  clear C s21 hb
  go_wp2_with fail
  have C := cmp_any A20 A21 n20 c20 n21 c21 _ _ w11 R20.out R21.out (by omega) (by omega)
  rw [cmp_n (pw_add Bva.out Bvc.out) (pw_add Bvb.out Bvc.out) (by decide), cmpV_lt (by have := HC.out; omega)] at C
  refine C.mono ?_
  rintro e w12 ⟨rfl, hb⟩
  replace R10 := Lib.hid (R10.out.below hb)
  replace R11 := Lib.hid (R11.out.below hb)
  replace R12 := Lib.hid (R12.out.below hb)
  replace R20 := Lib.hid (R20.out.below hb)
  replace R21 := Lib.hid (R21.out.below hb)
  replace HB := Lib.hid (kp_call HB.out hb)
  clear C hb
  go_wp2_with fail
  have C := bits_any A10 n10 c10 _ w12 R10.out (by omega)
  rw [if_pos (right_n Bva.out (by decide)), val_num] at C
  refine C.mono ?_
  rintro e w' ⟨rfl, rfl⟩
  clear C
  go_wp2_with fail
  have C := bits_any A11 n11 c11 _ w12 R11.out (by omega)
  rw [if_pos (right_n Bvb.out (by decide)), val_num] at C
  refine C.mono ?_
  rintro e w' ⟨rfl, rfl⟩
  clear C
  by_cases hbb : (bitsN va : Int) < (bitsN vb : Int)
  · go_wp2_with fail
    refine (works_any w12).mono ?_
    rintro e w13 ⟨rfl, hb⟩
    replace R10 := Lib.hid (R10.out.below hb)
    replace R11 := Lib.hid (R11.out.below hb)
    replace R12 := Lib.hid (R12.out.below hb)
    replace R20 := Lib.hid (R20.out.below hb)
    replace R21 := Lib.hid (R21.out.below hb)
    replace HB := Lib.hid (kp_call HB.out hb)
    clear hb
    go_wp2
    go_ret
    exact ⟨rfl, HB.out⟩
  · go_wp2_with fail
    refine (works_any w12).mono ?_
    rintro e w13 ⟨rfl, hb⟩
    replace R10 := Lib.hid (R10.out.below hb)
    replace R11 := Lib.hid (R11.out.below hb)
    replace R12 := Lib.hid (R12.out.below hb)
    replace R20 := Lib.hid (R20.out.below hb)
    replace R21 := Lib.hid (R21.out.below hb)
    replace HB := Lib.hid (kp_call HB.out hb)
    clear hb
    go_wp2
    go_ret
    exact ⟨rfl, HB.out⟩
set_option maxHeartbeats 16000000 in
theorem order_l2 (A : Option Addr) (n0 c0 : Nat) (x : List Nat) (B : Option Addr) (n1 c1 : Nat) (y : List Nat) (C : Option Addr) (n2 c2 : Nat) (z : List Nat) (w : World) (h0 : IsUs w A n0 c0 x) (h1 : IsUs w B n1 c1 y) (h2 : IsUs w C n2 c2 z) (hc : briefQ x 80 < briefQ y 80) (hd : briefQ z 80 < briefQ y 80) :
    Calls Try.prog 8 #[.slice A n0 c0, .slice B n1 c1, .slice C n2 c2] w fun e w' => e = .returned (.bool true) ∧ Below w.heap.size w w' := by
  have Ix := Lib.hid h0
  have le0 := h0.le
  have mx0 : c0 ≤ 9223372036854775807 := by have h := h0.max; unfold maxLen at h; exact h
  have Bva := brief_lt x 80 h0.ru.lim
  obtain ⟨va, hva⟩ : ∃ va, briefQ x 80 = va := ⟨_, rfl⟩
  rw [hva] at Bva
  have Vva := Lib.hid hva
  have Bva := Lib.hid Bva
  rw [hva] at hc
  clear h0 hva
  have Iy := Lib.hid h1
  have le1 := h1.le
  have mx1 : c1 ≤ 9223372036854775807 := by have h := h1.max; unfold maxLen at h; exact h
  have Bvb := brief_lt y 80 h1.ru.lim
  obtain ⟨vb, hvb⟩ : ∃ vb, briefQ y 80 = vb := ⟨_, rfl⟩
  rw [hvb] at Bvb
  have Vvb := Lib.hid hvb
  have Bvb := Lib.hid Bvb
  rw [hvb] at hc hd
  clear h1 hvb
  have Iz := Lib.hid h2
  have le2 := h2.le
  have mx2 : c2 ≤ 9223372036854775807 := by have h := h2.max; unfold maxLen at h; exact h
  have Bvc := brief_lt z 80 h2.ru.lim
  obtain ⟨vc, hvc⟩ : ∃ vc, briefQ z 80 = vc := ⟨_, rfl⟩
  rw [hvc] at Bvc
  have Vvc := Lib.hid hvc
  have Bvc := Lib.hid Bvc
  rw [hvc] at hd
  clear h2 hvc
  have HC := Lib.hid hc
  have HD := Lib.hid hd
  clear hc hd
  go_enter Try.func8, Try.ntmps8
  go_wp2_with fail
  have C := brief_any A n0 c0 80 x w (Ix.out.ru) le0 mx0 (by decide)
  rw [Vva.out] at C
  refine C.mono ?_
  rintro e w1 ⟨A10, n10, c10, rfl, r10, l10, m10, q10, hb⟩
  have HB := Lib.hid hb
  have R10 := Lib.hid r10
  clear C r10 hb
  go_wp2_with fail
  have C := brief_any B n1 c1 80 y w1 (Iy.out.ru.below HB.out) le1 mx1 (by decide)
  rw [Vvb.out] at C
  refine C.mono ?_
  rintro e w2 ⟨A11, n11, c11, rfl, r11, l11, m11, q11, hb⟩
  replace R10 := Lib.hid (R10.out.below hb)
  replace HB := Lib.hid (kp_call HB.out hb)
  have R11 := Lib.hid r11
  clear C r11 hb
  go_wp2_with fail
  have C := brief_any C n2 c2 80 z w2 (Iz.out.ru.below HB.out) le2 mx2 (by decide)
  rw [Vvc.out] at C
  refine C.mono ?_
  rintro e w3 ⟨A12, n12, c12, rfl, r12, l12, m12, q12, hb⟩
  replace R10 := Lib.hid (R10.out.below hb)
  replace R11 := Lib.hid (R11.out.below hb)
  replace HB := Lib.hid (kp_call HB.out hb)
  have R12 := Lib.hid r12
  clear C r12 hb
  go_wp2_with fail
  have C := cmp_any A10 A11 n10 c10 n11 c11 _ _ w3 R10.out R11.out (by omega) (by omega)
  rw [cmp_n Bva.out Bvb.out (by decide), cmpV_lt HC.out] at C
  refine C.mono ?_
  rintro e w4 ⟨rfl, hb⟩
  replace R10 := Lib.hid (R10.out.below hb)
  replace R11 := Lib.hid (R11.out.below hb)
  replace R12 := Lib.hid (R12.out.below hb)
  replace HB := Lib.hid (kp_call HB.out hb)
  clear C hb
  go_wp2_with fail
  have C := cmp_any A11 A10 n11 c11 n10 c10 _ _ w4 R11.out R10.out (by omega) (by omega)
  rw [cmp_n Bvb.out Bva.out (by decide), cmpV_gt HC.out] at C
  refine C.mono ?_
  rintro e w5 ⟨rfl, hb⟩
  replace R10 := Lib.hid (R10.out.below hb)
  replace R11 := Lib.hid (R11.out.below hb)
  replace R12 := Lib.hid (R12.out.below hb)
  replace HB := Lib.hid (kp_call HB.out hb)
  clear C hb
  go_wp2_with fail
  have C := same_any A10 A11 n10 c10 n11 c11 _ _ w5 R10.out R11.out (by omega) (by omega)
  rw [decide_eq_false (fun e => by have := num_inj e; have := HC.out; omega)] at C
  refine C.mono ?_
  rintro e w6 ⟨rfl, hb⟩
  replace R10 := Lib.hid (R10.out.below hb)
  replace R11 := Lib.hid (R11.out.below hb)
  replace R12 := Lib.hid (R12.out.below hb)
  replace HB := Lib.hid (kp_call HB.out hb)
  clear C hb
  go_wp2_with fail
  have C := cmp_any A10 A10 n10 c10 n10 c10 _ _ w6 R10.out R10.out (by omega) (by omega)
  rw [cmp_n Bva.out Bva.out (by decide), cmpV_eq rfl] at C
  refine C.mono ?_
  rintro e w7 ⟨rfl, hb⟩
  replace R10 := Lib.hid (R10.out.below hb)
  replace R11 := Lib.hid (R11.out.below hb)
  replace R12 := Lib.hid (R12.out.below hb)
  replace HB := Lib.hid (kp_call HB.out hb)
  clear C hb
  go_wp2_with fail
  have C := cmp_any A11 A12 n11 c11 n12 c12 _ _ w7 R11.out R12.out (by omega) (by omega)
  rw [cmp_n Bvb.out Bvc.out (by decide), cmpV_gt HD.out] at C
  refine C.mono ?_
  rintro e w8 ⟨rfl, hb⟩
  replace R10 := Lib.hid (R10.out.below hb)
  replace R11 := Lib.hid (R11.out.below hb)
  replace R12 := Lib.hid (R12.out.below hb)
  replace HB := Lib.hid (kp_call HB.out hb)
  clear C hb
  go_wp2_with fail
  have C := add_any A10 A12 n10 c10 n12 c12 _ _ w8 R10.out R12.out (by omega) (by omega)
  rw [add_n Bva.out Bvc.out (by decide)] at C
  refine C.mono ?_
  rintro e w9 ⟨A20, n20, c20, rfl, s20, l20, m20, q20, hb⟩
  replace R10 := Lib.hid (R10.out.below hb)
  replace R11 := Lib.hid (R11.out.below hb)
  replace R12 := Lib.hid (R12.out.below hb)
  replace HB := Lib.hid (kp_call HB.out hb)
  have R20 := Lib.hid s20.ru
  clear C s20 hb
  go_wp2_with fail
  have C := add_any A11 A12 n11 c11 n12 c12 _ _ w9 R11.out R12.out (by omega) (by omega)
  rw [add_n Bvb.out Bvc.out (by decide)] at C
  refine C.mono ?_
  rintro e w10 ⟨A21, n21, c21, rfl, s21, l21, m21, q21, hb⟩
  replace R10 := Lib.hid (R10.out.below hb)
  replace R11 := Lib.hid (R11.out.below hb)
  replace R12 := Lib.hid (R12.out.below hb)
  replace R20 := Lib.hid (R20.out.below hb)
  replace HB := Lib.hid (kp_call HB.out hb)
  have R21 := Lib.hid s21.ru
  clear C s21 hb
  go_wp2_with fail
  have C := cmp_any A20 A21 n20 c20 n21 c21 _ _ w10 R20.out R21.out (by omega) (by omega)
  rw [cmp_n (pw_add Bva.out Bvc.out) (pw_add Bvb.out Bvc.out) (by decide), cmpV_lt (by have := HC.out; omega)] at C
  refine C.mono ?_
  rintro e w11 ⟨rfl, hb⟩
  replace R10 := Lib.hid (R10.out.below hb)
  replace R11 := Lib.hid (R11.out.below hb)
  replace R12 := Lib.hid (R12.out.below hb)
  replace R20 := Lib.hid (R20.out.below hb)
  replace R21 := Lib.hid (R21.out.below hb)
  replace HB := Lib.hid (kp_call HB.out hb)
  clear C hb
  go_wp2_with fail
  have C := bits_any A10 n10 c10 _ w11 R10.out (by omega)
  rw [if_pos (right_n Bva.out (by decide)), val_num] at C
  refine C.mono ?_
  rintro e w' ⟨rfl, rfl⟩
  clear C
  go_wp2_with fail
  have C := bits_any A11 n11 c11 _ w11 R11.out (by omega)
  rw [if_pos (right_n Bvb.out (by decide)), val_num] at C
  refine C.mono ?_
  rintro e w' ⟨rfl, rfl⟩
  clear C
  by_cases hbb : (bitsN va : Int) < (bitsN vb : Int)
  · go_wp2_with fail
    refine (works_any w11).mono ?_
    rintro e w12 ⟨rfl, hb⟩
    replace R10 := Lib.hid (R10.out.below hb)
    replace R11 := Lib.hid (R11.out.below hb)
    replace R12 := Lib.hid (R12.out.below hb)
    replace R20 := Lib.hid (R20.out.below hb)
    replace R21 := Lib.hid (R21.out.below hb)
    replace HB := Lib.hid (kp_call HB.out hb)
    clear hb
    go_wp2
    go_ret
    exact ⟨rfl, HB.out⟩
  · go_wp2_with fail
    refine (works_any w11).mono ?_
    rintro e w12 ⟨rfl, hb⟩
    replace R10 := Lib.hid (R10.out.below hb)
    replace R11 := Lib.hid (R11.out.below hb)
    replace R12 := Lib.hid (R12.out.below hb)
    replace R20 := Lib.hid (R20.out.below hb)
    replace R21 := Lib.hid (R21.out.below hb)
    replace HB := Lib.hid (kp_call HB.out hb)
    clear hb
    go_wp2
    go_ret
    exact ⟨rfl, HB.out⟩
set_option maxHeartbeats 16000000 in
theorem order_e1a (A : Option Addr) (n0 c0 : Nat) (x : List Nat) (B : Option Addr) (n1 c1 : Nat) (y : List Nat) (C : Option Addr) (n2 c2 : Nat) (z : List Nat) (w : World) (h0 : IsUs w A n0 c0 x) (h1 : IsUs w B n1 c1 y) (h2 : IsUs w C n2 c2 z) (hc : briefQ x 80 = briefQ y 80) (hd : briefQ y 80 < briefQ z 80) :
    Calls Try.prog 8 #[.slice A n0 c0, .slice B n1 c1, .slice C n2 c2] w fun e w' => e = .returned (.bool true) ∧ Below w.heap.size w w' := by
  have Ix := Lib.hid h0
  have le0 := h0.le
  have mx0 : c0 ≤ 9223372036854775807 := by have h := h0.max; unfold maxLen at h; exact h
  have Bva := brief_lt x 80 h0.ru.lim
  obtain ⟨va, hva⟩ : ∃ va, briefQ x 80 = va := ⟨_, rfl⟩
  rw [hva] at Bva
  have Vva := Lib.hid hva
  have Bva := Lib.hid Bva
  rw [hva] at hc
  clear h0 hva
  have Iy := Lib.hid h1
  have le1 := h1.le
  have mx1 : c1 ≤ 9223372036854775807 := by have h := h1.max; unfold maxLen at h; exact h
  have Bvb := brief_lt y 80 h1.ru.lim
  obtain ⟨vb, hvb⟩ : ∃ vb, briefQ y 80 = vb := ⟨_, rfl⟩
  rw [hvb] at Bvb
  have Vvb := Lib.hid hvb
  have Bvb := Lib.hid Bvb
  rw [hvb] at hc hd
  clear h1 hvb
  have Iz := Lib.hid h2
  have le2 := h2.le
  have mx2 : c2 ≤ 9223372036854775807 := by have h := h2.max; unfold maxLen at h; exact h
  have Bvc := brief_lt z 80 h2.ru.lim
  obtain ⟨vc, hvc⟩ : ∃ vc, briefQ z 80 = vc := ⟨_, rfl⟩
  rw [hvc] at Bvc
  have Vvc := Lib.hid hvc
  have Bvc := Lib.hid Bvc
  rw [hvc] at hd
  clear h2 hvc
  have HC := Lib.hid hc
  have HD := Lib.hid hd
  clear hc hd
  go_enter Try.func8, Try.ntmps8
  go_wp2_with fail
  have C := brief_any A n0 c0 80 x w (Ix.out.ru) le0 mx0 (by decide)
  rw [Vva.out] at C
  refine C.mono ?_
  rintro e w1 ⟨A10, n10, c10, rfl, r10, l10, m10, q10, hb⟩
  have HB := Lib.hid hb
  have R10 := Lib.hid r10
  clear C r10 hb
  go_wp2_with fail
  have C := brief_any B n1 c1 80 y w1 (Iy.out.ru.below HB.out) le1 mx1 (by decide)
  rw [Vvb.out] at C
  refine C.mono ?_
  rintro e w2 ⟨A11, n11, c11, rfl, r11, l11, m11, q11, hb⟩
  replace R10 := Lib.hid (R10.out.below hb)
  replace HB := Lib.hid (kp_call HB.out hb)
  have R11 := Lib.hid r11
  clear C r11 hb
  go_wp2_with fail
  have C := brief_any C n2 c2 80 z w2 (Iz.out.ru.below HB.out) le2 mx2 (by decide)
  rw [Vvc.out] at C
  refine C.mono ?_
  rintro e w3 ⟨A12, n12, c12, rfl, r12, l12, m12, q12, hb⟩
  replace R10 := Lib.hid (R10.out.below hb)
  replace R11 := Lib.hid (R11.out.below hb)
  replace HB := Lib.hid (kp_call HB.out hb)
  have R12 := Lib.hid r12
  clear C r12 hb
  go_wp2_with fail
  have C := cmp_any A10 A11 n10 c10 n11 c11 _ _ w3 R10.out R11.out (by omega) (by omega)
  rw [cmp_n Bva.out Bvb.out (by decide), cmpV_eq HC.out] at C
  refine C.mono ?_
  rintro e w4 ⟨rfl, hb⟩
  replace R10 := Lib.hid (R10.out.below hb)
  replace R11 := Lib.hid (R11.out.below hb)
  replace R12 := Lib.hid (R12.out.below hb)
  replace HB := Lib.hid (kp_call HB.out hb)
  clear C hb
  go_wp2_with fail
  have C := cmp_any A11 A10 n11 c11 n10 c10 _ _ w4 R11.out R10.out (by omega) (by omega)
  rw [cmp_n Bvb.out Bva.out (by decide), cmpV_eq HC.out.symm] at C
  refine C.mono ?_
  rintro e w5 ⟨rfl, hb⟩
  replace R10 := Lib.hid (R10.out.below hb)
  replace R11 := Lib.hid (R11.out.below hb)
  replace R12 := Lib.hid (R12.out.below hb)
  replace HB := Lib.hid (kp_call HB.out hb)
  clear C hb
  go_wp2_with fail
  have C := same_t A10 A11 n10 c10 n11 c11 _ _ w5 R10.out R11.out (by omega) (by omega) (by rw [HC.out])
  refine C.mono ?_
  rintro e w6 ⟨rfl, hb⟩
  replace R10 := Lib.hid (R10.out.below hb)
  replace R11 := Lib.hid (R11.out.below hb)
  replace R12 := Lib.hid (R12.out.below hb)
  replace HB := Lib.hid (kp_call HB.out hb)
  clear C hb
  go_wp2_with fail
  have C := cmp_any A10 A10 n10 c10 n10 c10 _ _ w6 R10.out R10.out (by omega) (by omega)
  rw [cmp_n Bva.out Bva.out (by decide), cmpV_eq rfl] at C
  refine C.mono ?_
  rintro e w7 ⟨rfl, hb⟩
  replace R10 := Lib.hid (R10.out.below hb)
  replace R11 := Lib.hid (R11.out.below hb)
  replace R12 := Lib.hid (R12.out.below hb)
  replace HB := Lib.hid (kp_call HB.out hb)
  clear C hb
  go_wp2_with fail
  have C := cmp_any A11 A12 n11 c11 n12 c12 _ _ w7 R11.out R12.out (by omega) (by omega)
  rw [cmp_n Bvb.out Bvc.out (by decide), cmpV_lt HD.out] at C
  refine C.mono ?_
  rintro e w8 ⟨rfl, hb⟩
  replace R10 := Lib.hid (R10.out.below hb)
  replace R11 := Lib.hid (R11.out.below hb)
  replace R12 := Lib.hid (R12.out.below hb)
  replace HB := Lib.hid (kp_call HB.out hb)
  clear C hb
  go_wp2_with fail
  have C := cmp_any A10 A12 n10 c10 n12 c12 _ _ w8 R10.out R12.out (by omega) (by omega)
  rw [cmp_n Bva.out Bvc.out (by decide), cmpV_lt (by have := HC.out; have := HD.out; omega)] at C
  refine C.mono ?_
  rintro e w9 ⟨rfl, hb⟩
  replace R10 := Lib.hid (R10.out.below hb)
  replace R11 := Lib.hid (R11.out.below hb)
  replace R12 := Lib.hid (R12.out.below hb)
  replace HB := Lib.hid (kp_call HB.out hb)
  clear C hb
  go_wp2_with fail
  have C := add_any A10 A12 n10 c10 n12 c12 _ _ w9 R10.out R12.out (by omega) (by omega)
  rw [add_n Bva.out Bvc.out (by decide)] at C
  refine C.mono ?_
  rintro e w10 ⟨A20, n20, c20, rfl, s20, l20, m20, q20, hb⟩
  replace R10 := Lib.hid (R10.out.below hb)
  replace R11 := Lib.hid (R11.out.below hb)
  replace R12 := Lib.hid (R12.out.below hb)
  replace HB := Lib.hid (kp_call HB.out hb)
  have R20 := Lib.hid s20.ru
  clear C s20 hb
  go_wp2_with fail
  have C := add_any A11 A12 n11 c11 n12 c12 _ _ w10 R11.out R12.out (by omega) (by omega)
  rw [add_n Bvb.out Bvc.out (by decide)] at C
  refine C.mono ?_
  rintro e w11 ⟨A21, n21, c21, rfl, s21, l21, m21, q21, hb⟩
  replace R10 := Lib.hid (R10.out.below hb)
  replace R11 := Lib.hid (R11.out.below hb)
  replace R12 := Lib.hid (R12.out.below hb)
  replace R20 := Lib.hid (R20.out.below hb)
  replace HB := Lib.hid (kp_call HB.out hb)
  have R21 := Lib.hid s21.ru
  clear C s21 hb
  go_wp2_with fail
  have C := cmp_any A20 A21 n20 c20 n21 c21 _ _ w11 R20.out R21.out (by omega) (by omega)
  rw [cmp_n (pw_add Bva.out Bvc.out) (pw_add Bvb.out Bvc.out) (by decide), cmpV_eq (by have := HC.out; omega)] at C
  refine C.mono ?_
  rintro e w12 ⟨rfl, hb⟩
  replace R10 := Lib.hid (R10.out.below hb)
  replace R11 := Lib.hid (R11.out.below hb)
  replace R12 := Lib.hid (R12.out.below hb)
  replace R20 := Lib.hid (R20.out.below hb)
  replace R21 := Lib.hid (R21.out.below hb)
  replace HB := Lib.hid (kp_call HB.out hb)
  clear C hb
  go_wp2_with fail
  have C := bits_any A10 n10 c10 _ w12 R10.out (by omega)
  rw [if_pos (right_n Bva.out (by decide)), val_num] at C
  refine C.mono ?_
  rintro e w' ⟨rfl, rfl⟩
  clear C
  go_wp2_with fail
  have C := bits_any A11 n11 c11 _ w12 R11.out (by omega)
  rw [if_pos (right_n Bvb.out (by decide)), val_num] at C
  refine C.mono ?_
  rintro e w' ⟨rfl, rfl⟩
  clear C
  have hbb := bits_mono (Nat.le_of_eq HC.out.symm)
  have hbc : ¬ (bitsN va : Int) < (bitsN vb : Int) := by omega
  clear hbb
  go_wp2_with fail
  refine (works_any w12).mono ?_
  rintro e w13 ⟨rfl, hb⟩
  replace R10 := Lib.hid (R10.out.below hb)
  replace R11 := Lib.hid (R11.out.below hb)
  replace R12 := Lib.hid (R12.out.below hb)
  replace R20 := Lib.hid (R20.out.below hb)
  replace R21 := Lib.hid (R21.out.below hb)
  replace HB := Lib.hid (kp_call HB.out hb)
  clear hb
  go_wp2
  go_ret
  exact ⟨rfl, HB.out⟩
set_option maxHeartbeats 16000000 in
theorem order_e1b (A : Option Addr) (n0 c0 : Nat) (x : List Nat) (B : Option Addr) (n1 c1 : Nat) (y : List Nat) (C : Option Addr) (n2 c2 : Nat) (z : List Nat) (w : World) (h0 : IsUs w A n0 c0 x) (h1 : IsUs w B n1 c1 y) (h2 : IsUs w C n2 c2 z) (hc : briefQ x 80 = briefQ y 80) (hd : briefQ y 80 = briefQ z 80) :
    Calls Try.prog 8 #[.slice A n0 c0, .slice B n1 c1, .slice C n2 c2] w fun e w' => e = .returned (.bool true) ∧ Below w.heap.size w w' := by
  have Ix := Lib.hid h0
  have le0 := h0.le
  have mx0 : c0 ≤ 9223372036854775807 := by have h := h0.max; unfold maxLen at h; exact h
  have Bva := brief_lt x 80 h0.ru.lim
  obtain ⟨va, hva⟩ : ∃ va, briefQ x 80 = va := ⟨_, rfl⟩
  rw [hva] at Bva
  have Vva := Lib.hid hva
  have Bva := Lib.hid Bva
  rw [hva] at hc
  clear h0 hva
  have Iy := Lib.hid h1
  have le1 := h1.le
  have mx1 : c1 ≤ 9223372036854775807 := by have h := h1.max; unfold maxLen at h; exact h
  have Bvb := brief_lt y 80 h1.ru.lim
  obtain ⟨vb, hvb⟩ : ∃ vb, briefQ y 80 = vb := ⟨_, rfl⟩
  rw [hvb] at Bvb
  have Vvb := Lib.hid hvb
  have Bvb := Lib.hid Bvb
  rw [hvb] at hc hd
  clear h1 hvb
  have Iz := Lib.hid h2
  have le2 := h2.le
  have mx2 : c2 ≤ 9223372036854775807 := by have h := h2.max; unfold maxLen at h; exact h
  have Bvc := brief_lt z 80 h2.ru.lim
  obtain ⟨vc, hvc⟩ : ∃ vc, briefQ z 80 = vc := ⟨_, rfl⟩
  rw [hvc] at Bvc
  have Vvc := Lib.hid hvc
  have Bvc := Lib.hid Bvc
  rw [hvc] at hd
  clear h2 hvc
  have HC := Lib.hid hc
  have HD := Lib.hid hd
  clear hc hd
  go_enter Try.func8, Try.ntmps8
  go_wp2_with fail
  have C := brief_any A n0 c0 80 x w (Ix.out.ru) le0 mx0 (by decide)
  rw [Vva.out] at C
  refine C.mono ?_
  rintro e w1 ⟨A10, n10, c10, rfl, r10, l10, m10, q10, hb⟩
  have HB := Lib.hid hb
  have R10 := Lib.hid r10
  clear C r10 hb
  go_wp2_with fail
  have C := brief_any B n1 c1 80 y w1 (Iy.out.ru.below HB.out) le1 mx1 (by decide)
  rw [Vvb.out] at C
  refine C.mono ?_
  rintro e w2 ⟨A11, n11, c11, rfl, r11, l11, m11, q11, hb⟩
  replace R10 := Lib.hid (R10.out.below hb)
  replace HB := Lib.hid (kp_call HB.out hb)
  have R11 := Lib.hid r11
  clear C r11 hb
  go_wp2_with fail
  have C := brief_any C n2 c2 80 z w2 (Iz.out.ru.below HB.out) le2 mx2 (by decide)
  rw [Vvc.out] at C
  refine C.mono ?_
  rintro e w3 ⟨A12, n12, c12, rfl, r12, l12, m12, q12, hb⟩
  replace R10 := Lib.hid (R10.out.below hb)
  replace R11 := Lib.hid (R11.out.below hb)
  replace HB := Lib.hid (kp_call HB.out hb)
  have R12 := Lib.hid r12
  clear C r12 hb
  go_wp2_with fail
  have C := cmp_any A10 A11 n10 c10 n11 c11 _ _ w3 R10.out R11.out (by omega) (by omega)
  rw [cmp_n Bva.out Bvb.out (by decide), cmpV_eq HC.out] at C
  refine C.mono ?_
  rintro e w4 ⟨rfl, hb⟩
  replace R10 := Lib.hid (R10.out.below hb)
  replace R11 := Lib.hid (R11.out.below hb)
  replace R12 := Lib.hid (R12.out.below hb)
  replace HB := Lib.hid (kp_call HB.out hb)
  clear C hb
  go_wp2_with fail
  have C := cmp_any A11 A10 n11 c11 n10 c10 _ _ w4 R11.out R10.out (by omega) (by omega)
  rw [cmp_n Bvb.out Bva.out (by decide), cmpV_eq HC.out.symm] at C
  refine C.mono ?_
  rintro e w5 ⟨rfl, hb⟩
  replace R10 := Lib.hid (R10.out.below hb)
  replace R11 := Lib.hid (R11.out.below hb)
  replace R12 := Lib.hid (R12.out.below hb)
  replace HB := Lib.hid (kp_call HB.out hb)
  clear C hb
  go_wp2_with fail
  have C := same_t A10 A11 n10 c10 n11 c11 _ _ w5 R10.out R11.out (by omega) (by omega) (by rw [HC.out])
  refine C.mono ?_
  rintro e w6 ⟨rfl, hb⟩
  replace R10 := Lib.hid (R10.out.below hb)
  replace R11 := Lib.hid (R11.out.below hb)
  replace R12 := Lib.hid (R12.out.below hb)
  replace HB := Lib.hid (kp_call HB.out hb)
  clear C hb
  go_wp2_with fail
  have C := cmp_any A10 A10 n10 c10 n10 c10 _ _ w6 R10.out R10.out (by omega) (by omega)
  rw [cmp_n Bva.out Bva.out (by decide), cmpV_eq rfl] at C
  refine C.mono ?_
  rintro e w7 ⟨rfl, hb⟩
  replace R10 := Lib.hid (R10.out.below hb)
  replace R11 := Lib.hid (R11.out.below hb)
  replace R12 := Lib.hid (R12.out.below hb)
  replace HB := Lib.hid (kp_call HB.out hb)
  clear C hb
  go_wp2_with fail
  have C := cmp_any A11 A12 n11 c11 n12 c12 _ _ w7 R11.out R12.out (by omega) (by omega)
  rw [cmp_n Bvb.out Bvc.out (by decide), cmpV_eq HD.out] at C
  refine C.mono ?_
  rintro e w8 ⟨rfl, hb⟩
  replace R10 := Lib.hid (R10.out.below hb)
  replace R11 := Lib.hid (R11.out.below hb)
  replace R12 := Lib.hid (R12.out.below hb)
  replace HB := Lib.hid (kp_call HB.out hb)
  clear C hb
  go_wp2_with fail
  have C := cmp_any A10 A12 n10 c10 n12 c12 _ _ w8 R10.out R12.out (by omega) (by omega)
  rw [cmp_n Bva.out Bvc.out (by decide), cmpV_eq (by have := HC.out; have := HD.out; omega)] at C
  refine C.mono ?_
  rintro e w9 ⟨rfl, hb⟩
  replace R10 := Lib.hid (R10.out.below hb)
  replace R11 := Lib.hid (R11.out.below hb)
  replace R12 := Lib.hid (R12.out.below hb)
  replace HB := Lib.hid (kp_call HB.out hb)
  clear C hb
  go_wp2_with fail
  have C := add_any A10 A12 n10 c10 n12 c12 _ _ w9 R10.out R12.out (by omega) (by omega)
  rw [add_n Bva.out Bvc.out (by decide)] at C
  refine C.mono ?_
  rintro e w10 ⟨A20, n20, c20, rfl, s20, l20, m20, q20, hb⟩
  replace R10 := Lib.hid (R10.out.below hb)
  replace R11 := Lib.hid (R11.out.below hb)
  replace R12 := Lib.hid (R12.out.below hb)
  replace HB := Lib.hid (kp_call HB.out hb)
  have R20 := Lib.hid s20.ru
  clear C s20 hb
  go_wp2_with fail
  have C := add_any A11 A12 n11 c11 n12 c12 _ _ w10 R11.out R12.out (by omega) (by omega)
  rw [add_n Bvb.out Bvc.out (by decide)] at C
  refine C.mono ?_
  rintro e w11 ⟨A21, n21, c21, rfl, s21, l21, m21, q21, hb⟩
  replace R10 := Lib.hid (R10.out.below hb)
  replace R11 := Lib.hid (R11.out.below hb)
  replace R12 := Lib.hid (R12.out.below hb)
  replace R20 := Lib.hid (R20.out.below hb)
  replace HB := Lib.hid (kp_call HB.out hb)
  have R21 := Lib.hid s21.ru
  clear C s21 hb
  go_wp2_with fail
  have C := cmp_any A20 A21 n20 c20 n21 c21 _ _ w11 R20.out R21.out (by omega) (by omega)
  rw [cmp_n (pw_add Bva.out Bvc.out) (pw_add Bvb.out Bvc.out) (by decide), cmpV_eq (by have := HC.out; omega)] at C
  refine C.mono ?_
  rintro e w12 ⟨rfl, hb⟩
  replace R10 := Lib.hid (R10.out.below hb)
  replace R11 := Lib.hid (R11.out.below hb)
  replace R12 := Lib.hid (R12.out.below hb)
  replace R20 := Lib.hid (R20.out.below hb)
  replace R21 := Lib.hid (R21.out.below hb)
  replace HB := Lib.hid (kp_call HB.out hb)
  clear C hb
  go_wp2_with fail
  have C := bits_any A10 n10 c10 _ w12 R10.out (by omega)
  rw [if_pos (right_n Bva.out (by decide)), val_num] at C
  refine C.mono ?_
  rintro e w' ⟨rfl, rfl⟩
  clear C
  go_wp2_with fail
  have C := bits_any A11 n11 c11 _ w12 R11.out (by omega)
  rw [if_pos (right_n Bvb.out (by decide)), val_num] at C
  refine C.mono ?_
  rintro e w' ⟨rfl, rfl⟩
  clear C
  have hbb := bits_mono (Nat.le_of_eq HC.out.symm)
  have hbc : ¬ (bitsN va : Int) < (bitsN vb : Int) := by omega
  clear hbb
  go_wp2_with fail
  refine (works_any w12).mono ?_
  rintro e w13 ⟨rfl, hb⟩
  replace R10 := Lib.hid (R10.out.below hb)
  replace R11 := Lib.hid (R11.out.below hb)
  replace R12 := Lib.hid (R12.out.below hb)
  replace R20 := Lib.hid (R20.out.below hb)
  replace R21 := Lib.hid (R21.out.below hb)
  replace HB := Lib.hid (kp_call HB.out hb)
  clear hb
  go_wp2
  go_ret
  exact ⟨rfl, HB.out⟩
set_option maxHeartbeats 16000000 in
theorem order_e2 (A : Option Addr) (n0 c0 : Nat) (x : List Nat) (B : Option Addr) (n1 c1 : Nat) (y : List Nat) (C : Option Addr) (n2 c2 : Nat) (z : List Nat) (w : World) (h0 : IsUs w A n0 c0 x) (h1 : IsUs w B n1 c1 y) (h2 : IsUs w C n2 c2 z) (hc : briefQ x 80 = briefQ y 80) (hd : briefQ z 80 < briefQ y 80) :
    Calls Try.prog 8 #[.slice A n0 c0, .slice B n1 c1, .slice C n2 c2] w fun e w' => e = .returned (.bool true) ∧ Below w.heap.size w w' := by
  have Ix := Lib.hid h0
  have le0 := h0.le
  have mx0 : c0 ≤ 9223372036854775807 := by have h := h0.max; unfold maxLen at h; exact h
  have Bva := brief_lt x 80 h0.ru.lim
  obtain ⟨va, hva⟩ : ∃ va, briefQ x 80 = va := ⟨_, rfl⟩
  rw [hva] at Bva
  have Vva := Lib.hid hva
  have Bva := Lib.hid Bva
  rw [hva] at hc
  clear h0 hva
  have Iy := Lib.hid h1
  have le1 := h1.le
  have mx1 : c1 ≤ 9223372036854775807 := by have h := h1.max; unfold maxLen at h; exact h
  have Bvb := brief_lt y 80 h1.ru.lim
  obtain ⟨vb, hvb⟩ : ∃ vb, briefQ y 80 = vb := ⟨_, rfl⟩
  rw [hvb] at Bvb
  have Vvb := Lib.hid hvb
  have Bvb := Lib.hid Bvb
  rw [hvb] at hc hd
  clear h1 hvb
  have Iz := Lib.hid h2
  have le2 := h2.le
  have mx2 : c2 ≤ 9223372036854775807 := by have h := h2.max; unfold maxLen at h; exact h
  have Bvc := brief_lt z 80 h2.ru.lim
  obtain ⟨vc, hvc⟩ : ∃ vc, briefQ z 80 = vc := ⟨_, rfl⟩
  rw [hvc] at Bvc
  have Vvc := Lib.hid hvc
  have Bvc := Lib.hid Bvc
  rw [hvc] at hd
  clear h2 hvc
  have HC := Lib.hid hc
  have HD := Lib.hid hd
  clear hc hd
  go_enter Try.func8, Try.ntmps8
  go_wp2_with fail
  have C := brief_any A n0 c0 80 x w (Ix.out.ru) le0 mx0 (by decide)
  rw [Vva.out] at C
  refine C.mono ?_
  rintro e w1 ⟨A10, n10, c10, rfl, r10, l10, m10, q10, hb⟩
  have HB := Lib.hid hb
  have R10 := Lib.hid r10
  clear C r10 hb
  go_wp2_with fail
  have C := brief_any B n1 c1 80 y w1 (Iy.out.ru.below HB.out) le1 mx1 (by decide)
  rw [Vvb.out] at C
  refine C.mono ?_
  rintro e w2 ⟨A11, n11, c11, rfl, r11, l11, m11, q11, hb⟩
  replace R10 := Lib.hid (R10.out.below hb)
  replace HB := Lib.hid (kp_call HB.out hb)
  have R11 := Lib.hid r11
  clear C r11 hb
  go_wp2_with fail
  have C := brief_any C n2 c2 80 z w2 (Iz.out.ru.below HB.out) le2 mx2 (by decide)
  rw [Vvc.out] at C
  refine C.mono ?_
  rintro e w3 ⟨A12, n12, c12, rfl, r12, l12, m12, q12, hb⟩
  replace R10 := Lib.hid (R10.out.below hb)
  replace R11 := Lib.hid (R11.out.below hb)
  replace HB := Lib.hid (kp_call HB.out hb)
  have R12 := Lib.hid r12
  clear C r12 hb
  go_wp2_with fail
  have C := cmp_any A10 A11 n10 c10 n11 c11 _ _ w3 R10.out R11.out (by omega) (by omega)
  rw [cmp_n Bva.out Bvb.out (by decide), cmpV_eq HC.out] at C
  refine C.mono ?_
  rintro e w4 ⟨rfl, hb⟩
  replace R10 := Lib.hid (R10.out.below hb)
  replace R11 := Lib.hid (R11.out.below hb)
  replace R12 := Lib.hid (R12.out.below hb)
  replace HB := Lib.hid (kp_call HB.out hb)
  clear C hb
  go_wp2_with fail
  have C := cmp_any A11 A10 n11 c11 n10 c10 _ _ w4 R11.out R10.out (by omega) (by omega)
  rw [cmp_n Bvb.out Bva.out (by decide), cmpV_eq HC.out.symm] at C
  refine C.mono ?_
  rintro e w5 ⟨rfl, hb⟩
  replace R10 := Lib.hid (R10.out.below hb)
  replace R11 := Lib.hid (R11.out.below hb)
  replace R12 := Lib.hid (R12.out.below hb)
  replace HB := Lib.hid (kp_call HB.out hb)
  clear C hb
  go_wp2_with fail
  have C := same_t A10 A11 n10 c10 n11 c11 _ _ w5 R10.out R11.out (by omega) (by omega) (by rw [HC.out])
  refine C.mono ?_
  rintro e w6 ⟨rfl, hb⟩
  replace R10 := Lib.hid (R10.out.below hb)
  replace R11 := Lib.hid (R11.out.below hb)
  replace R12 := Lib.hid (R12.out.below hb)
  replace HB := Lib.hid (kp_call HB.out hb)
  clear C hb
  go_wp2_with fail
  have C := cmp_any A10 A10 n10 c10 n10 c10 _ _ w6 R10.out R10.out (by omega) (by omega)
  rw [cmp_n Bva.out Bva.out (by decide), cmpV_eq rfl] at C
  refine C.mono ?_
  rintro e w7 ⟨rfl, hb⟩
  replace R10 := Lib.hid (R10.out.below hb)
  replace R11 := Lib.hid (R11.out.below hb)
  replace R12 := Lib.hid (R12.out.below hb)
  replace HB := Lib.hid (kp_call HB.out hb)
  clear C hb
  go_wp2_with fail
  have C := cmp_any A11 A12 n11 c11 n12 c12 _ _ w7 R11.out R12.out (by omega) (by omega)
  rw [cmp_n Bvb.out Bvc.out (by decide), cmpV_gt HD.out] at C
  refine C.mono ?_
  rintro e w8 ⟨rfl, hb⟩
  replace R10 := Lib.hid (R10.out.below hb)
  replace R11 := Lib.hid (R11.out.below hb)
  replace R12 := Lib.hid (R12.out.below hb)
  replace HB := Lib.hid (kp_call HB.out hb)
  clear C hb
  go_wp2_with fail
  have C := add_any A10 A12 n10 c10 n12 c12 _ _ w8 R10.out R12.out (by omega) (by omega)
  rw [add_n Bva.out Bvc.out (by decide)] at C
  refine C.mono ?_
  rintro e w9 ⟨A20, n20, c20, rfl, s20, l20, m20, q20, hb⟩
  replace R10 := Lib.hid (R10.out.below hb)
  replace R11 := Lib.hid (R11.out.below hb)
  replace R12 := Lib.hid (R12.out.below hb)
  replace HB := Lib.hid (kp_call HB.out hb)
  have R20 := Lib.hid s20.ru
  clear C s20 hb
  go_wp2_with fail
  have C := add_any A11 A12 n11 c11 n12 c12 _ _ w9 R11.out R12.out (by omega) (by omega)
  rw [add_n Bvb.out Bvc.out (by decide)] at C
  refine C.mono ?_
  rintro e w10 ⟨A21, n21, c21, rfl, s21, l21, m21, q21, hb⟩
  replace R10 := Lib.hid (R10.out.below hb)
  replace R11 := Lib.hid (R11.out.below hb)
  replace R12 := Lib.hid (R12.out.below hb)
  replace R20 := Lib.hid (R20.out.below hb)
  replace HB := Lib.hid (kp_call HB.out hb)
  have R21 := Lib.hid s21.ru
  clear C s21 hb
  go_wp2_with fail
  have C := cmp_any A20 A21 n20 c20 n21 c21 _ _ w10 R20.out R21.out (by omega) (by omega)
  rw [cmp_n (pw_add Bva.out Bvc.out) (pw_add Bvb.out Bvc.out) (by decide), cmpV_eq (by have := HC.out; omega)] at C
  refine C.mono ?_
  rintro e w11 ⟨rfl, hb⟩
  replace R10 := Lib.hid (R10.out.below hb)
  replace R11 := Lib.hid (R11.out.below hb)
  replace R12 := Lib.hid (R12.out.below hb)
  replace R20 := Lib.hid (R20.out.below hb)
  replace R21 := Lib.hid (R21.out.below hb)
  replace HB := Lib.hid (kp_call HB.out hb)
  clear C hb
  go_wp2_with fail
  have C := bits_any A10 n10 c10 _ w11 R10.out (by omega)
  rw [if_pos (right_n Bva.out (by decide)), val_num] at C
  refine C.mono ?_
  rintro e w' ⟨rfl, rfl⟩
  clear C
  go_wp2_with fail
  have C := bits_any A11 n11 c11 _ w11 R11.out (by omega)
  rw [if_pos (right_n Bvb.out (by decide)), val_num] at C
  refine C.mono ?_
  rintro e w' ⟨rfl, rfl⟩
  clear C
  have hbb := bits_mono (Nat.le_of_eq HC.out.symm)
  have hbc : ¬ (bitsN va : Int) < (bitsN vb : Int) := by omega
  clear hbb
  go_wp2_with fail
  refine (works_any w11).mono ?_
  rintro e w12 ⟨rfl, hb⟩
  replace R10 := Lib.hid (R10.out.below hb)
  replace R11 := Lib.hid (R11.out.below hb)
  replace R12 := Lib.hid (R12.out.below hb)
  replace R20 := Lib.hid (R20.out.below hb)
  replace R21 := Lib.hid (R21.out.below hb)
  replace HB := Lib.hid (kp_call HB.out hb)
  clear hb
  go_wp2
  go_ret
  exact ⟨rfl, HB.out⟩
set_option maxHeartbeats 16000000 in
theorem order_g (A : Option Addr) (n0 c0 : Nat) (x : List Nat) (B : Option Addr) (n1 c1 : Nat) (y : List Nat) (C : Option Addr) (n2 c2 : Nat) (z : List Nat) (w : World) (h0 : IsUs w A n0 c0 x) (h1 : IsUs w B n1 c1 y) (h2 : IsUs w C n2 c2 z) (hc : briefQ y 80 < briefQ x 80) (hd : True) :
    Calls Try.prog 8 #[.slice A n0 c0, .slice B n1 c1, .slice C n2 c2] w fun e w' => e = .returned (.bool true) ∧ Below w.heap.size w w' := by
  have Ix := Lib.hid h0
  have le0 := h0.le
  have mx0 : c0 ≤ 9223372036854775807 := by have h := h0.max; unfold maxLen at h; exact h
  have Bva := brief_lt x 80 h0.ru.lim
  obtain ⟨va, hva⟩ : ∃ va, briefQ x 80 = va := ⟨_, rfl⟩
  rw [hva] at Bva
  have Vva := Lib.hid hva
  have Bva := Lib.hid Bva
  rw [hva] at hc
  clear h0 hva
  have Iy := Lib.hid h1
  have le1 := h1.le
  have mx1 : c1 ≤ 9223372036854775807 := by have h := h1.max; unfold maxLen at h; exact h
  have Bvb := brief_lt y 80 h1.ru.lim
  obtain ⟨vb, hvb⟩ : ∃ vb, briefQ y 80 = vb := ⟨_, rfl⟩
  rw [hvb] at Bvb
  have Vvb := Lib.hid hvb
  have Bvb := Lib.hid Bvb
  rw [hvb] at hc
  clear h1 hvb
  have Iz := Lib.hid h2
  have le2 := h2.le
  have mx2 : c2 ≤ 9223372036854775807 := by have h := h2.max; unfold maxLen at h; exact h
  have Bvc := brief_lt z 80 h2.ru.lim
  obtain ⟨vc, hvc⟩ : ∃ vc, briefQ z 80 = vc := ⟨_, rfl⟩
  rw [hvc] at Bvc
  have Vvc := Lib.hid hvc
  have Bvc := Lib.hid Bvc
  clear h2 hvc
  have HC := Lib.hid hc
  have HD := Lib.hid hd
  clear hc hd
  go_enter Try.func8, Try.ntmps8
  go_wp2_with fail
  have C := brief_any A n0 c0 80 x w (Ix.out.ru) le0 mx0 (by decide)
  rw [Vva.out] at C
  refine C.mono ?_
  rintro e w1 ⟨A10, n10, c10, rfl, r10, l10, m10, q10, hb⟩
  have HB := Lib.hid hb
  have R10 := Lib.hid r10
  clear C r10 hb
  go_wp2_with fail
  have C := brief_any B n1 c1 80 y w1 (Iy.out.ru.below HB.out) le1 mx1 (by decide)
  rw [Vvb.out] at C
  refine C.mono ?_
  rintro e w2 ⟨A11, n11, c11, rfl, r11, l11, m11, q11, hb⟩
  replace R10 := Lib.hid (R10.out.below hb)
  replace HB := Lib.hid (kp_call HB.out hb)
  have R11 := Lib.hid r11
  clear C r11 hb
  go_wp2_with fail
  have C := brief_any C n2 c2 80 z w2 (Iz.out.ru.below HB.out) le2 mx2 (by decide)
  rw [Vvc.out] at C
  refine C.mono ?_
  rintro e w3 ⟨A12, n12, c12, rfl, r12, l12, m12, q12, hb⟩
  replace R10 := Lib.hid (R10.out.below hb)
  replace R11 := Lib.hid (R11.out.below hb)
  replace HB := Lib.hid (kp_call HB.out hb)
  have R12 := Lib.hid r12
  clear C r12 hb
  go_wp2_with fail
  have C := cmp_any A10 A11 n10 c10 n11 c11 _ _ w3 R10.out R11.out (by omega) (by omega)
  rw [cmp_n Bva.out Bvb.out (by decide), cmpV_gt HC.out] at C
  refine C.mono ?_
  rintro e w4 ⟨rfl, hb⟩
  replace R10 := Lib.hid (R10.out.below hb)
  replace R11 := Lib.hid (R11.out.below hb)
  replace R12 := Lib.hid (R12.out.below hb)
  replace HB := Lib.hid (kp_call HB.out hb)
  clear C hb
  go_wp2_with fail
  have C := cmp_any A11 A10 n11 c11 n10 c10 _ _ w4 R11.out R10.out (by omega) (by omega)
  rw [cmp_n Bvb.out Bva.out (by decide), cmpV_lt HC.out] at C
  refine C.mono ?_
  rintro e w5 ⟨rfl, hb⟩
  replace R10 := Lib.hid (R10.out.below hb)
  replace R11 := Lib.hid (R11.out.below hb)
  replace R12 := Lib.hid (R12.out.below hb)
  replace HB := Lib.hid (kp_call HB.out hb)
  clear C hb
  go_wp2_with fail
  have C := same_any A10 A11 n10 c10 n11 c11 _ _ w5 R10.out R11.out (by omega) (by omega)
  rw [decide_eq_false (fun e => by have := num_inj e; have := HC.out; omega)] at C
  refine C.mono ?_
  rintro e w6 ⟨rfl, hb⟩
  replace R10 := Lib.hid (R10.out.below hb)
  replace R11 := Lib.hid (R11.out.below hb)
  replace R12 := Lib.hid (R12.out.below hb)
  replace HB := Lib.hid (kp_call HB.out hb)
  clear C hb
  go_wp2_with fail
  have C := cmp_any A10 A10 n10 c10 n10 c10 _ _ w6 R10.out R10.out (by omega) (by omega)
  rw [cmp_n Bva.out Bva.out (by decide), cmpV_eq rfl] at C
  refine C.mono ?_
  rintro e w7 ⟨rfl, hb⟩
  replace R10 := Lib.hid (R10.out.below hb)
  replace R11 := Lib.hid (R11.out.below hb)
  replace R12 := Lib.hid (R12.out.below hb)
  replace HB := Lib.hid (kp_call HB.out hb)
  clear C hb
  go_wp2_with fail
  have C := add_any A10 A12 n10 c10 n12 c12 _ _ w7 R10.out R12.out (by omega) (by omega)
  rw [add_n Bva.out Bvc.out (by decide)] at C
  refine C.mono ?_
  rintro e w8 ⟨A20, n20, c20, rfl, s20, l20, m20, q20, hb⟩
  replace R10 := Lib.hid (R10.out.below hb)
  replace R11 := Lib.hid (R11.out.below hb)
  replace R12 := Lib.hid (R12.out.below hb)
  replace HB := Lib.hid (kp_call HB.out hb)
  have R20 := Lib.hid s20.ru
  clear C s20 hb
  go_wp2_with fail
  have C := add_any A11 A12 n11 c11 n12 c12 _ _ w8 R11.out R12.out (by omega) (by omega)
  rw [add_n Bvb.out Bvc.out (by decide)] at C
  refine C.mono ?_
  rintro e w9 ⟨A21, n21, c21, rfl, s21, l21, m21, q21, hb⟩
  replace R10 := Lib.hid (R10.out.below hb)
  replace R11 := Lib.hid (R11.out.below hb)
  replace R12 := Lib.hid (R12.out.below hb)
  replace R20 := Lib.hid (R20.out.below hb)
  replace HB := Lib.hid (kp_call HB.out hb)
  have R21 := Lib.hid s21.ru
  clear C s21 hb
  go_wp2_with fail
  have C := cmp_any A20 A21 n20 c20 n21 c21 _ _ w9 R20.out R21.out (by omega) (by omega)
  rw [cmp_n (pw_add Bva.out Bvc.out) (pw_add Bvb.out Bvc.out) (by decide), cmpV_gt (by have := HC.out; omega)] at C
  refine C.mono ?_
  rintro e w10 ⟨rfl, hb⟩
  replace R10 := Lib.hid (R10.out.below hb)
  replace R11 := Lib.hid (R11.out.below hb)
  replace R12 := Lib.hid (R12.out.below hb)
  replace R20 := Lib.hid (R20.out.below hb)
  replace R21 := Lib.hid (R21.out.below hb)
  replace HB := Lib.hid (kp_call HB.out hb)
  clear C hb
  go_wp2_with fail
  have C := bits_any A10 n10 c10 _ w10 R10.out (by omega)
  rw [if_pos (right_n Bva.out (by decide)), val_num] at C
  refine C.mono ?_
  rintro e w' ⟨rfl, rfl⟩
  clear C
  go_wp2_with fail
  have C := bits_any A11 n11 c11 _ w10 R11.out (by omega)
  rw [if_pos (right_n Bvb.out (by decide)), val_num] at C
  refine C.mono ?_
  rintro e w' ⟨rfl, rfl⟩
  clear C
  have hbb := bits_mono (Nat.le_of_lt HC.out)
  have hbc : ¬ (bitsN va : Int) < (bitsN vb : Int) := by omega
  clear hbb
  go_wp2_with fail
  refine (works_any w10).mono ?_
  rintro e w11 ⟨rfl, hb⟩
  replace R10 := Lib.hid (R10.out.below hb)
  replace R11 := Lib.hid (R11.out.below hb)
  replace R12 := Lib.hid (R12.out.below hb)
  replace R20 := Lib.hid (R20.out.below hb)
  replace R21 := Lib.hid (R21.out.below hb)
  replace HB := Lib.hid (kp_call HB.out hb)
  clear hb
  go_wp2
  go_ret
  exact ⟨rfl, HB.out⟩
set_option maxHeartbeats 16000000 in
theorem order_walk (A : Option Addr) (n0 c0 : Nat) (x : List Nat) (B : Option Addr) (n1 c1 : Nat) (y : List Nat) (C : Option Addr) (n2 c2 : Nat) (z : List Nat) (w : World) (h0 : IsUs w A n0 c0 x) (h1 : IsUs w B n1 c1 y) (h2 : IsUs w C n2 c2 z) :
    Calls Try.prog 8 #[.slice A n0 c0, .slice B n1 c1, .slice C n2 c2] w fun e w' => e = .returned (.bool true) ∧ Below w.heap.size w w' := by
  rcases Nat.lt_trichotomy (briefQ x 80) (briefQ y 80) with h | h | h
  · rcases Nat.lt_trichotomy (briefQ y 80) (briefQ z 80) with k | k | k
    · exact order_l1a A n0 c0 x B n1 c1 y C n2 c2 z w h0 h1 h2 h k
    · exact order_l1b A n0 c0 x B n1 c1 y C n2 c2 z w h0 h1 h2 h k
    · exact order_l2 A n0 c0 x B n1 c1 y C n2 c2 z w h0 h1 h2 h k
  · rcases Nat.lt_trichotomy (briefQ y 80) (briefQ z 80) with k | k | k
    · exact order_e1a A n0 c0 x B n1 c1 y C n2 c2 z w h0 h1 h2 h k
    · exact order_e1b A n0 c0 x B n1 c1 y C n2 c2 z w h0 h1 h2 h k
    · exact order_e2 A n0 c0 x B n1 c1 y C n2 c2 z w h0 h1 h2 h k
  · exact order_g A n0 c0 x B n1 c1 y C n2 c2 z w h0 h1 h2 h trivial
end Go.Proofs.Ytpopohfbcedpbaa
