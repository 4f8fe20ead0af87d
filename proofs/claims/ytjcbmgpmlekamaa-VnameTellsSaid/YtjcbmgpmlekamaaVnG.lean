/-
  vname: Fits; the row VnameAttrs (made by genVnG.py).
-/
import Derived.Test.YtjcbmgpmlekamaaVnE
import Derived.Laws.BitsAllLaws
namespace Go.Proofs.Ytjcbmgpmlekamaa
open Go.RowKit Go
set_option linter.unusedVariables false
set_option linter.unusedSimpArgs false
set_option maxRecDepth 100000
def c1 (a : Nat) : Bool := (a &&& 4294967192) != 0
def c2 (a : Nat) : Bool := (a &&& 3) != 3
def c3 (a : Nat) : Bool := (a &&& 36) != 36
def c4 (a : Nat) : Bool := (a &&& 64) != 0
/-- May a variable of a kind have these attributes? -/
def fitsB (k a : Nat) : Bool := !(decide (4 < k) || c1 a || c2 a || ((k == 1 || k == 2 || k == 3) && c3 a) || (k == 1 && c4 a))
theorem ne_cast (x c : Nat) : (((x : Nat) : Int) != ((c : Nat) : Int)) = (x != c) := by
  by_cases h : x = c
  · subst h; simp
  · have h2 : ¬ ((x : Nat) : Int) = ((c : Nat) : Int) := by omega
    rw [bne, bne, beq_eq_false_iff_ne.2 h, beq_eq_false_iff_ne.2 h2]
theorem c1_big (a : Nat) (h : 128 ≤ a) (h2 : a < 4294967296) : c1 a = true := by
  have : (a &&& 4294967192) ≠ 0 := fun h0 => by
    have h1 := congrArg (· >>> 7) h0
    simp only [Nat.shiftRight_and_distrib] at h1
    have e : (4294967192 >>> 7 : Nat) = 2 ^ 25 - 1 := by decide
    rw [e, Nat.and_two_pow_sub_one_eq_mod] at h1
    simp only [Nat.shiftRight_eq_div_pow] at h1
    omega
  simp [c1, this]
def plainA (a : Nat) : Bool := a == 3 || a == 7 || a == 35 || a == 39 || a == 67 || a == 71 || a == 99 || a == 103
theorem small : ∀ a : Fin 128, fitsB 0 a.val = plainA a.val ∧ fitsB 4 a.val = plainA a.val ∧ fitsB 2 a.val = (a.val == 39 || a.val == 103) ∧ fitsB 3 a.val = (a.val == 39 || a.val == 103) ∧ fitsB 1 a.val = (a.val == 39) := by decide +kernel
theorem fits_plain (a : Nat) (h : a < 4294967296) : fitsB 0 a = plainA a ∧ fitsB 4 a = plainA a ∧ fitsB 2 a = (a == 39 || a == 103) ∧ fitsB 3 a = (a == 39 || a == 103) ∧ fitsB 1 a = (a == 39) := by
  rcases Nat.lt_or_ge a 128 with h1 | h1
  · exact small ⟨a, h1⟩
  · have hc := c1_big a h1 h
    have hne : ∀ b, b < 128 → (a == b) = false := fun b hb => by simp; omega
    have hp : plainA a = false := by
      unfold plainA
      rw [hne 3 (by decide), hne 7 (by decide), hne 35 (by decide), hne 39 (by decide), hne 67 (by decide), hne 71 (by decide), hne 99 (by decide), hne 103 (by decide)]; rfl
    have hf : ∀ k, fitsB k a = false := fun k => by unfold fitsB; rw [hc]; simp
    rw [hf, hf, hf, hf, hf, hp, hne 39 (by decide), hne 103 (by decide)]
    exact ⟨rfl, rfl, rfl, rfl, rfl⟩
theorem fits_big (k a : Nat) (h : 4 < k) : fitsB k a = false := by unfold fitsB; rw [decide_eq_true h]; rfl
set_option maxHeartbeats 16000000 in
theorem fits_any (k a : Nat) (hk : k < 256) (ha : a < 4294967296) (w : World) : Calls Try.prog 21 #[.int .u8 (k : Int), .int .u32 (a : Int)] w fun e w' => e = .returned (.int .i64 (if fitsB k a = true then 0 else 1)) ∧ w' = w := by
  have b1 : (bits BinOp.andNot IntKind.u32 (a : Int) 103 != 0) = c1 a := by
    have h : bits BinOp.andNot IntKind.u32 (a : Int) 103 = ((a &&& 4294967192 : Nat) : Int) := u32_andNot_nat a 103 ha (by decide)
    rw [h]; exact ne_cast _ 0
  have b2 : (bits BinOp.and IntKind.u32 (a : Int) 3 != 3) = c2 a := by
    have h : bits BinOp.and IntKind.u32 (a : Int) 3 = ((a &&& 3 : Nat) : Int) := u32_and_nat a 3 ha (by decide)
    rw [h]; exact ne_cast _ 3
  have b3 : (bits BinOp.and IntKind.u32 (a : Int) 36 != 36) = c3 a := by
    have h : bits BinOp.and IntKind.u32 (a : Int) 36 = ((a &&& 36 : Nat) : Int) := u32_and_nat a 36 ha (by decide)
    rw [h]; exact ne_cast _ 36
  have b4 : (bits BinOp.and IntKind.u32 (a : Int) 64 != 0) = c4 a := by
    have h : bits BinOp.and IntKind.u32 (a : Int) 64 = ((a &&& 64 : Nat) : Int) := u32_and_nat a 64 ha (by decide)
    rw [h]; exact ne_cast _ 0
  obtain ⟨rr, hrr⟩ : ∃ rr : Int, (if fitsB k a = true then (0 : Int) else 1) = rr := ⟨_, rfl⟩
  rw [hrr]
  have HRR := Lib.hid hrr
  clear hrr
  by_cases hk4 : 4 < k
  · have t0 : decide ((k : Int) > 4) = true := decide_eq_true (by omega)
    have FIN : Hid (fitsB k a = false) := fits_big k a hk4
    have n1 : ((k : Int) == 1) = false := beq_eq_false_iff_ne.2 (by omega)
    have n2 : ((k : Int) == 2) = false := beq_eq_false_iff_ne.2 (by omega)
    have n3 : ((k : Int) == 3) = false := beq_eq_false_iff_ne.2 (by omega)
    clear b1 b2 b3 b4 hk4
    go_enter Try.func21, Try.ntmps21
    go_wp2
    go_ret
    exact ⟨by rw [← HRR.out, FIN.out]; rfl, rfl⟩
  have t0 : decide ((k : Int) > 4) = false := decide_eq_false (by omega)
  obtain ⟨d1, hd1⟩ : ∃ d, c1 a = d := ⟨_, rfl⟩
  obtain ⟨d2, hd2⟩ : ∃ d, c2 a = d := ⟨_, rfl⟩
  obtain ⟨d3, hd3⟩ : ∃ d, c3 a = d := ⟨_, rfl⟩
  obtain ⟨d4, hd4⟩ : ∃ d, c4 a = d := ⟨_, rfl⟩
  have FB : Hid (fitsB k a = !(d1 || d2 || ((k == 1 || k == 2 || k == 3) && d3) || (k == 1 && d4))) := by
    unfold Hid fitsB; rw [decide_eq_false hk4, hd1, hd2, hd3, hd4]; rfl
  rw [hd1] at b1
  rw [hd2] at b2
  rw [hd3] at b3
  rw [hd4] at b4
  clear hd1 hd2 hd3 hd4
  rcases (show k = 0 ∨ k = 1 ∨ k = 2 ∨ k = 3 ∨ k = 4 by omega) with rfl | rfl | rfl | rfl | rfl
  · cases d1 <;> cases d2
    all_goals
      have FIN := FB
      simp only [Bool.true_or, Bool.false_or, Bool.or_true, Bool.or_false, Bool.and_true, Bool.and_false, Bool.not_true, Bool.not_false, Nat.reduceBEq, Bool.false_and, Bool.true_and] at FIN
      clear FB hk4 t0
      go_enter Try.func21, Try.ntmps21
      go_wp2
      go_ret
      exact ⟨by rw [← HRR.out, FIN.out]; rfl, rfl⟩
  · cases d1 <;> cases d2 <;> cases d3 <;> cases d4
    all_goals
      have FIN := FB
      simp only [Bool.true_or, Bool.false_or, Bool.or_true, Bool.or_false, Bool.and_true, Bool.and_false, Bool.not_true, Bool.not_false, Nat.reduceBEq, Bool.false_and, Bool.true_and] at FIN
      clear FB hk4 t0
      go_enter Try.func21, Try.ntmps21
      go_wp2
      go_ret
      exact ⟨by rw [← HRR.out, FIN.out]; rfl, rfl⟩
  · cases d1 <;> cases d2 <;> cases d3
    all_goals
      have FIN := FB
      simp only [Bool.true_or, Bool.false_or, Bool.or_true, Bool.or_false, Bool.and_true, Bool.and_false, Bool.not_true, Bool.not_false, Nat.reduceBEq, Bool.false_and, Bool.true_and] at FIN
      clear FB hk4 t0
      go_enter Try.func21, Try.ntmps21
      go_wp2
      go_ret
      exact ⟨by rw [← HRR.out, FIN.out]; rfl, rfl⟩
  · cases d1 <;> cases d2 <;> cases d3
    all_goals
      have FIN := FB
      simp only [Bool.true_or, Bool.false_or, Bool.or_true, Bool.or_false, Bool.and_true, Bool.and_false, Bool.not_true, Bool.not_false, Nat.reduceBEq, Bool.false_and, Bool.true_and] at FIN
      clear FB hk4 t0
      go_enter Try.func21, Try.ntmps21
      go_wp2
      go_ret
      exact ⟨by rw [← HRR.out, FIN.out]; rfl, rfl⟩
  · cases d1 <;> cases d2
    all_goals
      have FIN := FB
      simp only [Bool.true_or, Bool.false_or, Bool.or_true, Bool.or_false, Bool.and_true, Bool.and_false, Bool.not_true, Bool.not_false, Nat.reduceBEq, Bool.false_and, Bool.true_and] at FIN
      clear FB hk4 t0
      go_enter Try.func21, Try.ntmps21
      go_wp2
      go_ret
      exact ⟨by rw [← HRR.out, FIN.out]; rfl, rfl⟩
theorem lfits_any (k a : Nat) (hk : k < 256) (ha : a < 4294967296) (w : World) : Calls Try.prog 23 #[.int .u8 (k : Int), .int .u32 (a : Int)] w fun e w' => e = .returned (.bool (fitsB k a)) ∧ w' = w := by
  have FT := Lib.hid (fits_any k a hk ha)
  cases h : fitsB k a
  all_goals
    rw [h] at FT
    clear h
    go_enter Try.func23, Try.ntmps23
    go_wp2_with fail
    refine (FT.out _).mono ?_
    rintro e w2 ⟨rfl, hw2⟩
    subst w2
    go_wp2
    go_ret
    exact ⟨rfl, rfl⟩
set_option maxHeartbeats 32000000 in
theorem attrs_row (at_ : Int) (w : World) (ha : (Lit.int .u32 at_).wf = true) : Calls Try.prog 5 #[.int .u32 at_] w fun e w' => e = .returned (.bool true) ∧ Below w.heap.size w w' := by
  have b1 := bounds_u32 ha
  obtain ⟨a, rfl⟩ : ∃ q : Nat, at_ = (q : Int) := ⟨at_.toNat, by omega⟩
  have ha' : a < 4294967296 := by omega
  obtain ⟨f0, f4, f2, f3, f1⟩ := fits_plain a ha'
  have WK := Lib.hid works19_any
  have FB : Hid (∀ i : Nat, 5 ≤ i → i < 256 → ∀ W, Calls Try.prog 23 #[.int .u8 (i : Int), .int .u32 (a : Int)] W fun e w' => e = .returned (.bool false) ∧ w' = W) := fun i h5 h6 W => by
    have := lfits_any i a h6 ha' W
    rw [fits_big i a (by omega)] at this
    exact this
  have F0 : Hid (∀ W, Calls Try.prog 23 #[.int .u8 0, .int .u32 (a : Int)] W fun e w' => e = .returned (.bool (plainA a)) ∧ w' = W) := fun W => by rw [← f0]; exact lfits_any 0 a (by decide) ha' W
  have F4 : Hid (∀ W, Calls Try.prog 23 #[.int .u8 4, .int .u32 (a : Int)] W fun e w' => e = .returned (.bool (plainA a)) ∧ w' = W) := fun W => by rw [← f4]; exact lfits_any 4 a (by decide) ha' W
  have F2 : Hid (∀ W, Calls Try.prog 23 #[.int .u8 2, .int .u32 (a : Int)] W fun e w' => e = .returned (.bool (a == 39 || a == 103)) ∧ w' = W) := fun W => by rw [← f2]; exact lfits_any 2 a (by decide) ha' W
  have F3 : Hid (∀ W, Calls Try.prog 23 #[.int .u8 3, .int .u32 (a : Int)] W fun e w' => e = .returned (.bool (a == 39 || a == 103)) ∧ w' = W) := fun W => by rw [← f3]; exact lfits_any 3 a (by decide) ha' W
  have F1 : Hid (∀ W, Calls Try.prog 23 #[.int .u8 1, .int .u32 (a : Int)] W fun e w' => e = .returned (.bool (a == 39)) ∧ w' = W) := fun W => by rw [← f1]; exact lfits_any 1 a (by decide) ha' W
  clear f0 f1 f2 f3 f4 b1 ha
  rcases (show a = 3 ∨ a = 7 ∨ a = 35 ∨ a = 39 ∨ a = 67 ∨ a = 71 ∨ a = 99 ∨ a = 103 ∨ (a ≠ 3 ∧ a ≠ 7 ∧ a ≠ 35 ∧ a ≠ 39 ∧ a ≠ 67 ∧ a ≠ 71 ∧ a ≠ 99 ∧ a ≠ 103) by omega) with rfl | rfl | rfl | rfl | rfl | rfl | rfl | rfl | ⟨n3, n7, n35, n39, n67, n71, n99, n103⟩
  · have hc : ((3 : Nat) : Int) = 3 := rfl
    rw [hc] at F0 F1 F2 F3 F4 FB ⊢
    clear hc
    rw [show plainA 3 = true from rfl] at F0 F4
    rw [show ((3 : Nat) == 39 || (3 : Nat) == 103) = false from rfl] at F2 F3
    rw [show ((3 : Nat) == 39) = false from rfl] at F1
    go_enter Try.func5, Try.ntmps5
    go_wp2_with fail
    go_loopw [5] (fun v wl => ∃ i : Nat, v = .int .i64 (i : Int) ∧ 5 ≤ i ∧ i ≤ 256 ∧ Hid (wl = w)) (fun v _ => 256 - (intOf v).toNat)
    case atStart => exact ⟨5, rfl, Nat.le_refl _, by decide, rfl⟩
    case round =>
      obtain ⟨i, rfl, hi5, hi, HW⟩ := hrel
      by_cases hlt : i < 256
      · have i1 : (i : Int) < 256 := by omega
        have e8 : IntKind.u8.wrap (i : Int) = (i : Int) := by rw [IntKind.wrap_u8]; omega
        have e9 : IntKind.i64.wrap ((i : Int) + 1) = (i : Int) + 1 := IntWalk.i64_in _ (by omega)
        have LB := Lib.hid (FB.out i hi5 hlt wr)
        clear F0 F1 F2 F3 F4 WK
        go_wp2_with fail
        refine LB.out.mono ?_
        rintro e w2 ⟨rfl, hw2⟩
        subst w2
        go_wp2_with fail
        go_roundw
        case rel => exact ⟨i + 1, by go_num, by omega, by omega, HW⟩
        case measure => simp [intOf]; omega
      · have i1 : ¬ (i : Int) < 256 := by omega
        clear FB
        go_wp2_with fail
        refine (F0.out _).mono ?_
        rintro e w2 ⟨rfl, hw2⟩
        subst w2
        go_wp2_with fail
        refine (F4.out _).mono ?_
        rintro e w2 ⟨rfl, hw2⟩
        subst w2
        go_wp2_with fail
        refine (F2.out _).mono ?_
        rintro e w2 ⟨rfl, hw2⟩
        subst w2
        go_wp2_with fail
        refine (F3.out _).mono ?_
        rintro e w2 ⟨rfl, hw2⟩
        subst w2
        go_wp2_with fail
        refine (F1.out _).mono ?_
        rintro e w2 ⟨rfl, hw2⟩
        subst w2
        go_wp2_with fail
        refine (WK.out _).mono ?_
        rintro e w3 ⟨rfl, hb3⟩
        have HB3 : Hid (Below w.heap.size w w3) := by rw [← HW.out]; exact Lib.hid hb3
        clear hb3
        go_wp2
        go_ret
        exact ⟨rfl, HB3.out⟩
  · have hc : ((7 : Nat) : Int) = 7 := rfl
    rw [hc] at F0 F1 F2 F3 F4 FB ⊢
    clear hc
    rw [show plainA 7 = true from rfl] at F0 F4
    rw [show ((7 : Nat) == 39 || (7 : Nat) == 103) = false from rfl] at F2 F3
    rw [show ((7 : Nat) == 39) = false from rfl] at F1
    go_enter Try.func5, Try.ntmps5
    go_wp2_with fail
    go_loopw [5] (fun v wl => ∃ i : Nat, v = .int .i64 (i : Int) ∧ 5 ≤ i ∧ i ≤ 256 ∧ Hid (wl = w)) (fun v _ => 256 - (intOf v).toNat)
    case atStart => exact ⟨5, rfl, Nat.le_refl _, by decide, rfl⟩
    case round =>
      obtain ⟨i, rfl, hi5, hi, HW⟩ := hrel
      by_cases hlt : i < 256
      · have i1 : (i : Int) < 256 := by omega
        have e8 : IntKind.u8.wrap (i : Int) = (i : Int) := by rw [IntKind.wrap_u8]; omega
        have e9 : IntKind.i64.wrap ((i : Int) + 1) = (i : Int) + 1 := IntWalk.i64_in _ (by omega)
        have LB := Lib.hid (FB.out i hi5 hlt wr)
        clear F0 F1 F2 F3 F4 WK
        go_wp2_with fail
        refine LB.out.mono ?_
        rintro e w2 ⟨rfl, hw2⟩
        subst w2
        go_wp2_with fail
        go_roundw
        case rel => exact ⟨i + 1, by go_num, by omega, by omega, HW⟩
        case measure => simp [intOf]; omega
      · have i1 : ¬ (i : Int) < 256 := by omega
        clear FB
        go_wp2_with fail
        refine (F0.out _).mono ?_
        rintro e w2 ⟨rfl, hw2⟩
        subst w2
        go_wp2_with fail
        refine (F4.out _).mono ?_
        rintro e w2 ⟨rfl, hw2⟩
        subst w2
        go_wp2_with fail
        refine (F2.out _).mono ?_
        rintro e w2 ⟨rfl, hw2⟩
        subst w2
        go_wp2_with fail
        refine (F3.out _).mono ?_
        rintro e w2 ⟨rfl, hw2⟩
        subst w2
        go_wp2_with fail
        refine (F1.out _).mono ?_
        rintro e w2 ⟨rfl, hw2⟩
        subst w2
        go_wp2_with fail
        refine (WK.out _).mono ?_
        rintro e w3 ⟨rfl, hb3⟩
        have HB3 : Hid (Below w.heap.size w w3) := by rw [← HW.out]; exact Lib.hid hb3
        clear hb3
        go_wp2
        go_ret
        exact ⟨rfl, HB3.out⟩
  · have hc : ((35 : Nat) : Int) = 35 := rfl
    rw [hc] at F0 F1 F2 F3 F4 FB ⊢
    clear hc
    rw [show plainA 35 = true from rfl] at F0 F4
    rw [show ((35 : Nat) == 39 || (35 : Nat) == 103) = false from rfl] at F2 F3
    rw [show ((35 : Nat) == 39) = false from rfl] at F1
    go_enter Try.func5, Try.ntmps5
    go_wp2_with fail
    go_loopw [5] (fun v wl => ∃ i : Nat, v = .int .i64 (i : Int) ∧ 5 ≤ i ∧ i ≤ 256 ∧ Hid (wl = w)) (fun v _ => 256 - (intOf v).toNat)
    case atStart => exact ⟨5, rfl, Nat.le_refl _, by decide, rfl⟩
    case round =>
      obtain ⟨i, rfl, hi5, hi, HW⟩ := hrel
      by_cases hlt : i < 256
      · have i1 : (i : Int) < 256 := by omega
        have e8 : IntKind.u8.wrap (i : Int) = (i : Int) := by rw [IntKind.wrap_u8]; omega
        have e9 : IntKind.i64.wrap ((i : Int) + 1) = (i : Int) + 1 := IntWalk.i64_in _ (by omega)
        have LB := Lib.hid (FB.out i hi5 hlt wr)
        clear F0 F1 F2 F3 F4 WK
        go_wp2_with fail
        refine LB.out.mono ?_
        rintro e w2 ⟨rfl, hw2⟩
        subst w2
        go_wp2_with fail
        go_roundw
        case rel => exact ⟨i + 1, by go_num, by omega, by omega, HW⟩
        case measure => simp [intOf]; omega
      · have i1 : ¬ (i : Int) < 256 := by omega
        clear FB
        go_wp2_with fail
        refine (F0.out _).mono ?_
        rintro e w2 ⟨rfl, hw2⟩
        subst w2
        go_wp2_with fail
        refine (F4.out _).mono ?_
        rintro e w2 ⟨rfl, hw2⟩
        subst w2
        go_wp2_with fail
        refine (F2.out _).mono ?_
        rintro e w2 ⟨rfl, hw2⟩
        subst w2
        go_wp2_with fail
        refine (F3.out _).mono ?_
        rintro e w2 ⟨rfl, hw2⟩
        subst w2
        go_wp2_with fail
        refine (F1.out _).mono ?_
        rintro e w2 ⟨rfl, hw2⟩
        subst w2
        go_wp2_with fail
        refine (WK.out _).mono ?_
        rintro e w3 ⟨rfl, hb3⟩
        have HB3 : Hid (Below w.heap.size w w3) := by rw [← HW.out]; exact Lib.hid hb3
        clear hb3
        go_wp2
        go_ret
        exact ⟨rfl, HB3.out⟩
  · have hc : ((39 : Nat) : Int) = 39 := rfl
    rw [hc] at F0 F1 F2 F3 F4 FB ⊢
    clear hc
    rw [show plainA 39 = true from rfl] at F0 F4
    rw [show ((39 : Nat) == 39 || (39 : Nat) == 103) = true from rfl] at F2 F3
    rw [show ((39 : Nat) == 39) = true from rfl] at F1
    go_enter Try.func5, Try.ntmps5
    go_wp2_with fail
    go_loopw [5] (fun v wl => ∃ i : Nat, v = .int .i64 (i : Int) ∧ 5 ≤ i ∧ i ≤ 256 ∧ Hid (wl = w)) (fun v _ => 256 - (intOf v).toNat)
    case atStart => exact ⟨5, rfl, Nat.le_refl _, by decide, rfl⟩
    case round =>
      obtain ⟨i, rfl, hi5, hi, HW⟩ := hrel
      by_cases hlt : i < 256
      · have i1 : (i : Int) < 256 := by omega
        have e8 : IntKind.u8.wrap (i : Int) = (i : Int) := by rw [IntKind.wrap_u8]; omega
        have e9 : IntKind.i64.wrap ((i : Int) + 1) = (i : Int) + 1 := IntWalk.i64_in _ (by omega)
        have LB := Lib.hid (FB.out i hi5 hlt wr)
        clear F0 F1 F2 F3 F4 WK
        go_wp2_with fail
        refine LB.out.mono ?_
        rintro e w2 ⟨rfl, hw2⟩
        subst w2
        go_wp2_with fail
        go_roundw
        case rel => exact ⟨i + 1, by go_num, by omega, by omega, HW⟩
        case measure => simp [intOf]; omega
      · have i1 : ¬ (i : Int) < 256 := by omega
        clear FB
        go_wp2_with fail
        refine (F0.out _).mono ?_
        rintro e w2 ⟨rfl, hw2⟩
        subst w2
        go_wp2_with fail
        refine (F4.out _).mono ?_
        rintro e w2 ⟨rfl, hw2⟩
        subst w2
        go_wp2_with fail
        refine (F2.out _).mono ?_
        rintro e w2 ⟨rfl, hw2⟩
        subst w2
        go_wp2_with fail
        refine (F3.out _).mono ?_
        rintro e w2 ⟨rfl, hw2⟩
        subst w2
        go_wp2_with fail
        refine (F1.out _).mono ?_
        rintro e w2 ⟨rfl, hw2⟩
        subst w2
        go_wp2_with fail
        refine (WK.out _).mono ?_
        rintro e w3 ⟨rfl, hb3⟩
        have HB3 : Hid (Below w.heap.size w w3) := by rw [← HW.out]; exact Lib.hid hb3
        clear hb3
        go_wp2
        go_ret
        exact ⟨rfl, HB3.out⟩
  · have hc : ((67 : Nat) : Int) = 67 := rfl
    rw [hc] at F0 F1 F2 F3 F4 FB ⊢
    clear hc
    rw [show plainA 67 = true from rfl] at F0 F4
    rw [show ((67 : Nat) == 39 || (67 : Nat) == 103) = false from rfl] at F2 F3
    rw [show ((67 : Nat) == 39) = false from rfl] at F1
    go_enter Try.func5, Try.ntmps5
    go_wp2_with fail
    go_loopw [5] (fun v wl => ∃ i : Nat, v = .int .i64 (i : Int) ∧ 5 ≤ i ∧ i ≤ 256 ∧ Hid (wl = w)) (fun v _ => 256 - (intOf v).toNat)
    case atStart => exact ⟨5, rfl, Nat.le_refl _, by decide, rfl⟩
    case round =>
      obtain ⟨i, rfl, hi5, hi, HW⟩ := hrel
      by_cases hlt : i < 256
      · have i1 : (i : Int) < 256 := by omega
        have e8 : IntKind.u8.wrap (i : Int) = (i : Int) := by rw [IntKind.wrap_u8]; omega
        have e9 : IntKind.i64.wrap ((i : Int) + 1) = (i : Int) + 1 := IntWalk.i64_in _ (by omega)
        have LB := Lib.hid (FB.out i hi5 hlt wr)
        clear F0 F1 F2 F3 F4 WK
        go_wp2_with fail
        refine LB.out.mono ?_
        rintro e w2 ⟨rfl, hw2⟩
        subst w2
        go_wp2_with fail
        go_roundw
        case rel => exact ⟨i + 1, by go_num, by omega, by omega, HW⟩
        case measure => simp [intOf]; omega
      · have i1 : ¬ (i : Int) < 256 := by omega
        clear FB
        go_wp2_with fail
        refine (F0.out _).mono ?_
        rintro e w2 ⟨rfl, hw2⟩
        subst w2
        go_wp2_with fail
        refine (F4.out _).mono ?_
        rintro e w2 ⟨rfl, hw2⟩
        subst w2
        go_wp2_with fail
        refine (F2.out _).mono ?_
        rintro e w2 ⟨rfl, hw2⟩
        subst w2
        go_wp2_with fail
        refine (F3.out _).mono ?_
        rintro e w2 ⟨rfl, hw2⟩
        subst w2
        go_wp2_with fail
        refine (F1.out _).mono ?_
        rintro e w2 ⟨rfl, hw2⟩
        subst w2
        go_wp2_with fail
        refine (WK.out _).mono ?_
        rintro e w3 ⟨rfl, hb3⟩
        have HB3 : Hid (Below w.heap.size w w3) := by rw [← HW.out]; exact Lib.hid hb3
        clear hb3
        go_wp2
        go_ret
        exact ⟨rfl, HB3.out⟩
  · have hc : ((71 : Nat) : Int) = 71 := rfl
    rw [hc] at F0 F1 F2 F3 F4 FB ⊢
    clear hc
    rw [show plainA 71 = true from rfl] at F0 F4
    rw [show ((71 : Nat) == 39 || (71 : Nat) == 103) = false from rfl] at F2 F3
    rw [show ((71 : Nat) == 39) = false from rfl] at F1
    go_enter Try.func5, Try.ntmps5
    go_wp2_with fail
    go_loopw [5] (fun v wl => ∃ i : Nat, v = .int .i64 (i : Int) ∧ 5 ≤ i ∧ i ≤ 256 ∧ Hid (wl = w)) (fun v _ => 256 - (intOf v).toNat)
    case atStart => exact ⟨5, rfl, Nat.le_refl _, by decide, rfl⟩
    case round =>
      obtain ⟨i, rfl, hi5, hi, HW⟩ := hrel
      by_cases hlt : i < 256
      · have i1 : (i : Int) < 256 := by omega
        have e8 : IntKind.u8.wrap (i : Int) = (i : Int) := by rw [IntKind.wrap_u8]; omega
        have e9 : IntKind.i64.wrap ((i : Int) + 1) = (i : Int) + 1 := IntWalk.i64_in _ (by omega)
        have LB := Lib.hid (FB.out i hi5 hlt wr)
        clear F0 F1 F2 F3 F4 WK
        go_wp2_with fail
        refine LB.out.mono ?_
        rintro e w2 ⟨rfl, hw2⟩
        subst w2
        go_wp2_with fail
        go_roundw
        case rel => exact ⟨i + 1, by go_num, by omega, by omega, HW⟩
        case measure => simp [intOf]; omega
      · have i1 : ¬ (i : Int) < 256 := by omega
        clear FB
        go_wp2_with fail
        refine (F0.out _).mono ?_
        rintro e w2 ⟨rfl, hw2⟩
        subst w2
        go_wp2_with fail
        refine (F4.out _).mono ?_
        rintro e w2 ⟨rfl, hw2⟩
        subst w2
        go_wp2_with fail
        refine (F2.out _).mono ?_
        rintro e w2 ⟨rfl, hw2⟩
        subst w2
        go_wp2_with fail
        refine (F3.out _).mono ?_
        rintro e w2 ⟨rfl, hw2⟩
        subst w2
        go_wp2_with fail
        refine (F1.out _).mono ?_
        rintro e w2 ⟨rfl, hw2⟩
        subst w2
        go_wp2_with fail
        refine (WK.out _).mono ?_
        rintro e w3 ⟨rfl, hb3⟩
        have HB3 : Hid (Below w.heap.size w w3) := by rw [← HW.out]; exact Lib.hid hb3
        clear hb3
        go_wp2
        go_ret
        exact ⟨rfl, HB3.out⟩
  · have hc : ((99 : Nat) : Int) = 99 := rfl
    rw [hc] at F0 F1 F2 F3 F4 FB ⊢
    clear hc
    rw [show plainA 99 = true from rfl] at F0 F4
    rw [show ((99 : Nat) == 39 || (99 : Nat) == 103) = false from rfl] at F2 F3
    rw [show ((99 : Nat) == 39) = false from rfl] at F1
    go_enter Try.func5, Try.ntmps5
    go_wp2_with fail
    go_loopw [5] (fun v wl => ∃ i : Nat, v = .int .i64 (i : Int) ∧ 5 ≤ i ∧ i ≤ 256 ∧ Hid (wl = w)) (fun v _ => 256 - (intOf v).toNat)
    case atStart => exact ⟨5, rfl, Nat.le_refl _, by decide, rfl⟩
    case round =>
      obtain ⟨i, rfl, hi5, hi, HW⟩ := hrel
      by_cases hlt : i < 256
      · have i1 : (i : Int) < 256 := by omega
        have e8 : IntKind.u8.wrap (i : Int) = (i : Int) := by rw [IntKind.wrap_u8]; omega
        have e9 : IntKind.i64.wrap ((i : Int) + 1) = (i : Int) + 1 := IntWalk.i64_in _ (by omega)
        have LB := Lib.hid (FB.out i hi5 hlt wr)
        clear F0 F1 F2 F3 F4 WK
        go_wp2_with fail
        refine LB.out.mono ?_
        rintro e w2 ⟨rfl, hw2⟩
        subst w2
        go_wp2_with fail
        go_roundw
        case rel => exact ⟨i + 1, by go_num, by omega, by omega, HW⟩
        case measure => simp [intOf]; omega
      · have i1 : ¬ (i : Int) < 256 := by omega
        clear FB
        go_wp2_with fail
        refine (F0.out _).mono ?_
        rintro e w2 ⟨rfl, hw2⟩
        subst w2
        go_wp2_with fail
        refine (F4.out _).mono ?_
        rintro e w2 ⟨rfl, hw2⟩
        subst w2
        go_wp2_with fail
        refine (F2.out _).mono ?_
        rintro e w2 ⟨rfl, hw2⟩
        subst w2
        go_wp2_with fail
        refine (F3.out _).mono ?_
        rintro e w2 ⟨rfl, hw2⟩
        subst w2
        go_wp2_with fail
        refine (F1.out _).mono ?_
        rintro e w2 ⟨rfl, hw2⟩
        subst w2
        go_wp2_with fail
        refine (WK.out _).mono ?_
        rintro e w3 ⟨rfl, hb3⟩
        have HB3 : Hid (Below w.heap.size w w3) := by rw [← HW.out]; exact Lib.hid hb3
        clear hb3
        go_wp2
        go_ret
        exact ⟨rfl, HB3.out⟩
  · have hc : ((103 : Nat) : Int) = 103 := rfl
    rw [hc] at F0 F1 F2 F3 F4 FB ⊢
    clear hc
    rw [show plainA 103 = true from rfl] at F0 F4
    rw [show ((103 : Nat) == 39 || (103 : Nat) == 103) = true from rfl] at F2 F3
    rw [show ((103 : Nat) == 39) = false from rfl] at F1
    go_enter Try.func5, Try.ntmps5
    go_wp2_with fail
    go_loopw [5] (fun v wl => ∃ i : Nat, v = .int .i64 (i : Int) ∧ 5 ≤ i ∧ i ≤ 256 ∧ Hid (wl = w)) (fun v _ => 256 - (intOf v).toNat)
    case atStart => exact ⟨5, rfl, Nat.le_refl _, by decide, rfl⟩
    case round =>
      obtain ⟨i, rfl, hi5, hi, HW⟩ := hrel
      by_cases hlt : i < 256
      · have i1 : (i : Int) < 256 := by omega
        have e8 : IntKind.u8.wrap (i : Int) = (i : Int) := by rw [IntKind.wrap_u8]; omega
        have e9 : IntKind.i64.wrap ((i : Int) + 1) = (i : Int) + 1 := IntWalk.i64_in _ (by omega)
        have LB := Lib.hid (FB.out i hi5 hlt wr)
        clear F0 F1 F2 F3 F4 WK
        go_wp2_with fail
        refine LB.out.mono ?_
        rintro e w2 ⟨rfl, hw2⟩
        subst w2
        go_wp2_with fail
        go_roundw
        case rel => exact ⟨i + 1, by go_num, by omega, by omega, HW⟩
        case measure => simp [intOf]; omega
      · have i1 : ¬ (i : Int) < 256 := by omega
        clear FB
        go_wp2_with fail
        refine (F0.out _).mono ?_
        rintro e w2 ⟨rfl, hw2⟩
        subst w2
        go_wp2_with fail
        refine (F4.out _).mono ?_
        rintro e w2 ⟨rfl, hw2⟩
        subst w2
        go_wp2_with fail
        refine (F2.out _).mono ?_
        rintro e w2 ⟨rfl, hw2⟩
        subst w2
        go_wp2_with fail
        refine (F3.out _).mono ?_
        rintro e w2 ⟨rfl, hw2⟩
        subst w2
        go_wp2_with fail
        refine (F1.out _).mono ?_
        rintro e w2 ⟨rfl, hw2⟩
        subst w2
        go_wp2_with fail
        refine (WK.out _).mono ?_
        rintro e w3 ⟨rfl, hb3⟩
        have HB3 : Hid (Below w.heap.size w w3) := by rw [← HW.out]; exact Lib.hid hb3
        clear hb3
        go_wp2
        go_ret
        exact ⟨rfl, HB3.out⟩
  · have m3 : ((a : Int) == 3) = false := beq_eq_false_iff_ne.2 (by omega)
    have q3 : (a == 3) = false := beq_eq_false_iff_ne.2 n3
    have m7 : ((a : Int) == 7) = false := beq_eq_false_iff_ne.2 (by omega)
    have q7 : (a == 7) = false := beq_eq_false_iff_ne.2 n7
    have m35 : ((a : Int) == 35) = false := beq_eq_false_iff_ne.2 (by omega)
    have q35 : (a == 35) = false := beq_eq_false_iff_ne.2 n35
    have m39 : ((a : Int) == 39) = false := beq_eq_false_iff_ne.2 (by omega)
    have q39 : (a == 39) = false := beq_eq_false_iff_ne.2 n39
    have m67 : ((a : Int) == 67) = false := beq_eq_false_iff_ne.2 (by omega)
    have q67 : (a == 67) = false := beq_eq_false_iff_ne.2 n67
    have m71 : ((a : Int) == 71) = false := beq_eq_false_iff_ne.2 (by omega)
    have q71 : (a == 71) = false := beq_eq_false_iff_ne.2 n71
    have m99 : ((a : Int) == 99) = false := beq_eq_false_iff_ne.2 (by omega)
    have q99 : (a == 99) = false := beq_eq_false_iff_ne.2 n99
    have m103 : ((a : Int) == 103) = false := beq_eq_false_iff_ne.2 (by omega)
    have q103 : (a == 103) = false := beq_eq_false_iff_ne.2 n103
    have hp : plainA a = false := by unfold plainA; rw [q3, q7, q35, q39, q67, q71, q99, q103]; rfl
    rw [hp] at F0 F4
    rw [q39, q103, Bool.or_false] at F2 F3
    rw [q39] at F1
    clear hp q3 n3 q7 n7 q35 n35 q39 n39 q67 n67 q71 n71 q99 n99 q103 n103
    go_enter Try.func5, Try.ntmps5
    go_wp2_with fail
    go_loopw [5] (fun v wl => ∃ i : Nat, v = .int .i64 (i : Int) ∧ 5 ≤ i ∧ i ≤ 256 ∧ Hid (wl = w)) (fun v _ => 256 - (intOf v).toNat)
    case atStart => exact ⟨5, rfl, Nat.le_refl _, by decide, rfl⟩
    case round =>
      obtain ⟨i, rfl, hi5, hi, HW⟩ := hrel
      by_cases hlt : i < 256
      · have i1 : (i : Int) < 256 := by omega
        have e8 : IntKind.u8.wrap (i : Int) = (i : Int) := by rw [IntKind.wrap_u8]; omega
        have e9 : IntKind.i64.wrap ((i : Int) + 1) = (i : Int) + 1 := IntWalk.i64_in _ (by omega)
        have LB := Lib.hid (FB.out i hi5 hlt wr)
        clear F0 F1 F2 F3 F4 WK
        go_wp2_with fail
        refine LB.out.mono ?_
        rintro e w2 ⟨rfl, hw2⟩
        subst w2
        go_wp2_with fail
        go_roundw
        case rel => exact ⟨i + 1, by go_num, by omega, by omega, HW⟩
        case measure => simp [intOf]; omega
      · have i1 : ¬ (i : Int) < 256 := by omega
        clear FB
        go_wp2_with fail
        refine (F0.out _).mono ?_
        rintro e w2 ⟨rfl, hw2⟩
        subst w2
        go_wp2_with fail
        refine (F4.out _).mono ?_
        rintro e w2 ⟨rfl, hw2⟩
        subst w2
        go_wp2_with fail
        refine (F2.out _).mono ?_
        rintro e w2 ⟨rfl, hw2⟩
        subst w2
        go_wp2_with fail
        refine (F3.out _).mono ?_
        rintro e w2 ⟨rfl, hw2⟩
        subst w2
        go_wp2_with fail
        refine (F1.out _).mono ?_
        rintro e w2 ⟨rfl, hw2⟩
        subst w2
        go_wp2_with fail
        refine (WK.out _).mono ?_
        rintro e w3 ⟨rfl, hb3⟩
        have HB3 : Hid (Below w.heap.size w w3) := by rw [← HW.out]; exact Lib.hid hb3
        clear hb3
        go_wp2
        go_ret
        exact ⟨rfl, HB3.out⟩
end Go.Proofs.Ytjcbmgpmlekamaa
