/-
  mont: the document's own: May, below, mul, Mul, Exp.
-/
import Derived.Test.YtbplchpbaonadaaDoorMl
import Derived.Test.YtbplchpbaonadaaDoorOh
namespace Go.Proofs.YtbplchpbaonadaaDoor
open Go.RowKit Go
set_option linter.unusedVariables false
set_option linter.unusedSimpArgs false
set_option maxRecDepth 100000
theorem may_one {ms : List Nat} (lm : Lim ms) (hr : rightB ms = true) (h0 : 0 < ms.length) : (1 < ms.length ∨ 3 ≤ ms.getD 0 0) ↔ 3 ≤ val ms := by
  obtain ⟨r1, r2⟩ := (rightB_iff ms).1 hr
  constructor
  · rintro (h | h)
    · have h1 := tip_pos ms r2 (by rintro rfl; simp at h0)
      have h2 := Nat.pow_le_pow_right (show 0 < 4294967296 by decide) (show 1 ≤ ms.length - 1 by omega)
      omega
    · have hd := val_digit ms lm 0
      rw [Nat.pow_zero, Nat.div_one] at hd
      have := Nat.mod_le (val ms) 4294967296
      omega
  · intro h
    by_cases h1 : 1 < ms.length
    · exact .inl h1
    · right
      have hd := val_digit ms lm 0
      rw [Nat.pow_zero, Nat.div_one] at hd
      have h2 := val_lt ms lm
      rw [show ms.length = 1 by omega, Nat.pow_one] at h2
      omega
set_option maxHeartbeats 2000000 in
theorem dbelow_any (A B : Option Addr) (n c k d : Nat) (x ms : List Nat) (w : World) (hA : RU w A n x) (hB : RU w B k ms) (hn : n ≤ 300) (hk : k ≤ 300) (hc : n ≤ c ∧ c ≤ 9223372036854775807) (hd : k ≤ d ∧ d ≤ 9223372036854775807) (hm : rightB ms = true) (hl : limbsN (val ms) ≤ 256) :
    Calls Tryd.prog 52 #[.slice A n c, .slice B k d] w fun e w' => e = .returned (.bool (underB x (val ms))) ∧ Below w.heap.size w w' := by
  have R := dright_any A n c x w hA (by omega)
  cases hr : rightB x with
  | false =>
    have hu : underB x (val ms) = false := by unfold underB; rw [hr]; rfl
    rw [hr] at R
    rw [hu]
    have R := Lib.hid R
    clear hr hu hA hB hm hl
    go_enter Tryd.func52, Tryd.ntmps52
    go_wp2_with fail
    refine R.out.mono ?_
    rintro e w' ⟨rfl, rfl⟩
    clear R
    go_wp2
    go_ret
    exact ⟨rfl, Below.refl _ _⟩
  | true =>
    rw [hr] at R
    have CM := dCmp_any A B n c k d x ms w hA hB hn hk hc hd
    have hu := cmp_under x (val ms) hl hr
    rw [right_num hB.lim hm] at hu
    obtain ⟨z, hz⟩ : ∃ z, cmpZ x ms = z := ⟨_, rfl⟩
    rw [hz] at CM hu
    obtain ⟨b, hb⟩ : ∃ b, underB x (val ms) = b := ⟨_, rfl⟩
    rw [hb] at hu ⊢
    have R := Lib.hid R
    have CM := Lib.hid CM
    clear hr hA hB hm hl hz hb
    go_enter Tryd.func52, Tryd.ntmps52
    go_wp2_with fail
    refine R.out.mono ?_
    rintro e w' ⟨rfl, rfl⟩
    clear R
    go_wp2_with fail
    refine CM.out.mono ?_
    rintro e w' ⟨rfl, hbl⟩
    have HB := Lib.hid hbl
    clear CM hbl
    go_wp2
    go_ret
    exact ⟨rfl, HB.out⟩
set_option maxHeartbeats 4000000 in
/-- The rest of a product of numbers below the modulus. -/
theorem dmulm_any (A B C : Option Addr) (n c k d p q : Nat) (x y ms : List Nat) (w : World) (hA : RU w A n x) (hB : RU w B k y) (hC : RU w C p ms) (hn : n ≤ 300) (hk : k ≤ 300) (hp : p ≤ 300) (hc : n ≤ c ∧ c ≤ 9223372036854775807) (hd : k ≤ d ∧ d ≤ 9223372036854775807)
    (hx : rightB x = true) (hy : rightB y = true) (hm : rightB ms = true) (hm0 : 0 < p) (hf : val x * val y < 4294967296 ^ 256) :
    Calls Tryd.prog 55 #[.slice A n c, .slice B k d, .slice C p q] w (BriefPost w 1000 (val x * val y % val ms)) := by
  have MU := dMul_any A B n c k d x y w hA hB hn hk hc hd
  have hq : mulQ x y = (num (val x * val y), 0) := by unfold mulQ; rw [hx, hy]; unfold fitQ; rw [if_pos hf]; rfl
  rw [hq] at MU
  have HC := Lib.hid hC
  have HL : Hid ((num (val x * val y)).length ≤ 256) := (num_len _ _).2 hf
  have hdq : divQ (num (val x * val y)) ms = ((num (val x * val y / val ms), num (val x * val y % val ms)), 0) := by
    unfold divQ
    rw [num_right, decide_eq_true hf, hm, val_num, show (ms.length == 0) = false by rw [hC.len, beq_eq_false_iff_ne]; omega]
    rfl
  have HD := Lib.hid hdq
  have MU := Lib.hid MU
  clear hA hB hC hx hy hm hf hq hdq
  go_enter Tryd.func55, Tryd.ntmps55
  go_wp2_with fail
  refine MU.out.mono ?_
  rintro e w1 ⟨A1, k1, d1, rfl, s1, l1, m1, p1, hb⟩
  have DV := dDiv_any A1 C k1 d1 p q (num (val x * val y)) ms w1 s1 (HC.out.below hb) (by omega) hp
  rw [HD.out] at DV
  have DV := Lib.hid DV
  have HB := Lib.hid hb
  clear MU s1 hb
  go_wp2_with fail
  refine DV.out.mono ?_
  rintro e w2 ⟨A2, k2, d2, A3, k3, d3, rfl, s2, l2, m2, p2, s3, l3, m3, p3, hb⟩
  have HF : Hid (RU w2 A3 k3 (num (val x * val y % val ms)) ∧ Below w.heap.size w w2) := ⟨s3, kp_call HB.out hb⟩
  clear DV s2 s3 hb
  go_wp2
  go_ret
  exact ⟨A3, k3, d3, rfl, HF.out.1, p3, l3, m3, HF.out.2⟩
/-- A rest that is told, and an error. -/
def RestD (w : World) (r : List Nat × Nat) (e : Ending) (w' : World) : Prop :=
  ∃ A n c, e = .returned (.tuple #[.slice A n c, .int .i64 (r.2 : Int)]) ∧ RU w' A n r.1 ∧ n ≤ c ∧ c ≤ 9223372036854775807 ∧ n ≤ 1000 ∧ Below w.heap.size w w'
theorem under_sq {x y m : Nat} (hx : x < m) (hy : y < m) (hl : limbsN m ≤ 128) : x * y < 4294967296 ^ 256 := by
  have h1 : m < 4294967296 ^ 128 := Nat.lt_of_lt_of_le (lt_limbs m) (Nat.pow_le_pow_right (by decide) hl)
  rw [show (256 : Nat) = 128 + 128 by decide, Nat.pow_add]
  exact Nat.mul_lt_mul'' (Nat.lt_trans hx h1) (Nat.lt_trans hy h1)
end Go.Proofs.YtbplchpbaonadaaDoor
