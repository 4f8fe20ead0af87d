/-
  sha: the search for roots.
-/
import Derived.Test.YtmbkbehccmadfaaShA
import Derived.Test.YtmbkbehccmadfaaSg
namespace Go.Proofs.Ytmbkbehccmadfaa
open Go.RowKit Go
set_option linter.unusedVariables false
set_option linter.unusedSimpArgs false
set_option maxRecDepth 100000
/-- The greatest number below 2^35 that fits, from bit i down. -/
def srch (f : Nat → Bool) : Nat → Nat → Nat
  | 0, x => x
  | i + 1, x => srch f i (if f (x + 2 ^ i) then x + 2 ^ i else x)
theorem or_bit (x i : Nat) (h : x % 2 ^ (i + 1) = 0) (hx : x < 34359738368) (hi : i < 35) : bits .or .u64 (x : Int) ((2 ^ i : Nat) : Int) = ((x + 2 ^ i : Nat) : Int) := by
  have hp : 2 ^ i < 18446744073709551616 := Nat.lt_of_lt_of_le (Nat.pow_lt_pow_right (by decide) (show i < 64 by omega)) (by decide)
  rw [u64_or_nat _ _ (by omega) hp]
  have hm : x % 2 ^ (i + 1) = 0 := h
  have : x ||| 2 ^ i = x + 2 ^ i := by
    have e : x = 2 ^ (i + 1) * (x / 2 ^ (i + 1)) := by have := Nat.div_add_mod x (2 ^ (i + 1)); omega
    have h1 := Nat.two_pow_add_eq_or_of_lt (i := i + 1) (b := 2 ^ i) (Nat.pow_lt_pow_right (by decide) (Nat.lt_succ_self i)) (x / 2 ^ (i + 1))
    rw [← e] at h1
    exact h1.symm
  rw [this]
/-- A function that says whether a number fits, called in a world in which it reads only. -/
def FitsIn (F : FuncId) (caps : Array Value) (f : Nat → Bool) (w : World) : Prop := ∀ x : Nat, x < 34359738368 → Calls Try.prog F (#[.int .u64 (x : Int)] ++ caps) w fun e w' => e = .returned (.bool (f x)) ∧ w = w'
theorem bit_room (x j : Nat) (h : x % 2 ^ (j + 1) = 0) (hx : x < 34359738368) (hj : j < 35) : x + 2 ^ j < 34359738368 := by
  have e : x = 2 ^ (j + 1) * (x / 2 ^ (j + 1)) := by have := Nat.div_add_mod x (2 ^ (j + 1)); omega
  have e2 : 34359738368 = 2 ^ (j + 1) * 2 ^ (34 - j) := by rw [← Nat.pow_add, show j + 1 + (34 - j) = 35 by omega]
  have h1 : x / 2 ^ (j + 1) < 2 ^ (34 - j) := by
    rw [Nat.div_lt_iff_lt_mul (Nat.two_pow_pos _), Nat.mul_comm, ← e2]; exact hx
  have h2 : 2 ^ (j + 1) * (x / 2 ^ (j + 1) + 1) ≤ 2 ^ (j + 1) * 2 ^ (34 - j) := Nat.mul_le_mul_left _ h1
  rw [← e2, Nat.mul_add, ← e, Nat.mul_one] at h2
  have h3 : 2 ^ (j + 1) = 2 * 2 ^ j := by rw [Nat.pow_succ, Nat.mul_comm]
  have h4 := Nat.two_pow_pos j
  omega
theorem bit_next (x j : Nat) (h : x % 2 ^ (j + 1) = 0) : x % 2 ^ j = 0 ∧ (x + 2 ^ j) % 2 ^ j = 0 := by
  have e : x = 2 ^ (j + 1) * (x / 2 ^ (j + 1)) := by have := Nat.div_add_mod x (2 ^ (j + 1)); omega
  have h1 : x % 2 ^ j = 0 := by rw [e, Nat.pow_succ, Nat.mul_assoc, Nat.mul_mod_right]
  exact ⟨h1, by rw [Nat.add_mod_right]; exact h1⟩
theorem search_sq (p : Addr) (f : Nat → Bool) (w : World) (hf : FitsIn 42 #[.pointer (some p)] f w) :
    Calls Try.prog 41 #[.func (Fn.func 42) #[] #[.pointer (some p)]] w fun e w' => e = .returned (.int .u64 (srch f 35 0 : Nat)) ∧ w = w' := by
  have HF := Lib.hid hf
  clear hf
  go_enter Try.func41, Try.ntmps41
  go_wp2
  go_loop [3, 4] (fun vx vi => ∃ x i : Nat, vx = .int .u64 (x : Int) ∧ vi = .int .i64 ((i : Int) - 1) ∧ i ≤ 35 ∧ x < 34359738368 ∧ Hid (x % 2 ^ i = 0 ∧ srch f i x = srch f 35 0)) (fun _ vi => (intOf vi + 1).toNat)
  case atStart => exact ⟨0, 35, rfl, by go_num, Nat.le_refl _, by decide, Nat.zero_mod _, rfl⟩
  case round =>
    obtain ⟨x, i, rfl, rfl, hi, hx, HX⟩ := hrel
    by_cases h0 : i = 0
    · subst h0
      go_wp2
      go_ret
      exact ⟨by rw [← HX.out.2]; rfl, rfl⟩
    · obtain ⟨j, rfl⟩ : ∃ j, i = j + 1 := ⟨i - 1, by omega⟩
      have i1 : (0 : Int) ≤ (j : Int) := by omega
      have i2 : (j : Int) ≤ 64 := by omega
      obtain ⟨y, hy⟩ : ∃ y, x + 2 ^ j = y := ⟨_, rfl⟩
      have hyl : y < 34359738368 := by rw [← hy]; exact bit_room x j HX.out.1 hx (by omega)
      have hb : bits BinOp.or IntKind.u64 (x : Int) (IntKind.u64.wrap (2 ^ j)) = (y : Int) := by
        have hp : 2 ^ j < 18446744073709551616 := Nat.lt_of_lt_of_le (Nat.pow_lt_pow_right (by decide) (show j < 64 by omega)) (by decide)
        have e1 : ((2 : Int) ^ j) = ((2 ^ j : Nat) : Int) := by simp
        have e2 : IntKind.u64.wrap ((2 : Int) ^ j) = ((2 ^ j : Nat) : Int) := by
          rw [e1]
          generalize (2 ^ j : Nat) = P at hp ⊢
          rw [IntKind.wrap_u64]
          omega
        rw [e2, or_bit x j HX.out.1 hx (by omega), hy]
      have C := Lib.hid (HF.out y hyl)
      simp only [List.append_toArray, List.cons_append, List.nil_append] at C
      have HN : Hid (y % 2 ^ j = 0 ∧ x % 2 ^ j = 0 ∧ srch f (j + 1) x = srch f j (if f y then y else x)) := ⟨by rw [← hy]; exact (bit_next x j HX.out.1).2, (bit_next x j HX.out.1).1, by rw [← hy]; rfl⟩
      clear hy
      cases hfy : f y with
      | true =>
        rw [hfy] at C HN
        clear hfy
        go_wp2_with fail
        refine C.out.mono ?_
        rintro e w' ⟨rfl, rfl⟩
        clear hb
        go_wp2
        go_round
        case rel => exact ⟨y, j, rfl, by go_num, by omega, hyl, HN.out.1, by rw [← HX.out.2, HN.out.2.2]; rfl⟩
        case measure => (first | (simp [intOf]; done) | (simp [intOf]; omega))
      | false =>
        rw [hfy] at C HN
        clear hfy
        go_wp2_with fail
        refine C.out.mono ?_
        rintro e w' ⟨rfl, rfl⟩
        clear hb
        go_wp2
        go_round
        case rel => exact ⟨x, j, rfl, by go_num, by omega, hx, HN.out.2.1, by rw [← HX.out.2, HN.out.2.2]; rfl⟩
        case measure => (first | (simp [intOf]; done) | (simp [intOf]; omega))
theorem search_cb (p : Addr) (f : Nat → Bool) (w : World) (hf : FitsIn 44 #[.pointer (some p)] f w) :
    Calls Try.prog 41 #[.func (Fn.func 44) #[] #[.pointer (some p)]] w fun e w' => e = .returned (.int .u64 (srch f 35 0 : Nat)) ∧ w = w' := by
  have HF := Lib.hid hf
  clear hf
  go_enter Try.func41, Try.ntmps41
  go_wp2
  go_loop [3, 4] (fun vx vi => ∃ x i : Nat, vx = .int .u64 (x : Int) ∧ vi = .int .i64 ((i : Int) - 1) ∧ i ≤ 35 ∧ x < 34359738368 ∧ Hid (x % 2 ^ i = 0 ∧ srch f i x = srch f 35 0)) (fun _ vi => (intOf vi + 1).toNat)
  case atStart => exact ⟨0, 35, rfl, by go_num, Nat.le_refl _, by decide, Nat.zero_mod _, rfl⟩
  case round =>
    obtain ⟨x, i, rfl, rfl, hi, hx, HX⟩ := hrel
    by_cases h0 : i = 0
    · subst h0
      go_wp2
      go_ret
      exact ⟨by rw [← HX.out.2]; rfl, rfl⟩
    · obtain ⟨j, rfl⟩ : ∃ j, i = j + 1 := ⟨i - 1, by omega⟩
      have i1 : (0 : Int) ≤ (j : Int) := by omega
      have i2 : (j : Int) ≤ 64 := by omega
      obtain ⟨y, hy⟩ : ∃ y, x + 2 ^ j = y := ⟨_, rfl⟩
      have hyl : y < 34359738368 := by rw [← hy]; exact bit_room x j HX.out.1 hx (by omega)
      have hb : bits BinOp.or IntKind.u64 (x : Int) (IntKind.u64.wrap (2 ^ j)) = (y : Int) := by
        have hp : 2 ^ j < 18446744073709551616 := Nat.lt_of_lt_of_le (Nat.pow_lt_pow_right (by decide) (show j < 64 by omega)) (by decide)
        have e1 : ((2 : Int) ^ j) = ((2 ^ j : Nat) : Int) := by simp
        have e2 : IntKind.u64.wrap ((2 : Int) ^ j) = ((2 ^ j : Nat) : Int) := by
          rw [e1]
          generalize (2 ^ j : Nat) = P at hp ⊢
          rw [IntKind.wrap_u64]
          omega
        rw [e2, or_bit x j HX.out.1 hx (by omega), hy]
      have C := Lib.hid (HF.out y hyl)
      simp only [List.append_toArray, List.cons_append, List.nil_append] at C
      have HN : Hid (y % 2 ^ j = 0 ∧ x % 2 ^ j = 0 ∧ srch f (j + 1) x = srch f j (if f y then y else x)) := ⟨by rw [← hy]; exact (bit_next x j HX.out.1).2, (bit_next x j HX.out.1).1, by rw [← hy]; rfl⟩
      clear hy
      cases hfy : f y with
      | true =>
        rw [hfy] at C HN
        clear hfy
        go_wp2_with fail
        refine C.out.mono ?_
        rintro e w' ⟨rfl, rfl⟩
        clear hb
        go_wp2
        go_round
        case rel => exact ⟨y, j, rfl, by go_num, by omega, hyl, HN.out.1, by rw [← HX.out.2, HN.out.2.2]; rfl⟩
        case measure => (first | (simp [intOf]; done) | (simp [intOf]; omega))
      | false =>
        rw [hfy] at C HN
        clear hfy
        go_wp2_with fail
        refine C.out.mono ?_
        rintro e w' ⟨rfl, rfl⟩
        clear hb
        go_wp2
        go_round
        case rel => exact ⟨x, j, rfl, by go_num, by omega, hx, HN.out.2.1, by rw [← HX.out.2, HN.out.2.2]; rfl⟩
        case measure => (first | (simp [intOf]; done) | (simp [intOf]; omega))
/-- The square root's bits. -/
def sqFit (p x : Nat) : Bool := decide (x * x / 18446744073709551616 < p) || (decide (x * x / 18446744073709551616 = p) && decide (x * x % 18446744073709551616 = 0))
def sqRoot (p : Nat) : Nat := srch (sqFit p) 35 0 % 4294967296
theorem sq_fits (p : Nat) (hp : p < 1000) (g : Nat) (t : TypeId) (w : World) (hg : w.heap[g]? = some (.cells #[.int .u64 (p : Int)] t)) : FitsIn 42 #[.pointer (some ⟨g, 0, none⟩)] (sqFit p) w := by
  intro x hx
  have hc := cells_1 hg
  have M := Lib.hid (mul64_any x x (by omega) (by omega) w)
  obtain ⟨hi, hhi⟩ : ∃ z, x * x / 18446744073709551616 = z := ⟨_, rfl⟩
  obtain ⟨lo, hlo⟩ : ∃ z, x * x % 18446744073709551616 = z := ⟨_, rfl⟩
  have HS : Hid (sqFit p x = (decide (hi < p) || (decide (hi = p) && decide (lo = 0)))) := by unfold Hid sqFit; rw [hhi, hlo]
  rw [hhi, hlo] at M
  clear hhi hlo hg
  simp only [List.append_toArray, List.cons_append, List.nil_append]
  go_enter Try.func42, Try.ntmps42
  go_wp2_with fail
  refine M.out.mono ?_
  rintro e w' ⟨rfl, rfl⟩
  by_cases a1 : hi < p
  · have i1 : (hi : Int) < (p : Int) := by omega
    go_wp2
    go_ret
    exact ⟨by rw [HS.out]; simp [a1], rfl⟩
  · have i1 : ¬ (hi : Int) < (p : Int) := by omega
    by_cases a2 : hi = p
    · have t2 : ((hi : Int) == (p : Int)) = true := by simp; omega
      by_cases a3 : lo = 0
      · have t3 : ((lo : Int) == 0) = true := by simp; omega
        have HA := Lib.hid (show hi = p ∧ lo = 0 from ⟨a2, a3⟩)
        clear a2 a3
        go_wp2
        go_ret
        exact ⟨by rw [HS.out]; simp [HA.out.1, HA.out.2], rfl⟩
      · have t3 : ((lo : Int) == 0) = false := by simp; omega
        have HA := Lib.hid (show hi = p ∧ lo ≠ 0 from ⟨a2, a3⟩)
        clear a2 a3
        go_wp2
        go_ret
        exact ⟨by rw [HS.out]; simp [HA.out.1, HA.out.2], rfl⟩
    · have t2 : ((hi : Int) == (p : Int)) = false := by simp; omega
      have HA := Lib.hid (show ¬ hi < p ∧ hi ≠ p from ⟨a1, a2⟩)
      clear a2
      go_wp2
      go_ret
      exact ⟨by rw [HS.out]; simp [HA.out.1, HA.out.2], rfl⟩
theorem sqroot_any (p : Nat) (hp : p < 1000) (w : World) : Calls Try.prog 35 #[.int .u64 (p : Int)] w fun e w' => e = .returned (.int .u32 (sqRoot p : Nat)) ∧ Below w.heap.size w w' := by
  have S := Lib.hid (search_sq ⟨w.heap.size, 0, none⟩ (sqFit p) (w.alloc (.cells #[.int .u64 (p : Int)] 37)) (sq_fits p hp w.heap.size _ _ (has_new w _)))
  obtain ⟨r, hr⟩ : ∃ r, srch (sqFit p) 35 0 = r := ⟨_, rfl⟩
  rw [hr] at S
  have HR : Hid (((sqRoot p : Nat) : Int) = (r : Int) % 4294967296) := by unfold Hid sqRoot; rw [hr]; omega
  clear hr
  go_enter Try.func35, Try.ntmps35
  go_wp2_with fail
  refine S.out.mono ?_
  rintro e w' ⟨rfl, rfl⟩
  go_wp2
  go_ret
  exact ⟨by rw [HR.out]; rfl, kp_alloc (Below.refl _ _) _⟩
end Go.Proofs.Ytmbkbehccmadfaa
