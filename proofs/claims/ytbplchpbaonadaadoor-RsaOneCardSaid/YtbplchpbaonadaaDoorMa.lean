/-
  mont: what a cut product comes to, plainly; the inverse of an odd number.
-/
import Derived.Test.YtbplchpbaonadaaDoorNc
namespace Go.Proofs.YtbplchpbaonadaaDoor
open Go.RowKit Go
set_option linter.unusedVariables false
set_option linter.unusedSimpArgs false
set_option maxRecDepth 100000
/-- a step of the inverse -/
def istep (d x : Nat) : Nat := x * ((4294967298 - d * x % 4294967296) % 4294967296) % 4294967296
theorem istep_lt (d x : Nat) : istep d x < 4294967296 := Nat.mod_lt _ (by decide)
theorem istep_int (d x : Nat) : ∃ c : Int, (d : Int) * (istep d x : Nat) - 1 = -(((d : Int) * x - 1) * ((d : Int) * x - 1)) + 4294967296 * c := by
  obtain ⟨p, hp⟩ : ∃ p, d * x % 4294967296 = p := ⟨_, rfl⟩
  have hp1 : p < 4294967296 := by rw [← hp]; exact Nat.mod_lt _ (by decide)
  have hp2 := Nat.div_add_mod (d * x) 4294967296
  obtain ⟨b, hb⟩ : ∃ b, d * x / 4294967296 = b := ⟨_, rfl⟩
  rw [hp, hb] at hp2
  obtain ⟨t, ht⟩ : ∃ t, (4294967298 - p) % 4294967296 = t := ⟨_, rfl⟩
  have ht2 := Nat.div_add_mod (4294967298 - p) 4294967296
  obtain ⟨a, ha⟩ : ∃ a, (4294967298 - p) / 4294967296 = a := ⟨_, rfl⟩
  rw [ht, ha] at ht2
  have hi : istep d x = x * t % 4294967296 := by unfold istep; rw [hp, ht]
  have hi2 := Nat.div_add_mod (x * t) 4294967296
  rw [← hi] at hi2
  obtain ⟨c, hc⟩ : ∃ c, x * t / 4294967296 = c := ⟨_, rfl⟩
  rw [hc] at hi2
  refine ⟨d * (x + x * b - x * a - c), ?_⟩
  have e1 : (4294967296 : Int) * b + p = d * x := by rw [← Int.natCast_inj, Int.natCast_add, Int.natCast_mul, Int.natCast_mul] at hp2; exact hp2
  have e2 : (4294967296 : Int) * a + t = 4294967298 - p := by omega
  have e3 : (4294967296 : Int) * c + (istep d x : Nat) = x * t := by rw [← Int.natCast_inj, Int.natCast_add, Int.natCast_mul, Int.natCast_mul] at hi2; exact hi2
  clear hp hp1 hp2 hb ht ht2 ha hi hi2 hc
  generalize ((istep d x : Nat) : Int) = i at *
  grind
theorem two_dvd (a b : Nat) (h : a ≤ b) : (2 ^ a : Int) ∣ 2 ^ b := ⟨2 ^ (b - a), by rw [← Int.pow_add, show a + (b - a) = b by omega]⟩
theorem dvd_step (d x k j : Nat) (hj : j ≤ 2 * k) (hj2 : j ≤ 32) (h : (2 ^ k : Int) ∣ (d : Int) * x - 1) : (2 ^ j : Int) ∣ (d : Int) * (istep d x : Nat) - 1 := by
  obtain ⟨c, hc⟩ := istep_int d x
  rw [hc]
  have h1 : (2 ^ j : Int) ∣ ((d : Int) * x - 1) * ((d : Int) * x - 1) := by
    refine Int.dvd_trans ?_ (Int.mul_dvd_mul h h)
    rw [← Int.pow_add]
    exact two_dvd _ _ (by omega)
  have h2 : (2 ^ j : Int) ∣ 4294967296 * c := by
    refine Int.dvd_trans ?_ (Int.dvd_mul_right _ _)
    rw [show (4294967296 : Int) = 2 ^ 32 by decide]
    exact two_dvd _ _ hj2
  exact Int.dvd_add (Int.dvd_neg.2 h1) h2
def invQ (d : Nat) : Nat := istep d (istep d (istep d (istep d d)))
theorem inv_right (d : Nat) (hd : d % 2 = 1) : d * invQ d % 4294967296 = 1 := by
  have h0 : (2 ^ 3 : Int) ∣ (d : Int) * d - 1 := by
    have h1 : d % 8 = 1 ∨ d % 8 = 3 ∨ d % 8 = 5 ∨ d % 8 = 7 := by omega
    have h2 := Nat.mul_mod d d 8
    have h3 : d * d % 8 = 1 := by rcases h1 with h1 | h1 | h1 | h1 <;> rw [h2, h1]
    have h4 : ((d : Int) * d) = ((d * d : Nat) : Int) := by push_cast; rfl
    rw [h4]
    generalize d * d = q at *
    show (8 : Int) ∣ _
    omega
  have h1 := dvd_step d d 3 6 (by decide) (by decide) h0
  have h2 := dvd_step d _ 6 12 (by decide) (by decide) h1
  have h3 := dvd_step d _ 12 24 (by decide) (by decide) h2
  have h4 := dvd_step d _ 24 32 (by decide) (by decide) h3
  change (2 ^ 32 : Int) ∣ (d : Int) * ((invQ d : Nat) : Int) - 1 at h4
  have h5 : ((d : Int) * ((invQ d : Nat) : Int)) = ((d * invQ d : Nat) : Int) := by push_cast; rfl
  rw [h5] at h4
  generalize d * invQ d = q at *
  have h4 : (4294967296 : Int) ∣ (q : Int) - 1 := h4
  omega
theorem inv_lt (d : Nat) : invQ d < 4294967296 := istep_lt _ _
/-- The inverse's negative. -/
def negQ (d : Nat) : Nat := 4294967296 - invQ d
theorem neg_right (d : Nat) (hd : d % 2 = 1) : d * negQ d % 4294967296 = 4294967295 ∧ negQ d < 4294967296 := by
  have h1 := inv_right d hd
  have h2 := inv_lt d
  have h3 : d * negQ d = d * 4294967296 - d * invQ d := by unfold negQ; rw [Nat.mul_sub]
  have h4 : 0 < invQ d := by
    rcases Nat.eq_zero_or_pos (invQ d) with h | h
    · rw [h] at h1; simp at h1
    · exact h
  refine ⟨?_, by unfold negQ; omega⟩
  have h5 : d * invQ d ≤ d * 4294967296 := Nat.mul_le_mul_left _ (by omega)
  rw [h3]
  generalize d * invQ d = q at *
  omega
/-! ### Rests -/
theorem odd_half (m : Nat) (hm : m % 2 = 1) (k : Nat) : 2 ^ k * ((m + 1) / 2) ^ k % m = 1 % m := by
  rw [← Nat.mul_pow, show 2 * ((m + 1) / 2) = m + 1 by omega, Nat.pow_mod, Nat.add_mod_left, ← Nat.pow_mod, Nat.one_pow]
theorem pow_32 (n : Nat) : 4294967296 ^ n = 2 ^ (32 * n) := by rw [Nat.pow_mul]
theorem cancel_R (m n a b : Nat) (hm : m % 2 = 1) (h : a * 4294967296 ^ n % m = b * 4294967296 ^ n % m) : a % m = b % m := by
  have h1 : ∀ c, c % m = c * 4294967296 ^ n * ((m + 1) / 2) ^ (32 * n) % m := fun c => by
    rw [Nat.mul_assoc, pow_32, Nat.mul_mod, odd_half m hm, ← Nat.mul_mod, Nat.mul_one]
  rw [h1 a, h1 b, Nat.mul_mod, h, ← Nat.mul_mod]
/-- What a product that is cut comes to. -/
structure Red (m R x y v : Nat) : Prop where
  lt : v < m
  eq : v * R % m = x * y % m
theorem Red.is {m n x y v : Nat} (hm : m % 2 = 1) (h : Red m (4294967296 ^ n) x y v) (t : Nat) (ht : t * 4294967296 ^ n % m = x * y % m) : v = t % m := by
  have h1 := cancel_R m n v t hm (by rw [h.eq, ht])
  rw [Nat.mod_eq_of_lt h.lt] at h1
  exact h1
theorem red_to {m n x v : Nat} (hm : m % 2 = 1) (h : Red m (4294967296 ^ n) x (4294967296 ^ n * 4294967296 ^ n % m) v) : v = x * 4294967296 ^ n % m := by
  refine h.is hm _ ?_
  rw [Nat.mul_mod_mod, Nat.mul_assoc]
theorem red_from {m n x y v : Nat} (hm : m % 2 = 1) (h : Red m (4294967296 ^ n) (x * 4294967296 ^ n % m) y v) : v = x * y % m := by
  refine h.is hm _ ?_
  rw [Nat.mod_mul_mod, Nat.mul_right_comm]
theorem red_mm {m n x y v : Nat} (hm : m % 2 = 1) (h : Red m (4294967296 ^ n) (x * 4294967296 ^ n % m) (y * 4294967296 ^ n % m) v) : v = x * y * 4294967296 ^ n % m := by
  refine h.is hm _ ?_
  rw [← Nat.mul_mod]
  congr 1
  generalize 4294967296 ^ n = R
  grind
theorem red_out {m n x v : Nat} (hm : m % 2 = 1) (h : Red m (4294967296 ^ n) (x * 4294967296 ^ n % m) 1 v) : v = x % m := by
  have := red_from hm h
  rw [Nat.mul_one] at this
  exact this
/-- One limb of the cut product. -/
structure Cut (m y k X S : Nat) : Prop where
  eq : ∃ Q, S * 4294967296 ^ k = X * y + Q * m
  lt : S < m + y
theorem Cut.start (m y : Nat) (hm : 0 < m) : Cut m y 0 0 0 := ⟨⟨0, by simp⟩, by omega⟩
theorem Cut.step {m y k X S d q S2 : Nat} (h : Cut m y k X S) (hd : d < 4294967296) (hq : q < 4294967296) (h2 : S2 * 4294967296 = S + d * y + q * m) : Cut m y (k + 1) (X + d * 4294967296 ^ k) S2 := by
  obtain ⟨⟨Q, e⟩, hl⟩ := h
  refine ⟨⟨Q + q * 4294967296 ^ k, ?_⟩, ?_⟩
  · rw [Nat.pow_succ]
    generalize 4294967296 ^ k = T at *
    grind
  · have h3 : d * y ≤ 4294967295 * y := Nat.mul_le_mul_right _ (by omega)
    have h4 : q * m ≤ 4294967295 * m := Nat.mul_le_mul_right _ (by omega)
    generalize d * y = z1 at *
    generalize q * m = z2 at *
    omega
theorem Cut.low {m S d y q s0 iv : Nat} (hiv : m % 4294967296 * iv % 4294967296 = 4294967295) (hs : (S + d * y) % 4294967296 = s0) (hq : s0 * iv % 4294967296 = q) : (S + d * y + q * m) % 4294967296 = 0 := by
  have h1 : (q * m) % 4294967296 = s0 * 4294967295 % 4294967296 := by
    rw [← hq, Nat.mod_mul_mod, Nat.mul_assoc, Nat.mul_comm iv, Nat.mul_mod, ← Nat.mod_mul_mod m, hiv, Nat.mul_mod, Nat.mod_mod, ← Nat.mul_mod]
  rw [Nat.add_mod, hs, h1]
  have : s0 < 4294967296 := by rw [← hs]; exact Nat.mod_lt _ (by decide)
  omega
theorem Cut.red {m y n X S : Nat} (h : Cut m y n X S) (hy : y < m) : Red m (4294967296 ^ n) X y (if m ≤ S then S - m else S) := by
  obtain ⟨⟨Q, e⟩, hl⟩ := h
  by_cases hc : m ≤ S
  · rw [if_pos hc]
    refine ⟨by omega, ?_⟩
    have h1 : (S - m) * 4294967296 ^ n + m * 4294967296 ^ n = X * y + Q * m := by rw [← e, ← Nat.add_mul, Nat.sub_add_cancel hc]
    have h2 : ((S - m) * 4294967296 ^ n + m * 4294967296 ^ n) % m = (X * y + Q * m) % m := by rw [h1]
    rw [Nat.add_mul_mod_self_left, Nat.add_mul_mod_self_right] at h2
    exact h2
  · rw [if_neg hc]
    refine ⟨by omega, ?_⟩
    rw [e, Nat.add_mul_mod_self_right]
end Go.Proofs.YtbplchpbaonadaaDoor
