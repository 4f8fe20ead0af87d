/-
  Steps of sums, differences, products and shifts of limbs, plainly.
-/
import Derived.Test.YtbplchpbaonadaaDoorNb
namespace Go.Proofs.YtbplchpbaonadaaDoor
open Go
set_option linter.unusedVariables false
set_option linter.unusedSimpArgs false
theorem val_take1 (l : List Nat) (k : Nat) : val (l.take (k + 1)) = val (l.take k) + l.getD k 0 * 4294967296 ^ k := by
  rcases Nat.lt_or_ge k l.length with h | h
  · exact val_take l k h
  · rw [List.take_of_length_le (by omega), List.take_of_length_le h, List.getD_eq_getElem?_getD, List.getElem?_eq_none h]
    simp
theorem val_take_set (l : List Nat) (k y : Nat) (h : k < l.length) : val ((l.set k y).take (k + 1)) = val (l.take k) + y * 4294967296 ^ k := by
  rw [val_take _ k (by simpa using h), List.take_set_of_le (Nat.le_refl k), List.getD_eq_getElem?_getD, List.getElem?_set_self h]
  rfl
theorem val_take_lt {l : List Nat} (h : Lim l) (k : Nat) : val (l.take k) < 4294967296 ^ k := by
  have h1 := val_lt _ (h.take k)
  exact Nat.lt_of_lt_of_le h1 (Nat.pow_le_pow_right (by decide) (by rw [List.length_take]; omega))
theorem getD_set_far (l : List Nat) (k j y : Nat) (h : j ≠ k) : (l.set k y).getD j 0 = l.getD j 0 := by
  rw [List.getD_eq_getElem?_getD, List.getElem?_set_ne (fun e => h e.symm), ← List.getD_eq_getElem?_getD]
theorem getD_set_same (l : List Nat) (k y : Nat) (h : k < l.length) : (l.set k y).getD k 0 = y := by
  rw [List.getD_eq_getElem?_getD, List.getElem?_set_self h]; rfl
theorem val_digit : ∀ (l : List Nat), Lim l → ∀ i, l.getD i 0 = val l / 4294967296 ^ i % 4294967296
  | [], _, i => by simp [val]
  | x :: l, h, 0 => by
    have h1 := h.head
    simp only [List.getD_cons_zero, val, Nat.pow_zero, Nat.div_one]
    omega
  | x :: l, h, i + 1 => by
    have h1 := h.head
    rw [List.getD_cons_succ, val_digit l h.tail i, val, Nat.pow_succ, Nat.mul_comm _ 4294967296, ← Nat.div_div_eq_div_mul]
    congr 2
    omega
theorem list_of_val {l m : List Nat} (hl : Lim l) (hm : Lim m) (he : l.length = m.length) (hv : val l = val m) : l = m := by
  refine List.ext_getElem? fun i => ?_
  rcases Nat.lt_or_ge i l.length with h | h
  · rw [getD_at h, getD_at (by omega), val_digit l hl, val_digit m hm, hv]
  · rw [List.getElem?_eq_none h, List.getElem?_eq_none (by omega)]
theorem take_digit {l : List Nat} (h : Lim l) (i : Nat) : val (l.take i) = val l % 4294967296 ^ i := by
  have h1 := val_take_lt h i
  have h2 := val_append (l.take i) (l.drop i)
  rw [List.take_append_drop] at h2
  rcases Nat.lt_or_ge i l.length with h3 | h3
  · rw [List.length_take, Nat.min_eq_left (by omega)] at h2
    rw [h2, Nat.add_mul_mod_self_left, Nat.mod_eq_of_lt h1]
  · rw [List.take_of_length_le h3] at h1 ⊢
    exact (Nat.mod_eq_of_lt h1).symm
theorem drop_digit {l : List Nat} (h : Lim l) (i : Nat) : val (l.drop i) = val l / 4294967296 ^ i := by
  have h1 := val_take_lt h i
  have h2 := val_append (l.take i) (l.drop i)
  rw [List.take_append_drop] at h2
  rcases Nat.lt_or_ge i l.length with h3 | h3
  · rw [List.length_take, Nat.min_eq_left (by omega)] at h2
    rw [h2, Nat.mul_comm, Nat.add_mul_div_right _ _ (Nat.pow_pos (by decide)), Nat.div_eq_of_lt h1, Nat.zero_add]
  · rw [List.take_of_length_le h3] at h1
    rw [List.drop_of_length_le h3, Nat.div_eq_of_lt h1]
    rfl
theorem add_step (V X Y a b c T : Nat) (h : V + c * T = X + Y) : V + (a + b + c) % 4294967296 * T + (a + b + c) / 4294967296 * (T * 4294967296) = X + a * T + (Y + b * T) := by
  have e : (a + b + c) % 4294967296 * T + (a + b + c) / 4294967296 * (T * 4294967296) = (a + b + c) * T := by
    rw [Nat.mul_comm T, ← Nat.mul_assoc, ← Nat.add_mul]
    congr 1
    omega
  rw [Nat.add_mul, Nat.add_mul] at e
  generalize (a + b + c) % 4294967296 * T = z1 at *
  generalize (a + b + c) / 4294967296 * (T * 4294967296) = z2 at *
  generalize a * T = z3 at *
  generalize b * T = z4 at *
  generalize c * T = z5 at *
  omega
theorem mul_step (V X y f a c T Z : Nat) (h : V + c * T = Z + f * X) : V + (a + y * f + c) % 4294967296 * T + (a + y * f + c) / 4294967296 * (T * 4294967296) = Z + a * T + f * (X + y * T) := by
  have h1 := add_step V Z (f * X) a (y * f) c T h
  rw [h1, Nat.mul_add, Nat.mul_comm y f, Nat.mul_assoc]
/-- A limb less another one and what was borrowed: the new limb, and what is borrowed of the next. -/
theorem take_limb (a p b : Nat) (ha : a < 4294967296) (hp : p < 4294967296) (hb : b ≤ 1) : ∃ l o : Nat, l < 4294967296 ∧ o ≤ 1 ∧ l + p + b = a + o * 4294967296 ∧
    ((a : Int) - p - b) % 18446744073709551616 / 9223372036854775808 = (o : Int) ∧ ((a : Int) - p - b) % 18446744073709551616 % 4294967296 = (l : Int) := by
  rcases Nat.lt_or_ge a (p + b) with h | h
  · exact ⟨a + 4294967296 - p - b, 1, by omega, by omega, by omega, by omega, by omega⟩
  · exact ⟨a - p - b, 0, by omega, by omega, by omega, by omega, by omega⟩
theorem sub_step (V P D Y a p y l o b c c2 T : Nat) (h : V + D * Y = P + (b + c) * T) (h1 : l + p + b = a + o * 4294967296) (h2 : y * D + c = p + c2 * 4294967296) :
    V + l * T + D * (Y + y * T) = P + a * T + (o + c2) * (T * 4294967296) := by
  have e1 : (l + p + b) * T = (a + o * 4294967296) * T := by rw [h1]
  have e2 : (y * D + c) * T = (p + c2 * 4294967296) * T := by rw [h2]
  rw [Nat.add_mul, Nat.add_mul, Nat.add_mul, Nat.mul_assoc o] at e1
  rw [Nat.add_mul, Nat.add_mul, Nat.mul_assoc c2] at e2
  rw [Nat.add_mul] at h
  rw [Nat.mul_add, Nat.add_mul, Nat.mul_comm T 4294967296, ← Nat.mul_assoc D y T, Nat.mul_comm D y]
  generalize o * (4294967296 * T) = z1 at *
  generalize c2 * (4294967296 * T) = z2 at *
  generalize y * D * T = z3 at *
  generalize l * T = z4 at *
  generalize p * T = z5 at *
  generalize b * T = z6 at *
  generalize a * T = z7 at *
  generalize c * T = z8 at *
  generalize D * Y = z9 at *
  omega
theorem left_step (V X d T S c : Nat) (h : V + c * T = X * S) : V + (d * S % 4294967296 + c) * T + d * S / 4294967296 * (T * 4294967296) = (X + d * T) * S := by
  have e : d * S % 4294967296 * T + d * S / 4294967296 * (T * 4294967296) = d * S * T := by
    rw [Nat.mul_comm T, ← Nat.mul_assoc, ← Nat.add_mul]
    congr 1
    omega
  rw [Nat.add_mul, Nat.add_mul, show d * T * S = d * S * T from by rw [Nat.mul_assoc, Nat.mul_comm T, ← Nat.mul_assoc]]
  generalize d * S % 4294967296 * T = z1 at *
  generalize d * S / 4294967296 * (T * 4294967296) = z2 at *
  generalize d * S * T = z3 at *
  generalize c * T = z4 at *
  generalize X * S = z5 at *
  omega
theorem or_sum (a c s : Nat) (hc : c < 2 ^ s) : (a * 2 ^ s) ||| c = a * 2 ^ s + c := by
  rw [Nat.mul_comm]
  exact (Nat.two_pow_add_eq_or_of_lt hc a).symm
/-- A digit of a number that has gone to the right. -/
theorem right_digit (V T s : Nat) (hs : s ≤ 32) : (V / T / 4294967296 % 4294967296 * 4294967296 + V / T % 4294967296) / 2 ^ s % 4294967296 = V / 2 ^ s / T % 4294967296 := by
  generalize hW : V / T = W
  rw [Nat.div_div_eq_div_mul, Nat.mul_comm (2 ^ s), ← Nat.div_div_eq_div_mul, hW]
  have e : W / 4294967296 % 4294967296 * 4294967296 + W % 4294967296 = W % 18446744073709551616 := by omega
  rw [e]
  obtain ⟨t, ht⟩ : ∃ t, 18446744073709551616 = 2 ^ s * t ∧ 4294967296 ∣ t := by
    refine ⟨2 ^ (64 - s), ?_, ?_⟩
    · rw [← Nat.pow_add, show s + (64 - s) = 64 by omega]
    · rw [show (4294967296 : Nat) = 2 ^ 32 by decide]
      exact Nat.pow_dvd_pow 2 (by omega)
  rw [ht.1, Nat.mod_mul_right_div_self, Nat.mod_mod_of_dvd _ ht.2]
theorem mod_step (V T : Nat) : V % (T * 4294967296) = V % T + V / T % 4294967296 * T := by
  rw [Nat.mod_mul, Nat.mul_comm T]
end Go.Proofs.YtbplchpbaonadaaDoor
