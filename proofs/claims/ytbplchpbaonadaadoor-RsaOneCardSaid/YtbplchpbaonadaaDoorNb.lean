/-
  The guess of a digit of a quotient, plainly.
-/
import Derived.Test.YtbplchpbaonadaaDoorNa
namespace Go.Proofs.YtbplchpbaonadaaDoor
open Go
set_option linter.unusedVariables false
set_option linter.unusedSimpArgs false
theorem div_facts (P Y : Nat) (hY : 0 < Y) : P / Y * Y ≤ P ∧ P < (P / Y + 1) * Y ∧ P / Y * Y + P % Y = P := by
  have h1 := Nat.div_add_mod P Y
  have h2 := Nat.mod_lt P hY
  rw [Nat.mul_comm] at h1
  rw [Nat.add_mul, Nat.one_mul]
  generalize P / Y * Y = a at *
  omega
theorem guess_ok (U lo y1 ylo T : Nat) (hlo : lo < T) (hyl : ylo < T) (hy1 : 2147483648 ≤ y1) (hP : U * T + lo < (y1 * T + ylo) * 4294967296) :
    (U * T + lo) / (y1 * T + ylo) ≤ min (U / y1) 4294967295 ∧ min (U / y1) 4294967295 ≤ (U * T + lo) / (y1 * T + ylo) + 2 := by
  have hY : 0 < y1 * T + ylo := by
    have : 1 * 1 ≤ y1 * T := Nat.mul_le_mul (by omega) (by omega)
    omega
  obtain ⟨f1, f2, _⟩ := div_facts (U * T + lo) (y1 * T + ylo) hY
  have hq : (U * T + lo) / (y1 * T + ylo) < 4294967296 := Nat.div_lt_of_lt_mul hP
  generalize (U * T + lo) / (y1 * T + ylo) = q at *
  have a1 : q ≤ U / y1 := by
    rw [Nat.le_div_iff_mul_le (by omega)]
    rcases Nat.lt_or_ge U (q * y1) with h | h
    · exfalso
      have h1 : (U + 1) * T ≤ q * y1 * T := Nat.mul_le_mul_right T h
      rw [Nat.add_mul, Nat.one_mul] at h1
      rw [Nat.mul_add, ← Nat.mul_assoc] at f1
      generalize q * y1 * T = z1 at *
      generalize q * ylo = z2 at *
      omega
    · exact h
  refine ⟨by omega, ?_⟩
  rcases Nat.lt_or_ge (q + 2) (min (U / y1) 4294967295) with h | h
  · exfalso
    have h1 : q + 3 ≤ U / y1 := by omega
    rw [Nat.le_div_iff_mul_le (by omega)] at h1
    have h2 : (q + 3) * y1 * T ≤ U * T := Nat.mul_le_mul_right T h1
    have h3 : (q + 1) * (y1 * T + ylo) ≤ (q + 1) * ((y1 + 1) * T) := Nat.mul_le_mul_left _ (by rw [Nat.add_mul, Nat.one_mul]; omega)
    have h4 : (q + 3) * y1 * T < (q + 1) * (y1 + 1) * T := by
      rw [Nat.mul_assoc (q + 1)]
      omega
    have h5 := Nat.lt_of_mul_lt_mul_right h4
    rw [Nat.add_mul, Nat.add_mul, Nat.mul_add, Nat.one_mul, Nat.mul_one] at h5
    generalize q * y1 = z at *
    omega
  · exact h
/-- Behind the first taking away, and behind each putting back: nought above just if the digit is right. -/
theorem back_ok (P Y R d b M Bn : Nat) (hY : Y < Bn) (hM : M = 4294967296 * Bn) (hb : b ≤ 1) (hR : R < M) (h : R + d * Y = P + b * M) (h1 : P / Y ≤ d) (h2 : d ≤ P / Y + 2) (hY0 : 0 < Y) :
    (R < Bn → b = 0 ∧ d = P / Y ∧ R = P % Y) ∧ (Bn ≤ R → b = 1 ∧ P / Y + 1 ≤ d) := by
  obtain ⟨f1, f2, f3⟩ := div_facts P Y hY0
  generalize P / Y = q at *
  rcases Nat.lt_or_ge 0 b with hb1 | hb1
  · have hb2 : b = 1 := by omega
    subst hb2
    rw [Nat.one_mul] at h
    have k1 : q + 1 ≤ d := by
      rcases Nat.lt_or_ge q d with h3 | h3
      · exact h3
      · exfalso
        have := Nat.mul_le_mul_right Y h3
        omega
    have k2 : d * Y ≤ (q + 2) * Y := Nat.mul_le_mul_right Y h2
    rw [Nat.add_mul] at k2
    exact ⟨fun h3 => by exfalso; omega, fun _ => ⟨rfl, k1⟩⟩
  · have hb2 : b = 0 := by omega
    subst hb2
    rw [Nat.zero_mul, Nat.add_zero] at h
    have k1 : d = q := by
      rcases Nat.lt_or_ge q d with h3 | h3
      · exfalso
        have := Nat.mul_le_mul_right Y h3
        rw [Nat.succ_eq_add_one] at this
        omega
      · omega
    subst k1
    rw [Nat.add_mul, Nat.one_mul] at f2
    exact ⟨fun _ => ⟨rfl, rfl, by omega⟩, fun h3 => by exfalso; omega⟩
theorem back_step (P Y R d c M R2 : Nat) (h : R + d * Y = P + 1 * M) (hd : 1 ≤ d) (h2 : R2 + c * M = R + Y) (hc : c ≤ 1) : R2 + (d - 1) * Y = P + (1 - c) * M := by
  obtain ⟨k, rfl⟩ : ∃ k, d = k + 1 := ⟨d - 1, by omega⟩
  rw [Nat.add_mul, Nat.one_mul] at h
  rw [Nat.add_sub_cancel]
  rcases Nat.lt_or_ge 0 c with h3 | h3
  · have : c = 1 := by omega
    subst this
    simp only [Nat.one_mul] at *
    omega
  · have : c = 0 := by omega
    subst this
    simp only [Nat.zero_mul, Nat.one_mul] at *
    omega
end Go.Proofs.YtbplchpbaonadaaDoor
