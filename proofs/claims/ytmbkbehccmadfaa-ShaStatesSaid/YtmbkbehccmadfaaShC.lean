/-
  sha: cube roots; the first primes.
-/
import Derived.Test.YtmbkbehccmadfaaShB
namespace Go.Proofs.Ytmbkbehccmadfaa
open Go.RowKit Go
set_option linter.unusedVariables false
set_option linter.unusedSimpArgs false
set_option maxRecDepth 100000
/-- The cube root's bits. -/
def cbFit (p x : Nat) : Bool := decide (x * x % 18446744073709551616 * x / 18446744073709551616 + x * x / 18446744073709551616 * x < p * 4294967296) || (decide (x * x % 18446744073709551616 * x / 18446744073709551616 + x * x / 18446744073709551616 * x = p * 4294967296) && decide (x * x % 18446744073709551616 * x % 18446744073709551616 = 0))
def cbRoot (p : Nat) : Nat := srch (cbFit p) 35 0 % 4294967296
theorem cb_fits (p : Nat) (hp : p < 1000) (g : Nat) (t : TypeId) (w : World) (hg : w.heap[g]? = some (.cells #[.int .u64 (p : Int)] t)) : FitsIn 44 #[.pointer (some ⟨g, 0, none⟩)] (cbFit p) w := by
  intro x hx
  have hc := cells_1 hg
  have M := Lib.hid (mul64_any x x (by omega) (by omega) w)
  have bsh : x * x / 18446744073709551616 ≤ 63 := by
    have h1 : x * x ≤ 34359738367 * 34359738367 := Nat.mul_le_mul (by omega) (by omega)
    omega
  have bq : x * x / 18446744073709551616 * x ≤ 63 * 34359738367 := Nat.mul_le_mul bsh (by omega)
  have M2 := Lib.hid (mul64_any (x * x % 18446744073709551616) x (by omega) (by omega) w)
  have bhi : x * x % 18446744073709551616 * x / 18446744073709551616 ≤ 34359738367 := by
    have h1 : x * x % 18446744073709551616 * x ≤ 18446744073709551615 * 34359738367 := Nat.mul_le_mul (by omega) (by omega)
    omega
  obtain ⟨sh, hsh⟩ : ∃ z, x * x / 18446744073709551616 = z := ⟨_, rfl⟩
  obtain ⟨sl, hsl⟩ : ∃ z, x * x % 18446744073709551616 = z := ⟨_, rfl⟩
  obtain ⟨hi, hhi⟩ : ∃ z, sl * x / 18446744073709551616 = z := ⟨_, rfl⟩
  obtain ⟨lo, hlo⟩ : ∃ z, sl * x % 18446744073709551616 = z := ⟨_, rfl⟩
  obtain ⟨q, hq⟩ : ∃ z, sh * x = z := ⟨_, rfl⟩
  obtain ⟨P, hP⟩ : ∃ z, p * 4294967296 = z := ⟨_, rfl⟩
  have HS : Hid (cbFit p x = (decide (hi + q < P) || (decide (hi + q = P) && decide (lo = 0)))) := by unfold Hid cbFit; rw [hsl, hsh, hhi, hlo, hq, hP]
  rw [hsh, hsl] at M
  rw [hsl, hhi, hlo] at M2
  rw [hsl, hhi] at bhi
  rw [hsh, hq] at bq
  rw [hsh] at bsh
  have hsll : sl < 18446744073709551616 := by rw [← hsl]; exact Nat.mod_lt _ (by decide)
  have hqi : (sh : Int) * (x : Int) = (q : Int) := by rw [← hq]; simp
  have hqw : IntKind.u64.wrap ((sh : Int) * (x : Int)) = (q : Int) := by rw [hqi, IntKind.wrap_u64]; omega
  have hPi : (p : Int) * 4294967296 = (P : Int) := by omega
  clear hhi hlo hg hsh hsl hq hqi hP
  simp only [List.append_toArray, List.cons_append, List.nil_append]
  go_enter Try.func44, Try.ntmps44
  go_wp2_with fail
  refine M.out.mono ?_
  rintro e w' ⟨rfl, rfl⟩
  go_wp2_with fail
  refine M2.out.mono ?_
  rintro e w' ⟨rfl, rfl⟩
  by_cases a1 : hi + q < P
  · have i1 : (hi : Int) + (q : Int) < (P : Int) := by omega
    have HA := Lib.hid (decide_eq_true a1)
    clear a1
    go_wp2
    go_ret
    exact ⟨by rw [HS.out, HA.out]; rfl, rfl⟩
  · have i1 : decide ((hi : Int) + (q : Int) < (P : Int)) = false := by simp; omega
    have HA := Lib.hid (decide_eq_false a1)
    by_cases a2 : hi + q = P
    · have t2 : ((hi : Int) + (q : Int) == (P : Int)) = true := by simp; omega
      have HB := Lib.hid (decide_eq_true a2)
      clear a1 a2
      by_cases a3 : lo = 0
      · have t3 : ((lo : Int) == 0) = true := by simp; omega
        have HC := Lib.hid (decide_eq_true a3)
        clear a3
        go_wp2
        go_ret
        exact ⟨by rw [HS.out, HA.out, HB.out, HC.out]; rfl, rfl⟩
      · have t3 : ((lo : Int) == 0) = false := by simp; omega
        have HC := Lib.hid (decide_eq_false a3)
        clear a3
        go_wp2
        go_ret
        exact ⟨by rw [HS.out, HA.out, HB.out, HC.out]; rfl, rfl⟩
    · have t2 : ((hi : Int) + (q : Int) == (P : Int)) = false := by simp; omega
      have HB := Lib.hid (decide_eq_false a2)
      clear a1 a2
      go_wp2
      go_ret
      exact ⟨by rw [HS.out, HA.out, HB.out]; rfl, rfl⟩
theorem cbroot_any (p : Nat) (hp : p < 1000) (w : World) : Calls Try.prog 36 #[.int .u64 (p : Int)] w fun e w' => e = .returned (.int .u32 (cbRoot p : Nat)) ∧ Below w.heap.size w w' := by
  have S := Lib.hid (search_cb ⟨w.heap.size, 0, none⟩ (cbFit p) (w.alloc (.cells #[.int .u64 (p : Int)] 37)) (cb_fits p hp w.heap.size _ _ (has_new w _)))
  obtain ⟨r, hr⟩ : ∃ r, srch (cbFit p) 35 0 = r := ⟨_, rfl⟩
  rw [hr] at S
  have HR : Hid (((cbRoot p : Nat) : Int) = (r : Int) % 4294967296) := by unfold Hid cbRoot; rw [hr]; omega
  clear hr
  go_enter Try.func36, Try.ntmps36
  go_wp2_with fail
  refine S.out.mono ?_
  rintro e w' ⟨rfl, rfl⟩
  go_wp2
  go_ret
  exact ⟨by rw [HR.out]; rfl, kp_alloc (Below.refl _ _) _⟩
end Go.Proofs.Ytmbkbehccmadfaa
