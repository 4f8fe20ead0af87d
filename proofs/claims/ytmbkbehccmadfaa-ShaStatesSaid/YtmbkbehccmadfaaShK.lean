/-
  sha: padding; Same.
-/
import Derived.Test.YtmbkbehccmadfaaShJ
import Derived.Deep.QuietTactic
import Derived.BigQuiet
import Derived.BigRegion
namespace Go.Proofs.Ytmbkbehccmadfaa
open Go.RowKit Go
set_option linter.unusedVariables false
set_option linter.unusedSimpArgs false
set_option maxRecDepth 100000
/-- How many noughts stand behind the first byte of the padding. -/
def zerosQ (t : Nat) : Nat := (119 - t % 64) % 64
def be8 (x i : Nat) : Nat := x * 8 % 18446744073709551616 / 2 ^ (56 - 8 * i) % 256
def padQ (t : Nat) : List Nat := 128 :: (List.replicate (zerosQ t) 0 ++ [be8 t 0, be8 t 1, be8 t 2, be8 t 3, be8 t 4, be8 t 5, be8 t 6, be8 t 7])
theorem padQ_len (t : Nat) : (padQ t).length = zerosQ t + 9 := by unfold padQ; simp
theorem u8_row2 : RowT 22 5 1 1 (.int .u8 0) := ⟨Try.underlying22, by kernel_rfl, rfl, by decide⟩
theorem xor_zero_iff (a b : Nat) : a ^^^ b = 0 ↔ a = b := by
  constructor
  · intro h
    have h1 : a ^^^ b ^^^ b = 0 ^^^ b := by rw [h]
    rwa [Nat.xor_assoc, Nat.xor_self, Nat.xor_zero, Nat.zero_xor] at h1
  · rintro rfl
    exact Nat.xor_self a
/-- Bytes that two slices read as: the same? -/
theorem same_go (A B : Option Addr) (n c k : Nat) (xs ys : List UInt8) (w : World) (h1 : RB w A n xs) (h2 : RB w B n ys) (hn : n ≤ 1000000000) :
    Calls Try.prog 22 #[.slice A n c, .slice B n k] w fun e w' => e = .returned (.bool (xs == ys)) ∧ ∃ q, w' = w.drewN q := by
  have H1 := Lib.hid h1
  have H2 := Lib.hid h2
  clear h1 h2
  go_enter Try.func22, Try.ntmps22
  go_wp2
  go_loopw [5, 14] (fun vd vi wl => ∃ (d i : Nat), vd = .int .u8 (d : Int) ∧ vi = .int .i64 (i : Int) ∧ i ≤ n ∧ d < 256 ∧ (∃ q, wl = w.drewN q) ∧ Hid (d = 0 ↔ xs.take i = ys.take i)) (fun _ vi _ => n - (intOf vi).toNat)
  case atStart => exact ⟨0, 0, rfl, rfl, Nat.zero_le _, by decide, ⟨0, rfl⟩, by simp [Hid]⟩
  case round =>
    obtain ⟨d, i, rfl, rfl, hi, hd, ⟨q, rfl⟩, HD⟩ := hrel
    by_cases hlt : i < n
    · obtain ⟨b, off, x, rfl, hb, hx, c1⟩ := H1.out.at_ (k := i) hlt
      obtain ⟨b2, off2, y, rfl, hb2, hy, c2⟩ := H2.out.at_ (k := i) hlt
      have hxl := x.toNat_lt
      have hyl := y.toNat_lt
      obtain ⟨e, he⟩ : ∃ e, x.toNat ^^^ y.toNat = e := ⟨_, rfl⟩
      obtain ⟨f, hf⟩ : ∃ f, d ||| e = f := ⟨_, rfl⟩
      have hel : e < 256 := by rw [← he]; exact Nat.xor_lt_two_pow (n := 8) hxl hyl
      have hfl : f < 256 := by rw [← hf]; exact Nat.or_lt_two_pow (n := 8) hd hel
      have b1 : bits .xor .u8 (x.toNat : Int) (y.toNat : Int) = (e : Int) := by rw [u8_xor_nat _ _ hxl hyl, he]
      have b3 : bits .or .u8 (d : Int) (e : Int) = (f : Int) := by rw [u8_or_nat _ _ hd hel, hf]
      have HN : Hid (f = 0 ↔ xs.take (i + 1) = ys.take (i + 1)) := by
        unfold Hid
        rw [← hf, Nat.or_eq_zero_iff, HD.out, ← he, xor_zero_iff, List.take_add_one, List.take_add_one, hx, hy]
        constructor
        · rintro ⟨h3, h4⟩
          rw [h3, UInt8.toNat_inj.1 h4]
        · intro h3
          have hl1 := H1.out.1
          have hl2 := H2.out.1
          have := List.append_inj h3 (by simp; omega)
          refine ⟨this.1, ?_⟩
          have h4 := this.2
          simp at h4
          rw [h4]
      have d1 : (w.drewN q).cell? ⟨b, off + i, none⟩ = some (.int .u8 (x.toNat : Int)) := c1
      have d2 : (w.drewN q).cell? ⟨b2, off2 + i, none⟩ = some (.int .u8 (y.toNat : Int)) := c2
      have i1 : (i : Int) < (n : Int) := by omega
      clear hx hy he hf c1 c2
      obtain ⟨wq, hwq⟩ : ∃ wq, w.drewN q = wq := ⟨_, rfl⟩
      rw [hwq] at d1 d2 ⊢
      have HW := Lib.hid hwq
      clear hwq
      go_wp2_with fail
      go_quiet (fail)
      clear b1 b3
      go_wp2
      go_roundw
      case rel => exact ⟨f, i + 1, rfl, by go_num, by omega, hfl, ⟨_, by rw [← HW.out]; exact World.drewN_drewN _ _ _⟩, HN⟩
      case measure => simp [intOf]; omega
    · have i1 : ¬ (i : Int) < (n : Int) := by omega
      have hD : d = 0 ↔ xs = ys := by
        have := HD.out
        rw [List.take_of_length_le (by rw [H1.out.1]; omega), List.take_of_length_le (by rw [H2.out.1]; omega)] at this
        exact this
      have HH : Hid ((xs == ys) = decide (d = 0)) := by
        unfold Hid
        by_cases h : d = 0
        · rw [decide_eq_true h]; exact beq_iff_eq.2 (hD.1 h)
        · rw [decide_eq_false h]; exact beq_eq_false_iff_ne.2 (fun e => h (hD.2 e))
      clear hD HD
      by_cases h : d = 0
      · have t1 : ((d : Int) == 0) = true := by simp; omega
        have HE := Lib.hid (decide_eq_true h)
        clear h
        go_wp2
        go_ret
        exact ⟨by rw [HH.out, HE.out]; rfl, _, rfl⟩
      · have t1 : ((d : Int) == 0) = false := by simp; omega
        have HE := Lib.hid (decide_eq_false h)
        clear h
        go_wp2
        go_ret
        exact ⟨by rw [HH.out, HE.out]; rfl, _, rfl⟩
theorem same_any (A B : Option Addr) (n m c k : Nat) (xs ys : List UInt8) (w : World) (h1 : RB w A n xs) (h2 : RB w B m ys) (hn : n ≤ 1000000000) (hm : m ≤ 1000000000) :
    Calls Try.prog 22 #[.slice A n c, .slice B m k] w fun e w' => e = .returned (.bool (xs == ys)) ∧ ∃ q, w' = w.drewN q := by
  by_cases e : n = m
  · subst e
    exact same_go A B n c k xs ys w h1 h2 hn
  · have t1 : ((n : Int) != (m : Int)) = true := by simp; omega
    have hne : (xs == ys) = false := beq_eq_false_iff_ne.2 (fun h => e (by rw [← h1.1, ← h2.1, h]))
    rw [hne]
    clear h1 h2 hne e
    go_enter Try.func22, Try.ntmps22
    go_wp2
    go_ret
    exact ⟨rfl, 0, rfl⟩
end Go.Proofs.Ytmbkbehccmadfaa
