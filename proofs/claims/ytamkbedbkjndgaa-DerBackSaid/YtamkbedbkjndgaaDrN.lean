/-
  der: a number of seven bits a byte, written: the code's and the document's.
-/
import Derived.Test.YtamkbedbkjndgaaDrC
import Derived.Test.YtamkbedbkjndgaaDrU
import Derived.Test.YtamkbedbkjndgaaApp1
namespace Go.Proofs.Ytamkbedbkjndgaa
open Go.RowKit Go
set_option linter.unusedVariables false
set_option maxRecDepth 100000
/-- The bytes of a number that go on. -/
def sevC (n : Nat) : List UInt8 := if h : n = 0 then [] else sevC (n / 128) ++ [UInt8.ofNat (128 + n % 128)]
termination_by n
decreasing_by omega
theorem sevC_zero : sevC 0 = [] := by unfold sevC; rfl
theorem sevC_pos {n : Nat} (h : n ≠ 0) : sevC n = sevC (n / 128) ++ [UInt8.ofNat (128 + n % 128)] := by
  conv => lhs; unfold sevC
  rw [dif_neg h]
/-- A number's bytes. -/
def sev (n : Nat) : List UInt8 := sevC (n / 128) ++ [UInt8.ofNat (n % 128)]
theorem sevC_len : ∀ (k n : Nat), n < 128 ^ k → (sevC n).length ≤ k
  | 0, n, h => by
    obtain rfl : n = 0 := by simp at h; exact h
    rw [sevC_zero]; simp
  | k + 1, n, h => by
    by_cases h0 : n = 0
    · subst h0; rw [sevC_zero]; simp
    · rw [sevC_pos h0]
      have := sevC_len k (n / 128) (by rw [Nat.pow_succ] at h; omega)
      simp; omega
theorem sev_len (n : Nat) (h : n < 18446744073709551616) : (sev n).length ≤ 10 := by
  have := sevC_len 9 (n / 128) (by
    have : (128 : Nat) ^ 9 = 9223372036854775808 := by decide
    omega)
  unfold sev
  simp; omega
theorem sev_small {n : Nat} (h : n < 128) : sev n = [UInt8.ofNat n] := by
  unfold sev
  rw [show n / 128 = 0 by omega, sevC_zero, Nat.mod_eq_of_lt h]; rfl
theorem sevC_of_sev {n : Nat} (h : n ≠ 0) : sevC n = (sev n).set ((sev n).length - 1) (UInt8.ofNat (128 + n % 128)) := by
  rw [sevC_pos h]
  unfold sev
  simp
theorem sev_last (n : Nat) : (sev n)[(sev n).length - 1]? = some (UInt8.ofNat (n % 128)) := by
  unfold sev; simp
theorem sev_pos (n : Nat) : 0 < (sev n).length := by unfold sev; simp
theorem or128 (v : Nat) (h : v < 256) : bits BinOp.or IntKind.u8 (v : Int) 128 = ((128 + v % 128 : Nat) : Int) := by
  have e := u8_or_nat v 128 h (by omega)
  refine e.trans ?_
  have : ∀ v : Fin 256, (v.val ||| 128) = 128 + v.val % 128 := by decide
  exact congrArg Nat.cast (this ⟨v, h⟩)
theorem not128w (x : Nat) (h : x < 18446744073709551616) : ∃ z : Nat, bits BinOp.andNot IntKind.u64 (x : Int) 128 = (z : Int) ∧ z < 18446744073709551616 ∧ z % 256 = x % 128 := by
  have e := u64_andNot_nat x 128 h (by omega)
  refine ⟨_, e, ?_, ?_⟩
  · exact Nat.lt_of_le_of_lt Nat.and_le_left h
  · have h1 : ∀ a b : Nat, (a &&& b) % 2 ^ 8 = (a % 2 ^ 8) &&& (b % 2 ^ 8) := fun a b => Nat.and_mod_two_pow
    have h2 := h1 x (18446744073709551615 - 128)
    have h3 : ∀ v : Fin 256, (v.val &&& 127) = v.val % 128 := by decide
    have h4 := h3 ⟨x % 256, by omega⟩
    have h5 : (18446744073709551615 - 128) % 2 ^ 8 = 127 := by decide
    rw [h5] at h2
    have h6 : (2 : Nat) ^ 8 = 256 := by decide
    rw [h6] at h2
    rw [h2]
    simp only at h4
    omega
theorem putnum_any (x : Nat) (hx : x < 18446744073709551616) (w : World) : Calls Try.prog 48 #[.int .u64 (x : Int)] w (Fresh w (sev x)) := by
  have HL := Lib.hid (sev_len x hx)
  obtain ⟨z, hz, hz2, hz3⟩ := not128w x hx
  have hzq : (z : Int) % 256 = ((UInt8.ofNat (x % 128)).toNat : Int) := by rw [UInt8.toNat_ofNat']; omega
  have HX0 : Hid (sev x = sevC (x / 128) ++ [UInt8.ofNat (x % 128)]) := rfl
  generalize hq0 : UInt8.ofNat (x % 128) = q0 at *
  have HZ := Lib.hid hzq
  clear hz3 hq0 hzq
  go_enter Try.func48, Try.ntmps48
  go_wp2
  go_loopw [0, 3] (fun i v wl => ∃ (y : Nat) (L : List UInt8) (A2 : Option Addr) (n2 c2 : Nat), y ≤ x ∧ i = .int .u64 y ∧ v = .slice A2 n2 c2 ∧ OwnB wl w.heap.size A2 n2 c2 L ∧ Below w.heap.size w wl ∧ Hid (sev x = sevC y ++ L)) (fun i _ _ => (intOf i).toNat)
  case atStart => exact ⟨x / 128, [q0], _, _, _, by omega, by go_num, rfl, own_lit w [q0] 1 _ (by rw [HZ.out]; rfl) rfl (by omega), (Below.refl _ _).alloc (Nat.le_refl _) _, HX0⟩
  case round =>
    obtain ⟨y, L, A2, n2, c2, hy, rfl, rfl, hown, hbl, HX⟩ := hrel
    by_cases hlt : 0 < y
    · have hsz := hbl.size
      obtain ⟨q, hq⟩ : ∃ q : UInt8, bits BinOp.or IntKind.u8 ((y : Int) % 256) 128 = (q.toNat : Int) ∧ q = UInt8.ofNat (128 + y % 128) := by
        refine ⟨_, ?_, rfl⟩
        rw [show (y : Int) % 256 = ((y % 256 : Nat) : Int) by omega, or128 (y % 256) (by omega), UInt8.toNat_ofNat']; omega
      obtain ⟨hq, hq2⟩ := hq
      have hLn := HL.out
      rw [HX.out, List.length_append] at hLn
      have hl2 := hown.len
      have HN : Hid (sev x = sevC (y / 128) ++ (q :: L)) := by
        have e := HX.out
        rw [sevC_pos (n := y) (by omega), ← hq2, List.append_assoc] at e
        exact e
      clear hq2
      go_wp2_with (at_builtin; refine wpList_apn _ _ rfl rfl rfl w.heap.size (some ⟨wr.heap.size, 0, none⟩) 1 1 [q] rfl ((own_lit wr [q] 1 _ rfl rfl (by omega)).lower hsz) A2 n2 c2 L rfl (hown.rb.alloc _) (by omega) (by simp; omega) ?_)
      intro A3 c3 w3 hown3 hg3
      have hbl3 : Below w.heap.size w w3 := (hbl.alloc hsz _).grown hg3 (by simp; omega) (fun g hg => by injection hg with hg; subst hg; exact hsz)
      go_wp2
      go_roundw
      case rel => exact ⟨y / 128, q :: L, A3, _, c3, by omega, by go_num, rfl, hown3, hbl3, HN⟩
      case measure => simp [intOf]; omega
    · obtain rfl : y = 0 := by omega
      have HX : Hid (sev x = L) := by
        have := HX.out
        rw [sevC_zero] at this
        exact this
      go_wp2
      go_ret
      exact ⟨A2, n2, c2, rfl, by rw [HX.out]; exact hown, hbl⟩
end Go.Proofs.Ytamkbedbkjndgaa
