/-
  nat: bytes that tell a number, plainly.
-/
import Derived.Test.YtbplchpbaonadaaDoorNc
namespace Go.Proofs.YtbplchpbaonadaaDoor
open Go
set_option linter.unusedVariables false
set_option linter.unusedSimpArgs false
/-- What bytes tell, the highest first. -/
def beV : List UInt8 → Nat
  | [] => 0
  | b :: l => b.toNat * 256 ^ l.length + beV l
theorem beV_lt : ∀ l : List UInt8, beV l < 256 ^ l.length
  | [] => by simp [beV]
  | b :: l => by
    have h := beV_lt l
    have hb := b.toNat_lt
    rw [beV, List.length_cons, Nat.pow_succ]
    have := Nat.mul_le_mul_right (256 ^ l.length) (show b.toNat + 1 ≤ 256 by omega)
    rw [Nat.add_mul, Nat.mul_comm 256] at this
    omega
theorem beV_append : ∀ (l m : List UInt8), beV (l ++ m) = beV l * 256 ^ m.length + beV m
  | [], m => by simp [beV]
  | b :: l, m => by
    rw [List.cons_append, beV, beV, beV_append l m, List.length_append, Nat.pow_add, Nat.add_mul, Nat.mul_assoc]
    omega
theorem beV_zeros (k : Nat) : beV (List.replicate k 0) = 0 := by
  induction k with
  | zero => rfl
  | succ k ih => rw [List.replicate_succ, beV, ih]; simp
/-- The n bytes that tell a number. -/
def beN (V : Nat) : Nat → List UInt8
  | 0 => []
  | n + 1 => UInt8.ofNat (V / 256 ^ n % 256) :: beN V n
theorem beN_len (V : Nat) : ∀ n, (beN V n).length = n
  | 0 => rfl
  | n + 1 => by rw [beN, List.length_cons, beN_len V n]
theorem beN_val (V : Nat) : ∀ n, beV (beN V n) = V % 256 ^ n
  | 0 => by simp [beN, beV, Nat.mod_one]
  | n + 1 => by
    rw [beN, beV, beN_val V n, beN_len, Nat.pow_succ, Nat.mod_mul]
    have : (UInt8.ofNat (V / 256 ^ n % 256)).toNat = V / 256 ^ n % 256 := by simp
    rw [this, Nat.mul_comm (256 ^ n)]
    omega
theorem beN_beV : ∀ (l : List UInt8) (n : Nat), l.length = n → ∀ V, V % 256 ^ n = beV l → beN V n = l
  | [], n, h, V, _ => by subst h; rfl
  | b :: l, n, h, V, hv => by
    subst h
    rw [List.length_cons, beN]
    have hl := beV_lt l
    have hb := b.toNat_lt
    rw [List.length_cons, Nat.pow_succ, Nat.mod_mul, beV] at hv
    have hm := Nat.mod_lt V (show 0 < 256 ^ l.length from Nat.pow_pos (by decide))
    have h1 : V % 256 ^ l.length = beV l ∧ V / 256 ^ l.length % 256 = b.toNat := by
      have hd : (V % 256 ^ l.length + 256 ^ l.length * (V / 256 ^ l.length % 256)) / 256 ^ l.length = (b.toNat * 256 ^ l.length + beV l) / 256 ^ l.length := by rw [hv]
      have hmm : (V % 256 ^ l.length + 256 ^ l.length * (V / 256 ^ l.length % 256)) % 256 ^ l.length = (b.toNat * 256 ^ l.length + beV l) % 256 ^ l.length := by rw [hv]
      rw [Nat.add_mul_div_left _ _ (Nat.pow_pos (by decide)), Nat.div_eq_of_lt hm, Nat.zero_add, Nat.mul_comm b.toNat, Nat.mul_add_div (Nat.pow_pos (by decide)), Nat.div_eq_of_lt hl, Nat.add_zero] at hd
      rw [Nat.add_mul_mod_self_left, Nat.mod_eq_of_lt hm, Nat.mul_comm b.toNat, Nat.mul_add_mod, Nat.mod_eq_of_lt hl] at hmm
      exact ⟨hmm, hd⟩
    rw [h1.2, beN_beV l _ rfl V h1.1]
    congr 1
    simp
theorem beN_same (l : List UInt8) : beN (beV l) l.length = l := beN_beV l _ rfl _ (Nat.mod_eq_of_lt (beV_lt l))
theorem beN_more (l : List UInt8) (k : Nat) : beN (beV l) (l.length + k) = List.replicate k 0 ++ l := by
  refine beN_beV _ _ (by simp [Nat.add_comm]) _ ?_
  rw [beV_append, beV_zeros, Nat.zero_mul, Nat.zero_add]
  exact Nat.mod_eq_of_lt (Nat.lt_of_lt_of_le (beV_lt l) (Nat.pow_le_pow_right (by decide) (by omega)))
theorem beN_get (V : Nat) : ∀ (n j : Nat), j < n → (beN V n)[j]? = some (UInt8.ofNat (V / 256 ^ (n - 1 - j) % 256))
  | 0, j, h => absurd h (by omega)
  | n + 1, 0, _ => by simp [beN]
  | n + 1, j + 1, h => by
    rw [beN, List.getElem?_cons_succ, beN_get V n j (by omega), show n + 1 - 1 - (j + 1) = n - 1 - j by omega]
/-- The bytes from the end. -/
def tailV (l : List UInt8) (i : Nat) : Nat := beV (l.drop (l.length - i))
theorem tailV_zero (l : List UInt8) : tailV l 0 = 0 := by unfold tailV; rw [Nat.sub_zero, List.drop_length]; rfl
theorem tailV_all (l : List UInt8) : tailV l l.length = beV l := by unfold tailV; rw [Nat.sub_self, List.drop_zero]
theorem tailV_lt (l : List UInt8) (i : Nat) (h : i ≤ l.length) : tailV l i < 256 ^ i := by
  have := beV_lt (l.drop (l.length - i))
  rw [List.length_drop, show l.length - (l.length - i) = i by omega] at this
  exact this
theorem tailV_next (l : List UInt8) (i : Nat) (h : i < l.length) : tailV l (i + 1) = (l[l.length - 1 - i]'(by omega)).toNat * 256 ^ i + tailV l i := by
  unfold tailV
  rw [show l.length - (i + 1) = l.length - 1 - i by omega, List.drop_eq_getElem_cons (by omega), beV, List.length_drop, show l.length - 1 - i + 1 = l.length - i by omega, show l.length - (l.length - i) = i by omega]
theorem pow_parts (i : Nat) : 256 ^ i = 4294967296 ^ (i / 4) * 2 ^ (8 * (i % 4)) := by
  have h1 : (256 : Nat) = 2 ^ 8 := by decide
  have h2 : (4294967296 : Nat) = 2 ^ 32 := by decide
  rw [h1, h2, ← Nat.pow_mul, ← Nat.pow_mul, ← Nat.pow_add]
  congr 1
  omega
/-- One byte more of the limb at i / 4. -/
theorem of_step (l : List UInt8) (Z : List Nat) (i q : Nat) (hi : i < l.length) (lZ : Lim Z) (hZ : i / 4 < Z.length) (hv : val Z = tailV l i) (hq : (l[l.length - 1 - i]'(by omega)).toNat = q) :
    (Z.getD (i / 4) 0 ||| q * 2 ^ (8 * (i % 4))) = q * 2 ^ (8 * (i % 4)) + Z.getD (i / 4) 0 ∧ q * 2 ^ (8 * (i % 4)) + Z.getD (i / 4) 0 < 4294967296 ∧
    val (Z.set (i / 4) (q * 2 ^ (8 * (i % 4)) + Z.getD (i / 4) 0)) = tailV l (i + 1) := by
  have hlt := tailV_lt l i (by omega)
  have hd := val_digit Z lZ (i / 4)
  have hc : Z.getD (i / 4) 0 < 2 ^ (8 * (i % 4)) := by
    rw [hd, hv]
    refine Nat.lt_of_le_of_lt (Nat.mod_le _ _) ?_
    rw [Nat.div_lt_iff_lt_mul (Nat.pow_pos (by decide)), Nat.mul_comm, ← pow_parts]
    exact hlt
  have hq2 : q < 256 := by rw [← hq]; exact UInt8.toNat_lt _
  refine ⟨by rw [Nat.or_comm]; exact or_sum _ _ _ hc, ?_, ?_⟩
  · have h3 : i % 4 < 4 := Nat.mod_lt _ (by decide)
    generalize Z.getD (i / 4) 0 = c at *
    have h4 : i % 4 = 0 ∨ i % 4 = 1 ∨ i % 4 = 2 ∨ i % 4 = 3 := by omega
    rcases h4 with h | h | h | h <;> rw [h] at hc ⊢ <;> simp at hc ⊢ <;> omega
  · have hs := val_set Z (i / 4) (q * 2 ^ (8 * (i % 4)) + Z.getD (i / 4) 0) hZ
    rw [tailV_next l i hi, hq, pow_parts i, ← hv]
    rw [Nat.add_mul, Nat.mul_assoc, Nat.mul_comm (2 ^ (8 * (i % 4)))] at hs
    generalize Z.getD (i / 4) 0 * 4294967296 ^ (i / 4) = a at *
    generalize q * (4294967296 ^ (i / 4) * 2 ^ (8 * (i % 4))) = b at *
    omega
theorem byte_of (x : List Nat) (lx : Lim x) (i : Nat) : x.getD (i / 4) 0 / 2 ^ (8 * (i % 4)) % 256 = val x / 256 ^ i % 256 := by
  rw [val_digit x lx, pow_parts i, ← Nat.div_div_eq_div_mul]
  generalize val x / 4294967296 ^ (i / 4) = W
  have h4 : i % 4 = 0 ∨ i % 4 = 1 ∨ i % 4 = 2 ∨ i % 4 = 3 := by omega
  rcases h4 with h | h | h | h <;> rw [h] <;> simp <;> omega
theorem fill_step {T : List UInt8} {m : Nat} {b : UInt8} (h : m < T.length) (hb : T[m]? = some b) : (List.replicate (m + 1) 0 ++ T.drop (m + 1)).set m b = List.replicate m 0 ++ T.drop m := by
  rw [List.drop_eq_getElem_cons h]
  rw [List.getElem?_eq_getElem h] at hb
  injection hb with hb
  rw [hb, List.replicate_succ', List.append_assoc, List.set_append_right _ _ (by simp)]
  simp
end Go.Proofs.YtbplchpbaonadaaDoor
