/-
  Numbers of limbs of 32 bits, plainly: what a list says, and the list of a number.
-/
import Derived.WalkKit
namespace Go.Proofs.YtbplchpbaonadaaDoor
open Go
set_option linter.unusedVariables false
set_option linter.unusedSimpArgs false
def val : List Nat → Nat
  | [] => 0
  | x :: l => x + 4294967296 * val l
def Lim (l : List Nat) : Prop := ∀ x ∈ l, x < 4294967296
/-- No noughts ahead. -/
def Tip (l : List Nat) : Prop := l = [] ∨ l.getD (l.length - 1) 0 ≠ 0
theorem Lim.nil : Lim [] := fun x h => by cases h
theorem Lim.cons {x : Nat} {l : List Nat} (hx : x < 4294967296) (hl : Lim l) : Lim (x :: l) := fun y hy => by
  rcases List.mem_cons.1 hy with rfl | h
  · exact hx
  · exact hl y h
theorem Lim.head {x : Nat} {l : List Nat} (h : Lim (x :: l)) : x < 4294967296 := h x (by simp)
theorem Lim.tail {x : Nat} {l : List Nat} (h : Lim (x :: l)) : Lim l := fun y hy => h y (by simp [hy])
theorem Lim.take {l : List Nat} (h : Lim l) (n : Nat) : Lim (l.take n) := fun x hx => h x (List.mem_of_mem_take hx)
theorem Lim.drop {l : List Nat} (h : Lim l) (n : Nat) : Lim (l.drop n) := fun x hx => h x (List.mem_of_mem_drop hx)
theorem Lim.append {l m : List Nat} (h : Lim l) (k : Lim m) : Lim (l ++ m) := fun x hx => by
  rcases List.mem_append.1 hx with e | e
  · exact h x e
  · exact k x e
theorem Lim.rep (n : Nat) : Lim (List.replicate n 0) := fun x hx => by rw [(List.mem_replicate.1 hx).2]; decide
theorem Lim.getD {l : List Nat} (h : Lim l) (j : Nat) : l.getD j 0 < 4294967296 := by
  rw [List.getD_eq_getElem?_getD]
  rcases Nat.lt_or_ge j l.length with h1 | h1
  · rw [List.getElem?_eq_getElem h1]; exact h _ (List.getElem_mem _)
  · rw [List.getElem?_eq_none h1]; decide
theorem Lim.set {l : List Nat} (h : Lim l) (j : Nat) {y : Nat} (hy : y < 4294967296) : Lim (l.set j y) := fun x hx => by
  rcases List.mem_or_eq_of_mem_set hx with e | e
  · exact h x e
  · exact e ▸ hy
theorem getD_at {l : List Nat} {j : Nat} (h : j < l.length) : l[j]? = some (l.getD j 0) := by
  rw [List.getD_eq_getElem?_getD, List.getElem?_eq_getElem h]; rfl
theorem val_set : ∀ (l : List Nat) (j y : Nat), j < l.length → val (l.set j y) + l.getD j 0 * 4294967296 ^ j = val l + y * 4294967296 ^ j
  | [], j, _, h => absurd h (by simp)
  | x :: l, 0, y, _ => by simp only [List.set_cons_zero, val, List.getD_cons_zero, Nat.pow_zero, Nat.mul_one]; omega
  | x :: l, j + 1, y, h => by
    have ih := val_set l j y (by simpa using h)
    simp only [List.set_cons_succ, val, List.getD_cons_succ]
    rw [Nat.pow_succ, ← Nat.mul_assoc, ← Nat.mul_assoc]
    generalize l.getD j 0 * 4294967296 ^ j = a at *
    generalize y * 4294967296 ^ j = b at *
    omega
theorem val_append : ∀ (l m : List Nat), val (l ++ m) = val l + 4294967296 ^ l.length * val m
  | [], m => by simp [val]
  | x :: l, m => by
    rw [List.cons_append, val, val, val_append l m, List.length_cons, Nat.pow_succ, Nat.mul_comm (4294967296 ^ l.length) 4294967296, Nat.mul_assoc]
    generalize 4294967296 ^ l.length * val m = a
    omega
theorem val_take (l : List Nat) (k : Nat) (h : k < l.length) : val (l.take (k + 1)) = val (l.take k) + l.getD k 0 * 4294967296 ^ k := by
  have e : l.take (k + 1) = l.take k ++ [l.getD k 0] := by
    rw [List.take_succ_eq_append_getElem h, List.getD_eq_getElem?_getD, List.getElem?_eq_getElem h]; rfl
  rw [e, val_append, List.length_take, Nat.min_eq_left (by omega), val, val, Nat.mul_zero, Nat.add_zero, Nat.mul_comm]
theorem val_zero (n : Nat) : val (List.replicate n 0) = 0 := by
  induction n with
  | zero => rfl
  | succ n ih => rw [List.replicate_succ, val, ih]
theorem val_lt : ∀ (l : List Nat), Lim l → val l < 4294967296 ^ l.length
  | [], _ => by simp [val]
  | x :: l, h => by
    have h1 := h.head
    have h2 := val_lt l h.tail
    rw [val, List.length_cons, Nat.pow_succ]
    generalize 4294967296 ^ l.length = T at *
    omega
theorem tip_tail {x y : Nat} {l : List Nat} (h : Tip (x :: y :: l)) : Tip (y :: l) := by
  rcases h with h | h
  · cases h
  · right
    simpa using h
theorem tip_pos : ∀ (l : List Nat), Tip l → l ≠ [] → 4294967296 ^ (l.length - 1) ≤ val l
  | [], _, h => absurd rfl h
  | [x], h, _ => by
    rcases h with h | h
    · cases h
    · have h2 : x ≠ 0 := by simpa using h
      simp only [List.length_cons, List.length_nil, val]
      simp
      omega
  | x :: y :: l, h, _ => by
    have ih := tip_pos (y :: l) (tip_tail h) (by simp)
    rw [val]
    rw [show (x :: y :: l).length - 1 = (y :: l).length - 1 + 1 from by simp, Nat.pow_succ]
    generalize 4294967296 ^ ((y :: l).length - 1) = T at *
    generalize val (y :: l) = v at *
    omega
def num (v : Nat) : List Nat := if h : v = 0 then [] else (v % 4294967296) :: num (v / 4294967296)
termination_by v
decreasing_by exact Nat.div_lt_self (Nat.pos_of_ne_zero h) (by decide)
theorem num_zero : num 0 = [] := by rw [num]; simp
theorem num_pos (v : Nat) (h : v ≠ 0) : num v = (v % 4294967296) :: num (v / 4294967296) := by rw [num]; simp [h]
theorem val_num (v : Nat) : val (num v) = v := by
  induction v using Nat.strongRecOn with
  | ind v ih =>
    by_cases h : v = 0
    · subst h; rw [num_zero]; rfl
    · rw [num_pos v h, val, ih _ (Nat.div_lt_self (Nat.pos_of_ne_zero h) (by decide))]; omega
theorem num_lim (v : Nat) : Lim (num v) := by
  induction v using Nat.strongRecOn with
  | ind v ih =>
    by_cases h : v = 0
    · subst h; rw [num_zero]; exact Lim.nil
    · rw [num_pos v h]; exact Lim.cons (Nat.mod_lt _ (by decide)) (ih _ (Nat.div_lt_self (Nat.pos_of_ne_zero h) (by decide)))
theorem num_tip (v : Nat) : Tip (num v) := by
  induction v using Nat.strongRecOn with
  | ind v ih =>
    by_cases h : v = 0
    · subst h; rw [num_zero]; exact .inl rfl
    · rw [num_pos v h]
      right
      have ih2 := ih _ (Nat.div_lt_self (Nat.pos_of_ne_zero h) (show 1 < 4294967296 by decide))
      rcases ih2 with h2 | h2
      · have h3 : v / 4294967296 = 0 := by rw [← val_num (v / 4294967296), h2]; rfl
        rw [h2]
        simp
        omega
      · rcases hl : num (v / 4294967296) with _ | ⟨y, l⟩
        · rw [hl] at h2; simp at h2
        · rw [hl] at h2
          simpa using h2
theorem num_val : ∀ (l : List Nat), Lim l → Tip l → num (val l) = l
  | [], _, _ => num_zero
  | [x], hl, ht => by
    have h1 := hl.head
    rcases ht with h | h
    · cases h
    · have h2 : x ≠ 0 := by simpa using h
      simp only [val, Nat.mul_zero, Nat.add_zero]
      rw [num_pos x h2, Nat.mod_eq_of_lt h1, Nat.div_eq_of_lt h1, num_zero]
  | x :: y :: l, hl, ht => by
    have ih := num_val (y :: l) hl.tail (tip_tail ht)
    have h1 := hl.head
    have h2 := tip_pos (y :: l) (tip_tail ht) (by simp)
    have h3 : 0 < 4294967296 ^ ((y :: l).length - 1) := Nat.pow_pos (by decide)
    rw [val]
    generalize hv : val (y :: l) = v at *
    rw [num_pos _ (by omega), show (x + 4294967296 * v) % 4294967296 = x by omega, show (x + 4294967296 * v) / 4294967296 = v by omega, ih]
theorem num_len (v k : Nat) : (num v).length ≤ k ↔ v < 4294967296 ^ k := by
  constructor
  · intro h
    have h1 := val_lt (num v) (num_lim v)
    rw [val_num] at h1
    exact Nat.lt_of_lt_of_le h1 (Nat.pow_le_pow_right (by decide) h)
  · intro h
    rcases Nat.lt_or_ge k (num v).length with h1 | h1
    · exfalso
      have h2 := tip_pos (num v) (num_tip v) (by intro e; rw [e] at h1; simp at h1)
      rw [val_num] at h2
      have h3 : 4294967296 ^ k ≤ 4294967296 ^ ((num v).length - 1) := Nat.pow_le_pow_right (by decide) (by omega)
      omega
    · exact h1
theorem num_inj {a b : Nat} (h : num a = num b) : a = b := by rw [← val_num a, h, val_num]
/-! ### Trimming -/
def trimN (l : List Nat) : Nat → Nat
  | 0 => 0
  | n + 1 => if l.getD n 0 = 0 then trimN l n else n + 1
theorem trimN_le (l : List Nat) : ∀ n, trimN l n ≤ n
  | 0 => Nat.le_refl _
  | n + 1 => by
    rw [trimN]
    split
    · exact Nat.le_succ_of_le (trimN_le l n)
    · exact Nat.le_refl _
theorem trim_num (l : List Nat) (h : Lim l) : ∀ n, n ≤ l.length → l.take (trimN l n) = num (val (l.take n))
  | 0, _ => by simp [trimN, val, num_zero]
  | n + 1, hn => by
    rw [trimN]
    by_cases e : l.getD n 0 = 0
    · rw [if_pos e, trim_num l h n (by omega), val_take l n (by omega), e, Nat.zero_mul, Nat.add_zero]
    · rw [if_neg e, num_val _ (h.take _) (.inr _)]
      rw [List.length_take, Nat.min_eq_left hn, List.getD_eq_getElem?_getD, List.getElem?_take, if_pos (by omega), ← List.getD_eq_getElem?_getD]
      exact e
def rightB (l : List Nat) : Bool := decide (l.length ≤ 256) && (l.length == 0 || !(l.getD (l.length - 1) 0 == 0))
theorem rightB_iff (l : List Nat) : rightB l = true ↔ l.length ≤ 256 ∧ Tip l := by
  unfold rightB Tip
  cases l with
  | nil => simp
  | cons x l => simp
theorem num_right (v : Nat) : rightB (num v) = decide (v < 4294967296 ^ 256) := by
  rw [Bool.eq_iff_iff, rightB_iff, num_len, decide_eq_true_iff]
  exact ⟨fun h => h.1, fun h => ⟨h, num_tip v⟩⟩
theorem right_num {l : List Nat} (hl : Lim l) (h : rightB l = true) : num (val l) = l := num_val l hl ((rightB_iff l).1 h).2
/-! ### Bits -/
def bitsN (v : Nat) : Nat := if v = 0 then 0 else Nat.log2 v + 1
theorem bits_of (v k : Nat) (h1 : 2 ^ k ≤ v) (h2 : v < 2 ^ (k + 1)) : bitsN v = k + 1 := by
  have hp : 0 < 2 ^ k := Nat.pow_pos (by decide)
  have hv : v ≠ 0 := by omega
  unfold bitsN
  rw [if_neg hv]
  have h3 := Nat.log2_self_le hv
  have h4 := @Nat.lt_log2_self v
  rcases Nat.lt_trichotomy (Nat.log2 v) k with h | h | h
  · have : 2 ^ (Nat.log2 v + 1) ≤ 2 ^ k := Nat.pow_le_pow_right (by decide) h
    omega
  · rw [h]
  · have : 2 ^ (k + 1) ≤ 2 ^ (Nat.log2 v) := Nat.pow_le_pow_right (by decide) h
    omega
theorem bits_le (v n : Nat) : bitsN v ≤ n ↔ v < 2 ^ n := by
  unfold bitsN
  by_cases hv : v = 0
  · subst hv
    simp
    exact Nat.pow_pos (by decide)
  · rw [if_neg hv]
    have h3 := Nat.log2_self_le hv
    have h4 := @Nat.lt_log2_self v
    constructor
    · intro h
      exact Nat.lt_of_lt_of_le h4 (Nat.pow_le_pow_right (by decide) h)
    · intro h
      rcases Nat.lt_or_ge (Nat.log2 v) n with h1 | h1
      · exact h1
      · have : 2 ^ n ≤ 2 ^ (Nat.log2 v) := Nat.pow_le_pow_right (by decide) h1
        omega
theorem bits_top (l : List Nat) (h : Lim l) (ht : Tip l) (hn : l ≠ []) : bitsN (val l) = 32 * (l.length - 1) + bitsN (l.getD (l.length - 1) 0) := by
  have hx : l.getD (l.length - 1) 0 ≠ 0 := by
    rcases ht with e | e
    · exact absurd e hn
    · exact e
  have hlen : 0 < l.length := List.length_pos_iff.2 hn
  have h1 := val_take l (l.length - 1) (by omega)
  rw [show l.length - 1 + 1 = l.length by omega, List.take_length] at h1
  have h2 := val_lt _ (h.take (l.length - 1))
  rw [List.length_take, Nat.min_eq_left (by omega)] at h2
  have hB : (4294967296 : Nat) = 2 ^ 32 := by decide
  generalize l.getD (l.length - 1) 0 = x at *
  generalize val (l.take (l.length - 1)) = u at *
  rw [h1]
  have h3 := Nat.log2_self_le hx
  have h4 := @Nat.lt_log2_self x
  rw [show bitsN x = Nat.log2 x + 1 from by unfold bitsN; rw [if_neg hx], ← Nat.add_assoc]
  have hT : (4294967296 : Nat) ^ (l.length - 1) = 2 ^ (32 * (l.length - 1)) := by rw [hB, ← Nat.pow_mul]
  rw [hT] at h2 ⊢
  refine bits_of _ _ ?_ ?_
  · rw [Nat.pow_add, Nat.mul_comm]
    have := Nat.mul_le_mul_right (2 ^ (32 * (l.length - 1))) h3
    omega
  · rw [Nat.add_assoc, Nat.pow_add]
    have := Nat.mul_le_mul_right (2 ^ (32 * (l.length - 1))) (show x + 1 ≤ 2 ^ (Nat.log2 x + 1) from h4)
    rw [Nat.add_mul, Nat.one_mul] at this
    rw [Nat.mul_comm (2 ^ (32 * (l.length - 1)))]
    omega
end Go.Proofs.YtbplchpbaonadaaDoor
