/-
  der: plain facts of elements in bytes.
-/
import Derived.Test.YtamkbedbkjndgaaBytes
namespace Go.Proofs.Ytamkbedbkjndgaa
open Go.RowKit Go
set_option linter.unusedVariables false

/-- A number's bytes, the highest first. -/
def beN (l : List UInt8) : Nat := l.foldl (fun a q => a * 256 + q.toNat) 0
theorem beN_nil : beN [] = 0 := rfl
theorem beN_snoc (l : List UInt8) (q : UInt8) : beN (l ++ [q]) = beN l * 256 + q.toNat := by simp [beN, List.foldl_append]
theorem snoc_of {α : Type} (l : List α) (k : Nat) (h : l.length = k + 1) : ∃ r q, l = r ++ [q] ∧ r.length = k := by
  have hne : l ≠ [] := by intro e; subst e; simp at h
  exact ⟨l.dropLast, l.getLast hne, (List.dropLast_concat_getLast hne).symm, by simp [h]⟩
theorem beN_lt : ∀ (k : Nat) (l : List UInt8), l.length = k → beN l < 256 ^ k
  | 0, l, h => by
    obtain rfl : l = [] := List.length_eq_zero_iff.1 h
    decide
  | k + 1, l, h => by
    obtain ⟨r, q, rfl, hr⟩ := snoc_of l k h
    have h1 := beN_lt k r hr
    have h2 := q.toNat_lt
    rw [beN_snoc, Nat.pow_succ]
    omega

/-- A length's bytes, as few as may be. -/
def lenB (n : Nat) : List UInt8 := if h : n = 0 then [] else lenB (n / 256) ++ [UInt8.ofNat (n % 256)]
termination_by n
decreasing_by omega
theorem lenB_zero : lenB 0 = [] := by unfold lenB; rfl
theorem lenB_pos {n : Nat} (h : n ≠ 0) : lenB n = lenB (n / 256) ++ [UInt8.ofNat (n % 256)] := by
  conv => lhs; unfold lenB
  rw [dif_neg h]
theorem byte_mod (n : Nat) : (UInt8.ofNat (n % 256)).toNat = n % 256 := by
  rw [UInt8.toNat_ofNat']; omega
theorem beN_lenB (n : Nat) : beN (lenB n) = n := by
  induction n using Nat.strongRecOn with
  | _ n ih =>
    by_cases h : n = 0
    · subst h; rw [lenB_zero]; rfl
    · rw [lenB_pos h, beN_snoc, ih (n / 256) (by omega), byte_mod]; omega
theorem lenB_len : ∀ (k n : Nat), n < 256 ^ k → (lenB n).length ≤ k
  | 0, n, h => by
    obtain rfl : n = 0 := by simp at h; exact h
    rw [lenB_zero]; simp
  | k + 1, n, h => by
    by_cases h0 : n = 0
    · subst h0; rw [lenB_zero]; simp
    · rw [lenB_pos h0]
      have := lenB_len k (n / 256) (by rw [Nat.pow_succ] at h; omega)
      simp; omega
theorem lenB_one {n : Nat} (h : n ≠ 0) : 1 ≤ (lenB n).length := by rw [lenB_pos h]; simp
theorem getD_snoc {α : Type} (l : List α) (q d : α) (h : l ≠ []) : (l ++ [q]).getD 0 d = l.getD 0 d := by
  cases l with
  | nil => exact absurd rfl h
  | cons x r => rfl
theorem lenB_head (n : Nat) : n ≠ 0 → (lenB n).getD 0 0 ≠ 0 := by
  induction n using Nat.strongRecOn with
  | _ n ih =>
    intro h
    rw [lenB_pos h]
    by_cases h2 : n / 256 = 0
    · rw [h2, lenB_zero]
      intro e
      have e2 := congrArg UInt8.toNat e
      simp only [List.nil_append, List.getD_cons_zero] at e2
      rw [byte_mod] at e2
      have : (0 : UInt8).toNat = 0 := rfl
      omega
    · rw [getD_snoc _ _ _ (by intro e; have := lenB_one h2; rw [e] at this; simp at this)]
      exact ih _ (by omega) h2
theorem lenB_beN : ∀ (k : Nat) (l : List UInt8), l.length = k → (l ≠ [] → l.getD 0 0 ≠ 0) → lenB (beN l) = l
  | 0, l, h, _ => by
    obtain rfl : l = [] := List.length_eq_zero_iff.1 h
    exact lenB_zero
  | k + 1, l, h, hz => by
    obtain ⟨r, q, rfl, hr⟩ := snoc_of l k h
    have hq := q.toNat_lt
    have hz := hz (by simp)
    have hne : beN (r ++ [q]) ≠ 0 := by
      rw [beN_snoc]
      intro e
      by_cases h0 : r = []
      · subst h0
        have : q.toNat = 0 := by omega
        exact hz (by simpa using UInt8.toNat_inj.1 (this.trans rfl))
      · rw [getD_snoc _ _ _ h0] at hz
        have e1 : beN r = 0 := by omega
        have := lenB_beN k r hr (fun _ => hz)
        rw [e1, lenB_zero] at this
        exact h0 this.symm
    have hrz : r ≠ [] → r.getD 0 0 ≠ 0 := fun h0 => by rwa [getD_snoc _ _ _ h0] at hz
    rw [lenB_pos hne, beN_snoc, show (beN r * 256 + q.toNat) / 256 = beN r by omega, show (beN r * 256 + q.toNat) % 256 = q.toNat by omega, lenB_beN k r hr hrz]
    simp

/-- A byte, as a number. -/
def nth (bs : List UInt8) (i : Nat) : Nat := (bs.getD i 0).toNat
/-- Where the body of the element begins with which bytes begin, and where it ends. -/
def splitQ (bs : List UInt8) : Option (Nat × Nat) :=
  if bs.length < 2 ∨ nth bs 0 % 32 = 31 then none
  else if nth bs 1 < 128 then (if nth bs 1 ≤ bs.length - 2 then some (2, 2 + nth bs 1) else none)
  else if nth bs 1 = 128 ∨ 132 < nth bs 1 ∨ bs.length < 2 + (nth bs 1 - 128) ∨ nth bs 2 = 0 then none
  else if beN ((bs.drop 2).take (nth bs 1 - 128)) < 128 ∨ bs.length - 2 - (nth bs 1 - 128) < beN ((bs.drop 2).take (nth bs 1 - 128)) then none
  else some (2 + (nth bs 1 - 128), 2 + (nth bs 1 - 128) + beN ((bs.drop 2).take (nth bs 1 - 128)))
theorem splitQ_le {bs : List UInt8} {s e : Nat} (h : splitQ bs = some (s, e)) : 2 ≤ s ∧ s ≤ e ∧ e ≤ bs.length := by
  unfold splitQ at h
  split at h; cases h
  split at h
  · split at h
    · simp at h; omega
    · cases h
  split at h; cases h
  split at h; cases h
  simp at h; omega
/-- An element's bytes. -/
def wrQ (tag : UInt8) (b : List UInt8) : List UInt8 :=
  if b.length < 128 then tag :: UInt8.ofNat b.length :: b else tag :: UInt8.ofNat (128 + (lenB b.length).length) :: (lenB b.length ++ b)
theorem split_wr (tag : UInt8) (b more : List UInt8) (ht : tag.toNat % 32 ≠ 31) (hb : b.length < 4294967296) :
    splitQ (wrQ tag b ++ more) = some ((wrQ tag b).length - b.length, (wrQ tag b).length) := by
  by_cases h1 : b.length < 128
  · have e1 : wrQ tag b = tag :: UInt8.ofNat b.length :: b := by unfold wrQ; rw [if_pos h1]
    have n0 : nth (wrQ tag b ++ more) 0 = tag.toNat := by rw [e1]; rfl
    have n1 : nth (wrQ tag b ++ more) 1 = b.length := by
      rw [e1]; show (UInt8.ofNat b.length).toNat = _
      rw [UInt8.toNat_ofNat']; omega
    have l1 : (wrQ tag b).length = b.length + 2 := by rw [e1]; simp
    unfold splitQ
    rw [n0, n1, if_neg (by simp; omega), if_pos h1, if_pos (by simp; omega), l1]
    simp; omega
  · have e1 : wrQ tag b = tag :: UInt8.ofNat (128 + (lenB b.length).length) :: (lenB b.length ++ b) := by unfold wrQ; rw [if_neg h1]
    have hk := lenB_len 4 b.length (by simpa using hb)
    have hk1 := lenB_one (n := b.length) (by omega)
    have hh := lenB_head b.length (by omega)
    have hv := beN_lenB b.length
    generalize hL : lenB b.length = L at *
    have n0 : nth (wrQ tag b ++ more) 0 = tag.toNat := by rw [e1]; rfl
    have n1 : nth (wrQ tag b ++ more) 1 = 128 + L.length := by
      rw [e1]; show (UInt8.ofNat (128 + L.length)).toNat = _
      rw [UInt8.toNat_ofNat']; omega
    have n2 : nth (wrQ tag b ++ more) 2 ≠ 0 := by
      rw [e1]
      cases L with
      | nil => simp at hk1
      | cons x r =>
        show x.toNat ≠ 0
        intro e
        exact hh (by simpa using UInt8.toNat_inj.1 (e.trans rfl))
    have l1 : (wrQ tag b).length = b.length + L.length + 2 := by rw [e1]; simp; omega
    have t1 : ((wrQ tag b ++ more).drop 2).take L.length = L := by rw [e1]; simp
    have l2 : (wrQ tag b ++ more).length = b.length + L.length + 2 + more.length := by rw [List.length_append, l1]
    unfold splitQ
    rw [n0, n1, l2, if_neg (by omega), if_neg (by omega), if_neg (by omega), show 128 + L.length - 128 = L.length by omega, t1, hv, if_neg (by omega), l1]
    simp only [Option.some.injEq, Prod.mk.injEq]; omega
theorem wr_split {bs : List UInt8} {s e : Nat} (h : splitQ bs = some (s, e)) : bs.take e = wrQ (bs.getD 0 0) ((bs.take e).drop s) := by
  obtain ⟨h2, hse, hel⟩ := splitQ_le h
  obtain ⟨t, l, r, rfl⟩ : ∃ t l r, bs = t :: l :: r := by
    match bs, hel with
    | [], h => simp at h; omega
    | [_], h => simp at h; omega
    | t :: l :: r, _ => exact ⟨t, l, r, rfl⟩
  have hl := l.toNat_lt
  have n1 : nth (t :: l :: r) 1 = l.toNat := rfl
  unfold splitQ at h
  rw [n1] at h
  split at h; cases h
  split at h
  · rename_i h3
    split at h
    · rename_i h4
      simp at h h4
      obtain ⟨rfl, rfl⟩ := h
      have : ((t :: l :: r).take (2 + l.toNat)).drop 2 = r.take l.toNat := by rw [Nat.add_comm]; rfl
      rw [this]
      unfold wrQ
      have hlen : (r.take l.toNat).length = l.toNat := by simp; omega
      rw [hlen, if_pos h3, Nat.add_comm]
      simp
    · cases h
  split at h; cases h
  rename_i h3 h4
  split at h; cases h
  rename_i h5
  simp only [List.length_cons] at h4 h5 hel
  generalize hk : l.toNat - 128 = k at *
  have hd : (t :: l :: r).drop 2 = r := rfl
  rw [hd] at h h5
  simp only [Option.some.injEq, Prod.mk.injEq] at h
  obtain ⟨rfl, rfl⟩ := h
  have hkl : (r.take k).length = k := by simp; omega
  have hz : (r.take k).getD 0 0 ≠ 0 := by
    intro e0
    have h6 : ¬ nth (t :: l :: r) 2 = 0 := fun e9 => h4 (.inr (.inr (.inr e9)))
    apply h6
    cases r with
    | nil => rfl
    | cons x r' =>
      cases k with
      | zero => omega
      | succ k' =>
        simp at e0
        show x.toNat = 0
        rw [e0]; rfl
  have hL := lenB_beN k (r.take k) hkl (fun _ => hz)
  generalize hm : beN (r.take k) = m at *
  have hb : ((t :: l :: r).take (2 + k + m)).drop (2 + k) = (r.drop k).take m := by
    rw [show 2 + k + m = (k + m) + 1 + 1 by omega, show 2 + k = k + 1 + 1 by omega]
    simp only [List.take_succ_cons, List.drop_succ_cons]
    rw [List.drop_take, show k + m - k = m by omega]
  have hbl : ((r.drop k).take m).length = m := by simp; omega
  rw [hb]
  unfold wrQ
  rw [hbl, if_neg (by omega), hL, hkl, show 128 + k = l.toNat by omega, show 2 + k + m = (k + m) + 1 + 1 by omega]
  simp only [List.take_succ_cons]
  rw [List.take_add]
  simp
end Go.Proofs.Ytamkbedbkjndgaa
