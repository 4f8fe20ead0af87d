/-
  der: plain facts of elements in bytes.
-/
import Derived.Test.YtomolfdcdmncoaaCb1
import Derived.Laws.BitsLemmas
import Derived.Laws.BitsAllLaws
import Derived.BigQuiet
namespace Go.Proofs.Ytomolfdcdmncoaa
open Go.RowKit Go
set_option linter.unusedVariables false

/-- A number's bytes, the highest first. -/
def beN (l : List UInt8) : Nat := l.foldl (fun a q => a * 256 + q.toNat) 0
theorem beN_nil : beN [] = 0 := rfl
theorem beN_snoc (l : List UInt8) (q : UInt8) : beN (l ++ [q]) = beN l * 256 + q.toNat := by simp [beN, List.foldl_append]
theorem snoc_of {α : Type} (l : List α) (k : Nat) (h : l.length = k + 1) : ∃ r q, l = r ++ [q] ∧ r.length = k := by
  have hne : l ≠ [] := by intro e; subst e; simp at h
  exact ⟨l.dropLast, l.getLast hne, (List.dropLast_concat_getLast hne).symm, by simp [h]⟩
theorem beN_lt : ∀ (k : Nat) (l : List UInt8), l.length = k → beN l < 256 ^ k
  | 0, l, h => by
    obtain rfl : l = [] := List.length_eq_zero_iff.1 h
    decide
  | k + 1, l, h => by
    obtain ⟨r, q, rfl, hr⟩ := snoc_of l k h
    have h1 := beN_lt k r hr
    have h2 := q.toNat_lt
    rw [beN_snoc, Nat.pow_succ]
    omega

/-- A length's bytes, as few as may be. -/
def lenB (n : Nat) : List UInt8 := if h : n = 0 then [] else lenB (n / 256) ++ [UInt8.ofNat (n % 256)]
termination_by n
decreasing_by omega
theorem lenB_zero : lenB 0 = [] := by unfold lenB; rfl
theorem lenB_pos {n : Nat} (h : n ≠ 0) : lenB n = lenB (n / 256) ++ [UInt8.ofNat (n % 256)] := by
  conv => lhs; unfold lenB
  rw [dif_neg h]
theorem byte_mod (n : Nat) : (UInt8.ofNat (n % 256)).toNat = n % 256 := by
  rw [UInt8.toNat_ofNat']; omega
theorem beN_lenB (n : Nat) : beN (lenB n) = n := by
  induction n using Nat.strongRecOn with
  | _ n ih =>
    by_cases h : n = 0
    · subst h; rw [lenB_zero]; rfl
    · rw [lenB_pos h, beN_snoc, ih (n / 256) (by omega), byte_mod]; omega
theorem lenB_len : ∀ (k n : Nat), n < 256 ^ k → (lenB n).length ≤ k
  | 0, n, h => by
    obtain rfl : n = 0 := by simp at h; exact h
    rw [lenB_zero]; simp
  | k + 1, n, h => by
    by_cases h0 : n = 0
    · subst h0; rw [lenB_zero]; simp
    · rw [lenB_pos h0]
      have := lenB_len k (n / 256) (by rw [Nat.pow_succ] at h; omega)
      simp; omega
theorem lenB_one {n : Nat} (h : n ≠ 0) : 1 ≤ (lenB n).length := by rw [lenB_pos h]; simp
theorem getD_snoc {α : Type} (l : List α) (q d : α) (h : l ≠ []) : (l ++ [q]).getD 0 d = l.getD 0 d := by
  cases l with
  | nil => exact absurd rfl h
  | cons x r => rfl
theorem lenB_head (n : Nat) : n ≠ 0 → (lenB n).getD 0 0 ≠ 0 := by
  induction n using Nat.strongRecOn with
  | _ n ih =>
    intro h
    rw [lenB_pos h]
    by_cases h2 : n / 256 = 0
    · rw [h2, lenB_zero]
      intro e
      have e2 := congrArg UInt8.toNat e
      simp only [List.nil_append, List.getD_cons_zero] at e2
      rw [byte_mod] at e2
      have : (0 : UInt8).toNat = 0 := rfl
      omega
    · rw [getD_snoc _ _ _ (by intro e; have := lenB_one h2; rw [e] at this; simp at this)]
      exact ih _ (by omega) h2
theorem lenB_beN : ∀ (k : Nat) (l : List UInt8), l.length = k → (l ≠ [] → l.getD 0 0 ≠ 0) → lenB (beN l) = l
  | 0, l, h, _ => by
    obtain rfl : l = [] := List.length_eq_zero_iff.1 h
    exact lenB_zero
  | k + 1, l, h, hz => by
    obtain ⟨r, q, rfl, hr⟩ := snoc_of l k h
    have hq := q.toNat_lt
    have hz := hz (by simp)
    have hne : beN (r ++ [q]) ≠ 0 := by
      rw [beN_snoc]
      intro e
      by_cases h0 : r = []
      · subst h0
        have : q.toNat = 0 := by omega
        exact hz (by simpa using UInt8.toNat_inj.1 (this.trans rfl))
      · rw [getD_snoc _ _ _ h0] at hz
        have e1 : beN r = 0 := by omega
        have := lenB_beN k r hr (fun _ => hz)
        rw [e1, lenB_zero] at this
        exact h0 this.symm
    have hrz : r ≠ [] → r.getD 0 0 ≠ 0 := fun h0 => by rwa [getD_snoc _ _ _ h0] at hz
    rw [lenB_pos hne, beN_snoc, show (beN r * 256 + q.toNat) / 256 = beN r by omega, show (beN r * 256 + q.toNat) % 256 = q.toNat by omega, lenB_beN k r hr hrz]
    simp

/-- A byte, as a number. -/
def nth (bs : List UInt8) (i : Nat) : Nat := (bs.getD i 0).toNat
/-- Where the body of the element begins with which bytes begin, and where it ends. -/
def splitQ (bs : List UInt8) : Option (Nat × Nat) :=
  if bs.length < 2 ∨ nth bs 0 % 32 = 31 then none
  else if nth bs 1 < 128 then (if nth bs 1 ≤ bs.length - 2 then some (2, 2 + nth bs 1) else none)
  else if nth bs 1 = 128 ∨ 132 < nth bs 1 ∨ bs.length < 2 + (nth bs 1 - 128) ∨ nth bs 2 = 0 then none
  else if beN ((bs.drop 2).take (nth bs 1 - 128)) < 128 ∨ bs.length - 2 - (nth bs 1 - 128) < beN ((bs.drop 2).take (nth bs 1 - 128)) then none
  else some (2 + (nth bs 1 - 128), 2 + (nth bs 1 - 128) + beN ((bs.drop 2).take (nth bs 1 - 128)))
theorem splitQ_le {bs : List UInt8} {s e : Nat} (h : splitQ bs = some (s, e)) : 2 ≤ s ∧ s ≤ e ∧ e ≤ bs.length := by
  unfold splitQ at h
  split at h; cases h
  split at h
  · split at h
    · simp at h; omega
    · cases h
  split at h; cases h
  split at h; cases h
  simp at h; omega
/-- An element's bytes. -/
def wrQ (tag : UInt8) (b : List UInt8) : List UInt8 :=
  if b.length < 128 then tag :: UInt8.ofNat b.length :: b else tag :: UInt8.ofNat (128 + (lenB b.length).length) :: (lenB b.length ++ b)
theorem split_wr (tag : UInt8) (b more : List UInt8) (ht : tag.toNat % 32 ≠ 31) (hb : b.length < 4294967296) :
    splitQ (wrQ tag b ++ more) = some ((wrQ tag b).length - b.length, (wrQ tag b).length) := by
  by_cases h1 : b.length < 128
  · have e1 : wrQ tag b = tag :: UInt8.ofNat b.length :: b := by unfold wrQ; rw [if_pos h1]
    have n0 : nth (wrQ tag b ++ more) 0 = tag.toNat := by rw [e1]; rfl
    have n1 : nth (wrQ tag b ++ more) 1 = b.length := by
      rw [e1]; show (UInt8.ofNat b.length).toNat = _
      rw [UInt8.toNat_ofNat']; omega
    have l1 : (wrQ tag b).length = b.length + 2 := by rw [e1]; simp
    unfold splitQ
    rw [n0, n1, if_neg (by simp; omega), if_pos h1, if_pos (by simp; omega), l1]
    simp; omega
  · have e1 : wrQ tag b = tag :: UInt8.ofNat (128 + (lenB b.length).length) :: (lenB b.length ++ b) := by unfold wrQ; rw [if_neg h1]
    have hk := lenB_len 4 b.length (by simpa using hb)
    have hk1 := lenB_one (n := b.length) (by omega)
    have hh := lenB_head b.length (by omega)
    have hv := beN_lenB b.length
    generalize hL : lenB b.length = L at *
    have n0 : nth (wrQ tag b ++ more) 0 = tag.toNat := by rw [e1]; rfl
    have n1 : nth (wrQ tag b ++ more) 1 = 128 + L.length := by
      rw [e1]; show (UInt8.ofNat (128 + L.length)).toNat = _
      rw [UInt8.toNat_ofNat']; omega
    have n2 : nth (wrQ tag b ++ more) 2 ≠ 0 := by
      rw [e1]
      cases L with
      | nil => simp at hk1
      | cons x r =>
        show x.toNat ≠ 0
        intro e
        exact hh (by simpa using UInt8.toNat_inj.1 (e.trans rfl))
    have l1 : (wrQ tag b).length = b.length + L.length + 2 := by rw [e1]; simp; omega
    have t1 : ((wrQ tag b ++ more).drop 2).take L.length = L := by rw [e1]; simp
    have l2 : (wrQ tag b ++ more).length = b.length + L.length + 2 + more.length := by rw [List.length_append, l1]
    unfold splitQ
    rw [n0, n1, l2, if_neg (by omega), if_neg (by omega), if_neg (by omega), show 128 + L.length - 128 = L.length by omega, t1, hv, if_neg (by omega), l1]
    simp only [Option.some.injEq, Prod.mk.injEq]; omega
theorem wr_split {bs : List UInt8} {s e : Nat} (h : splitQ bs = some (s, e)) : bs.take e = wrQ (bs.getD 0 0) ((bs.take e).drop s) := by
  obtain ⟨h2, hse, hel⟩ := splitQ_le h
  obtain ⟨t, l, r, rfl⟩ : ∃ t l r, bs = t :: l :: r := by
    match bs, hel with
    | [], h => simp at h; omega
    | [_], h => simp at h; omega
    | t :: l :: r, _ => exact ⟨t, l, r, rfl⟩
  have hl := l.toNat_lt
  have n1 : nth (t :: l :: r) 1 = l.toNat := rfl
  unfold splitQ at h
  rw [n1] at h
  split at h; cases h
  split at h
  · rename_i h3
    split at h
    · rename_i h4
      simp at h h4
      obtain ⟨rfl, rfl⟩ := h
      have : ((t :: l :: r).take (2 + l.toNat)).drop 2 = r.take l.toNat := by rw [Nat.add_comm]; rfl
      rw [this]
      unfold wrQ
      have hlen : (r.take l.toNat).length = l.toNat := by simp; omega
      rw [hlen, if_pos h3, Nat.add_comm]
      simp
    · cases h
  split at h; cases h
  rename_i h3 h4
  split at h; cases h
  rename_i h5
  simp only [List.length_cons] at h4 h5 hel
  generalize hk : l.toNat - 128 = k at *
  have hd : (t :: l :: r).drop 2 = r := rfl
  rw [hd] at h h5
  simp only [Option.some.injEq, Prod.mk.injEq] at h
  obtain ⟨rfl, rfl⟩ := h
  have hkl : (r.take k).length = k := by simp; omega
  have hz : (r.take k).getD 0 0 ≠ 0 := by
    intro e0
    have h6 : ¬ nth (t :: l :: r) 2 = 0 := fun e9 => h4 (.inr (.inr (.inr e9)))
    apply h6
    cases r with
    | nil => rfl
    | cons x r' =>
      cases k with
      | zero => omega
      | succ k' =>
        simp at e0
        show x.toNat = 0
        rw [e0]; rfl
  have hL := lenB_beN k (r.take k) hkl (fun _ => hz)
  generalize hm : beN (r.take k) = m at *
  have hb : ((t :: l :: r).take (2 + k + m)).drop (2 + k) = (r.drop k).take m := by
    rw [show 2 + k + m = (k + m) + 1 + 1 by omega, show 2 + k = k + 1 + 1 by omega]
    simp only [List.take_succ_cons, List.drop_succ_cons]
    rw [List.drop_take, show k + m - k = m by omega]
  have hbl : ((r.drop k).take m).length = m := by simp; omega
  rw [hb]
  unfold wrQ
  rw [hbl, if_neg (by omega), hL, hkl, show 128 + k = l.toNat by omega, show 2 + k + m = (k + m) + 1 + 1 by omega]
  simp only [List.take_succ_cons]
  rw [List.take_add]
  simp
end Go.Proofs.Ytomolfdcdmncoaa
namespace Go.Proofs.Ytomolfdcdmncoaa
open Go.RowKit Go
set_option linter.unusedVariables false
set_option maxRecDepth 100000
theorem or8i (X : Int) (q : UInt8) (h0 : 0 ≤ X) (h1 : X < 16777216) : bits BinOp.or IntKind.i64 (X * 256) (q.toNat : Int) = X * 256 + (q.toNat : Int) := by
  have hq := q.toNat_lt
  exact bits_join .i64 63 (by decide) (fun n h₀ h₁ => by rw [IntKind.wrap_i64]; omega) 8 (X * 256) (q.toNat : Int) (by omega) (by omega) (by omega) (by omega) (by omega) (by omega)
theorem and31 (p : UInt8) : bits BinOp.and IntKind.u8 (p.toNat : Int) 31 = (p.toNat : Int) % 32 := by
  have hp := p.toNat_lt
  have := u8_and_nat p.toNat 31 (by omega) (by omega)
  rw [nat_mask5] at this
  exact this.trans (by omega)
def SplitPost (w : World) (bs : List UInt8) (e : Ending) (w' : World) : Prop :=
  (match splitQ bs with
    | some (s, t) => e = .returned (.tuple #[.int .i64 (s : Nat), .int .i64 (t : Nat), .bool true])
    | none => ∃ s t : Int, e = .returned (.tuple #[.int .i64 s, .int .i64 t, .bool false])) ∧ ∃ k, w' = w.drewN k
theorem split_no {w w' : World} {bs : List UInt8} {s t : Int} (h : splitQ bs = none) (k : Nat) (hw : w' = w.drewN k) : SplitPost w bs (.returned (.tuple #[.int .i64 s, .int .i64 t, .bool false])) w' := by
  unfold SplitPost; rw [h]; exact ⟨⟨s, t, rfl⟩, k, hw⟩
theorem split_yes {w w' : World} {bs : List UInt8} {s t : Nat} (h : splitQ bs = some (s, t)) (k : Nat) (hw : w' = w.drewN k) : SplitPost w bs (.returned (.tuple #[.int .i64 (s : Nat), .int .i64 (t : Nat), .bool true])) w' := by
  unfold SplitPost; rw [h]; exact ⟨rfl, k, hw⟩
theorem split_s (A : Option Addr) (n c : Nat) (bs : List UInt8) (w : World) (h : splitQ bs = none) (h2 : n < 2) :
    Calls Try.prog 71 #[.slice A n c] w (SplitPost w bs) := by
  have H := Lib.hid h
  clear h
  go_enter Try.func71, Try.ntmps71
  go_wp2
  go_ret3
  exact split_no H.out 0 rfl
theorem split_t (b off n c : Nat) (bs : List UInt8) (w : World) (h : splitQ bs = none) (hn : n ≤ 140737488355328) (h2 : 2 ≤ n) (p : UInt8) (h0 : w.cell? ⟨b, off, none⟩ = some (.int .u8 (p.toNat : Int))) (hp : p.toNat % 32 = 31) :
    Calls Try.prog 71 #[.slice (some ⟨b, off, none⟩) n c] w (SplitPost w bs) := by
  have H := Lib.hid h
  clear h
  have ha := and31 p
  have hp31 : ((p.toNat : Int) % 32 == 31) = true := by simp; omega
  go_enter Try.func71, Try.ntmps71
  go_wp2
  go_ret3
  exact split_no H.out 0 rfl
theorem split_short (b off n c : Nat) (bs : List UInt8) (w : World) (hn : n ≤ 140737488355328) (h2 : 2 ≤ n) (p q : UInt8) (h0 : w.cell? ⟨b, off, none⟩ = some (.int .u8 (p.toNat : Int))) (hp : p.toNat % 32 ≠ 31)
    (h1 : w.cell? ⟨b, off + 1, none⟩ = some (.int .u8 (q.toNat : Int))) (hq : q.toNat < 128)
    (h : splitQ bs = if q.toNat ≤ n - 2 then some (2, 2 + q.toNat) else none) :
    Calls Try.prog 71 #[.slice (some ⟨b, off, none⟩) n c] w (SplitPost w bs) := by
  have H := Lib.hid h
  clear h
  have ha := and31 p
  have hp31 : ((p.toNat : Int) % 32 == 31) = false := by simp; omega
  by_cases hfit : q.toNat ≤ n - 2
  · have hle : decide (((q.toNat : Nat) : Int) ≤ (n : Int) - 2) = true := by simp; omega
    go_enter Try.func71, Try.ntmps71
    go_wp2
    go_quiet (fail)
    go_wp2
    go_ret3
    exact split_yes (s := 2) (t := 2 + q.toNat) (H.out.trans (if_pos hfit)) _ rfl
  · have hle : decide (((q.toNat : Nat) : Int) ≤ (n : Int) - 2) = false := by simp; omega
    go_enter Try.func71, Try.ntmps71
    go_wp2
    go_quiet (fail)
    go_wp2
    go_ret3
    exact split_no (H.out.trans (if_neg hfit)) _ rfl
theorem split_long_no (b off n c : Nat) (bs : List UInt8) (w : World) (hn : n ≤ 140737488355328) (h2 : 2 ≤ n) (p q : UInt8) (h0 : w.cell? ⟨b, off, none⟩ = some (.int .u8 (p.toNat : Int))) (hp : p.toNat % 32 ≠ 31)
    (h1 : w.cell? ⟨b, off + 1, none⟩ = some (.int .u8 (q.toNat : Int))) (hq : 128 ≤ q.toNat) (h : splitQ bs = none) (hno : q.toNat = 128 ∨ 132 < q.toNat ∨ n < 2 + (q.toNat - 128)) :
    Calls Try.prog 71 #[.slice (some ⟨b, off, none⟩) n c] w (SplitPost w bs) := by
  have H := Lib.hid h
  clear h
  have ha := and31 p
  have hp31 : ((p.toNat : Int) % 32 == 31) = false := by simp; omega
  have hqb : (q.toNat : Int) ≤ 255 := by have := q.toNat_lt; omega
  by_cases a1 : q.toNat = 128
  · have e1 : (q.toNat : Int) ≤ 128 := by omega
    have e2 : (128 : Int) ≤ (q.toNat : Int) := by omega
    clear hno a1
    go_enter Try.func71, Try.ntmps71
    go_wp2
    go_ret3
    exact split_no H.out 0 rfl
  by_cases a2 : 132 < q.toNat
  · clear hno
    go_enter Try.func71, Try.ntmps71
    go_wp2
    go_ret3
    exact split_no H.out 0 rfl
  · have a3 : n < 2 + (q.toNat - 128) := by omega
    clear hno
    go_enter Try.func71, Try.ntmps71
    go_wp2
    go_ret3
    exact split_no H.out 0 rfl
end Go.Proofs.Ytomolfdcdmncoaa
namespace Go.Proofs.Ytomolfdcdmncoaa
open Go.RowKit Go
set_option linter.unusedVariables false
set_option maxRecDepth 100000
theorem split_z (b off n c : Nat) (bs : List UInt8) (w : World) (hn : n ≤ 140737488355328) (p q z : UInt8) (k : Nat) (h0 : w.cell? ⟨b, off, none⟩ = some (.int .u8 (p.toNat : Int))) (hp : p.toNat % 32 ≠ 31)
    (h1 : w.cell? ⟨b, off + 1, none⟩ = some (.int .u8 (q.toNat : Int))) (hq : q.toNat = 128 + k) (hk1 : 1 ≤ k) (hk4 : k ≤ 4) (hkn : 2 + k ≤ n)
    (h2 : w.cell? ⟨b, off + 2, none⟩ = some (.int .u8 (z.toNat : Int))) (hz : z.toNat = 0) (h : splitQ bs = none) :
    Calls Try.prog 71 #[.slice (some ⟨b, off, none⟩) n c] w (SplitPost w bs) := by
  have H := Lib.hid h
  clear h
  have ha := and31 p
  have hp31 : ((p.toNat : Int) % 32 == 31) = false := by simp; omega
  have hqk : (q.toNat : Int) - 128 = (k : Int) := by omega
  have hq1 : (128 : Int) ≤ (q.toNat : Int) := by omega
  have hq2 : (q.toNat : Int) ≤ 132 := by omega
  have hz2 : ((z.toNat : Int) == 0) = true := by simp; omega
  clear hq
  go_enter Try.func71, Try.ntmps71
  go_wp2
  go_ret3
  exact split_no H.out 0 rfl
theorem split_long (b off n c : Nat) (bs : List UInt8) (w : World) (hn : n ≤ 140737488355328) (p q z : UInt8) (k : Nat) (h0 : w.cell? ⟨b, off, none⟩ = some (.int .u8 (p.toNat : Int))) (hp : p.toNat % 32 ≠ 31)
    (h1 : w.cell? ⟨b, off + 1, none⟩ = some (.int .u8 (q.toNat : Int))) (hq : q.toNat = 128 + k) (hk1 : 1 ≤ k) (hk4 : k ≤ 4) (hkn : 2 + k ≤ n) (hnc : n ≤ c)
    (h2 : w.cell? ⟨b, off + 2, none⟩ = some (.int .u8 (z.toNat : Int))) (hz : z.toNat ≠ 0)
    (hc : ∀ j, j < k → ∃ y : UInt8, (bs.drop 2)[j]? = some y ∧ w.cell? ⟨b, off + 2 + j, none⟩ = some (.int .u8 (y.toNat : Int))) (M : Nat) (hM : beN ((bs.drop 2).take k) = M)
    (h : splitQ bs = if M < 128 ∨ n - 2 - k < M then none else some (2 + k, 2 + k + M)) :
    Calls Try.prog 71 #[.slice (some ⟨b, off, none⟩) n c] w (SplitPost w bs) := by
  have H := Lib.hid h
  have HC := Lib.hid hc
  have HM := Lib.hid hM
  clear h hc hM
  have ha := and31 p
  have hp31 : ((p.toNat : Int) % 32 == 31) = false := by simp; omega
  have hqk : (q.toNat : Int) - 128 = (k : Int) := by omega
  have hq1 : (128 : Int) ≤ (q.toNat : Int) := by omega
  have hq2 : (q.toNat : Int) ≤ 132 := by omega
  have hz2 : ((z.toNat : Int) == 0) = false := by simp; omega
  clear hq
  go_enter Try.func71, Try.ntmps71
  go_wp2
  go_loop [6, 65] (fun x i => ∃ j X : Nat, j ≤ k ∧ i = .int .i64 j ∧ x = .int .i64 X ∧ Hid (X = beN ((bs.drop 2).take j)) ∧ X < 256 ^ j) (fun _ i => k - (intOf i).toNat)
  case atStart => exact ⟨0, 0, Nat.zero_le _, rfl, rfl, rfl, by decide⟩
  case round =>
    obtain ⟨j, X, hj, rfl, rfl, HX, hX⟩ := hrel
    have hX4 : X < 256 ^ k := Nat.lt_of_lt_of_le hX (Nat.pow_le_pow_right (by decide) hj)
    have hX5 : X < 256 ^ 4 := Nat.lt_of_lt_of_le hX4 (Nat.pow_le_pow_right (by decide) hk4)
    have hX6 : X < 4294967296 := by simpa using hX5
    clear hX4 hX5
    by_cases hlt : j < k
    · obtain ⟨y, hy, hcell⟩ := HC.out j hlt
      have hX3 : X < 256 ^ 3 := Nat.lt_of_lt_of_le hX (Nat.pow_le_pow_right (by decide) (by omega))
      have hX7 : X < 16777216 := by simpa using hX3
      clear hX3
      have hyb : (y.toNat : Int) ≤ 255 := by have := y.toNat_lt; omega
      have hor := or8i (X : Int) y (by omega) (by omega)
      have HN : Hid (X * 256 + y.toNat = beN ((bs.drop 2).take (j + 1))) := by
        have hj2 : j < (bs.drop 2).length := by
          rcases Nat.lt_or_ge j (bs.drop 2).length with h | h
          · exact h
          · rw [List.getElem?_eq_none h] at hy; cases hy
        have ht : (bs.drop 2).take (j + 1) = (bs.drop 2).take j ++ [y] := by
          rw [List.take_add_one, hy]; rfl
        unfold Hid
        rw [ht, beN_snoc, ← HX.out]
      have HP : X * 256 + y.toNat < 256 ^ (j + 1) := by
        rw [Nat.pow_succ]; omega
      have HP := Lib.hid HP
      clear hy hX
      go_wp2
      go_round
      case rel => exact ⟨j + 1, X * 256 + y.toNat, by omega, by go_num, by go_num, HN, HP.out⟩
      case measure => simp [intOf]; omega
    · obtain rfl : j = k := by omega
      obtain rfl : X = M := HX.out.trans HM.out
      clear hX
      by_cases m1 : X < 128
      · go_wp2
        go_ret3
        exact split_no (H.out.trans (if_pos (.inl m1))) 0 rfl
      by_cases m2 : n - 2 - j < X
      · have hi : (n : Int) - 2 - (j : Int) < (X : Int) := by omega
        go_wp2
        go_ret3
        exact split_no (H.out.trans (if_pos (.inr m2))) 0 rfl
      · have hi : (X : Int) ≤ (n : Int) - 2 - (j : Int) := by omega
        go_wp2
        go_ret3
        exact split_yes (s := 2 + j) (t := 2 + j + X) (H.out.trans (if_neg (by omega))) 0 rfl
theorem split_any (A : Option Addr) (n c : Nat) (bs : List UInt8) (w : World) (hR : RB w A n bs) (hnc : n ≤ c) (hn : n ≤ 140737488355328) :
    Calls Try.prog 71 #[.slice A n c] w (SplitPost w bs) := by
  have hl := hR.1
  by_cases h2 : n < 2
  · exact split_s A n c bs w (by unfold splitQ; rw [if_pos (by omega)]) h2
  obtain ⟨b, off, p, rfl, hb, hp, c0⟩ := hR.at_ (k := 0) (by omega)
  obtain ⟨b', off', q, e', _, hq, c1⟩ := hR.at_ (k := 1) (by omega)
  cases e'
  have n0 : nth bs 0 = p.toNat := by unfold nth; rw [List.getD_eq_getElem?_getD, hp]; rfl
  have n1 : nth bs 1 = q.toNat := by unfold nth; rw [List.getD_eq_getElem?_getD, hq]; rfl
  have hqb := q.toNat_lt
  by_cases ht : p.toNat % 32 = 31
  · exact split_t b off n c bs w (by unfold splitQ; rw [n0, if_pos (.inr ht)]) hn (by omega) p c0 ht
  by_cases hs : q.toNat < 128
  · exact split_short b off n c bs w hn (by omega) p q c0 ht c1 hs (by unfold splitQ; rw [n0, n1, hl, if_neg (by omega), if_pos hs])
  by_cases hno : q.toNat = 128 ∨ 132 < q.toNat ∨ n < 2 + (q.toNat - 128)
  · refine split_long_no b off n c bs w hn (by omega) p q c0 ht c1 (by omega) ?_ hno
    unfold splitQ
    rw [n0, n1, hl, if_neg (by omega), if_neg hs, if_pos (by rcases hno with h | h | h; exact .inl h; exact .inr (.inl h); exact .inr (.inr (.inl h)))]
  obtain ⟨k, hk⟩ : ∃ k, q.toNat = 128 + k := ⟨q.toNat - 128, by omega⟩
  have hk' : q.toNat - 128 = k := by omega
  rw [hk'] at hno
  obtain ⟨b', off', z, e', _, hz, c2⟩ := hR.at_ (k := 2) (by omega)
  cases e'
  have n2 : nth bs 2 = z.toNat := by unfold nth; rw [List.getD_eq_getElem?_getD, hz]; rfl
  by_cases hz0 : z.toNat = 0
  · refine split_z b off n c bs w hn p q z k c0 ht c1 hk (by omega) (by omega) (by omega) c2 hz0 ?_
    unfold splitQ
    rw [n0, n1, n2, hl, if_neg (by omega), if_neg hs, if_pos (.inr (.inr (.inr hz0)))]
  · refine split_long b off n c bs w hn p q z k c0 ht c1 hk (by omega) (by omega) (by omega) hnc c2 hz0 (fun j hj => ?_) _ rfl ?_
    · obtain ⟨b', off', y, e', _, hy, cy⟩ := hR.at_ (k := 2 + j) (by omega)
      cases e'
      exact ⟨y, by rw [List.getElem?_drop]; exact hy, by rw [Nat.add_assoc]; exact cy⟩
    · unfold splitQ
      rw [n0, n1, n2, hl, if_neg (by omega), if_neg hs, if_neg (by omega), hk']
end Go.Proofs.Ytomolfdcdmncoaa
namespace Go.Proofs.Ytomolfdcdmncoaa
open Go.RowKit Go
set_option linter.unusedVariables false
set_option maxRecDepth 100000
/-- The number of seven bits a byte with which bytes begin, and how many bytes it has. -/
def numG : List UInt8 → Nat → Nat → Option (Nat × Nat)
  | [], _, _ => none
  | d :: r, x, i => if (i = 0 ∧ d.toNat = 128) ∨ 144115188075855871 < x then none else if d.toNat < 128 then some (x * 128 + d.toNat, i + 1) else numG r (x * 128 + (d.toNat - 128)) (i + 1)
def numQ (bs : List UInt8) : Option (Nat × Nat) := numG bs 0 0
theorem numG_cons (d : UInt8) (r : List UInt8) (x i : Nat) : numG (d :: r) x i = if (i = 0 ∧ d.toNat = 128) ∨ 144115188075855871 < x then none else if d.toNat < 128 then some (x * 128 + d.toNat, i + 1) else numG r (x * 128 + (d.toNat - 128)) (i + 1) := rfl
theorem not128 (d : UInt8) : bits BinOp.andNot IntKind.u8 (d.toNat : Int) 128 = (d.toNat : Int) % 128 := by
  have hd := d.toNat_lt
  have := u8_andNot_nat d.toNat 128 (by omega) (by omega)
  rw [show 255 - 128 = 127 from rfl, nat_mask7] at this
  exact this.trans (by omega)
theorem and128 (d : UInt8) : bits BinOp.and IntKind.u8 (d.toNat : Int) 128 = (d.toNat : Int) / 128 * 128 := by
  have hd := d.toNat_lt
  have := u8_and_nat d.toNat 128 (by omega) (by omega)
  rw [show 128 = 2 ^ 7 from rfl, nat_bit 7] at this
  exact this.trans (by omega)
theorem or7 (X : Int) (d : Int) (h0 : 0 ≤ X) (h1 : X ≤ 144115188075855871) (h2 : 0 ≤ d) (h3 : d < 128) : bits BinOp.or IntKind.u64 (X * 128) d = X * 128 + d :=
  bits_join .u64 64 (by decide) (fun n h₀ h₁ => by rw [IntKind.wrap_u64]; omega) 7 (X * 128) d (by omega) (by omega) (by omega) (by omega) (by omega) (by omega)
def NumPost (w : World) (bs : List UInt8) (e : Ending) (w' : World) : Prop :=
  (match numQ bs with
    | some (x, n) => e = .returned (.tuple #[.int .u64 (x : Nat), .int .i64 (n : Nat), .bool true])
    | none => e = .returned (.tuple #[.int .u64 0, .int .i64 0, .bool false])) ∧ w = w'
theorem num_no {w : World} {bs : List UInt8} (h : numQ bs = none) : NumPost w bs (.returned (.tuple #[.int .u64 0, .int .i64 0, .bool false])) w := by
  unfold NumPost; rw [h]; exact ⟨rfl, rfl⟩
theorem num_yes {w : World} {bs : List UInt8} {x n : Nat} {X N : Int} (h : numQ bs = some (x, n)) (h1 : X = (x : Int)) (h2 : N = (n : Int)) : NumPost w bs (.returned (.tuple #[.int .u64 X, .int .i64 N, .bool true])) w := by
  subst h1; subst h2
  unfold NumPost; rw [h]; exact ⟨rfl, rfl⟩
theorem number_any (A : Option Addr) (n c : Nat) (bs : List UInt8) (w : World) (hR : RB w A n bs) (hn : n ≤ 140737488355328) :
    Calls Try.prog 95 #[.slice A n c] w (NumPost w bs) := by
  have HL := Lib.hid hR.1
  go_enter Try.func95, Try.ntmps95
  go_wp2
  go_loop [2, 9] (fun x i => ∃ j X : Nat, j ≤ n ∧ i = .int .i64 j ∧ x = .int .u64 X ∧ X < 18446744073709551616 ∧ Hid (numQ bs = numG (bs.drop j) X j)) (fun _ i => n - (intOf i).toNat)
  case atStart => exact ⟨0, 0, Nat.zero_le _, rfl, rfl, by decide, rfl⟩
  case round =>
    obtain ⟨j, X, hj, rfl, rfl, hX, HQ⟩ := hrel
    by_cases hlt : j < n
    · obtain ⟨b, off, d, rfl, hb, hd, hcell⟩ := hR.at_ hlt
      have hdb := d.toNat_lt
      have HD : Hid (bs.drop j = d :: bs.drop (j + 1)) := by
        have hj2 : j < bs.length := by rw [HL.out]; exact hlt
        rw [List.getElem?_eq_getElem hj2] at hd
        injection hd with hd
        unfold Hid
        rw [List.drop_eq_getElem_cons hj2, hd]
      clear hd
      have hnot := not128 d
      have hand := and128 d
      have HS : Hid (numQ bs = if (j = 0 ∧ d.toNat = 128) ∨ 144115188075855871 < X then none else if d.toNat < 128 then some (X * 128 + d.toNat, j + 1) else numG (bs.drop (j + 1)) (X * 128 + (d.toNat - 128)) (j + 1)) := by
        have := HQ.out
        rw [HD.out, numG_cons] at this
        exact this
      clear HQ HD
      by_cases hbad : j = 0 ∧ d.toNat = 128
      · obtain ⟨b1, b2⟩ := hbad
        have t1 : ((j : Int) == 0) = true := by simp; omega
        have t2 : ((d.toNat : Int) == 128) = true := by simp; omega
        have HN := Lib.hid (HS.out.trans (if_pos (.inl ⟨b1, b2⟩)))
        clear b1 b2 hX
        go_wp2
        go_ret3
        exact num_no HN.out
      by_cases hbig : 144115188075855871 < X
      · have HN := Lib.hid (HS.out.trans (if_pos (.inr hbig)))
        have hbig2 : (144115188075855871 : Int) < (X : Int) := by omega
        by_cases b1 : j = 0
        · have t1 : ((j : Int) == 0) = true := by simp; omega
          have t2 : ((d.toNat : Int) == 128) = false := by simp; omega
          clear b1 hbad
          go_wp2
          go_ret3
          exact num_no HN.out
        · have t1 : ((j : Int) == 0) = false := by simp; omega
          clear b1 hbad
          go_wp2
          go_ret3
          exact num_no HN.out
      have HN := Lib.hid (HS.out.trans (if_neg (by omega)))
      have hsm : (X : Int) ≤ 144115188075855871 := by omega
      have hor := or7 (X : Int) ((d.toNat : Int) % 128) (by omega) hsm (by omega) (by omega)
      by_cases hend : d.toNat < 128
      · have HN := Lib.hid (HN.out.trans (if_pos hend))
        have z1 : ((d.toNat : Int) / 128 * 128 == 0) = true := by simp; omega
        by_cases b1 : j = 0
        · have t1 : ((j : Int) == 0) = true := by simp; omega
          have t2 : ((d.toNat : Int) == 128) = false := by simp; omega
          clear b1 hbad hbig
          go_wp2
          go_ret3
          exact num_yes HN.out (by omega) (by omega)
        · have t1 : ((j : Int) == 0) = false := by simp; omega
          clear b1 hbad hbig
          go_wp2
          go_ret3
          exact num_yes HN.out (by omega) (by omega)
      · have HN := Lib.hid (HN.out.trans (if_neg hend))
        have z1 : ((d.toNat : Int) / 128 * 128 == 0) = false := by simp; omega
        by_cases b1 : j = 0
        · have t1 : ((j : Int) == 0) = true := by simp; omega
          have t2 : ((d.toNat : Int) == 128) = false := by simp; omega
          clear b1 hbad hbig
          go_wp2
          go_round
          case rel => exact ⟨j + 1, X * 128 + (d.toNat - 128), by omega, by go_num, by congr 1; omega, by omega, HN⟩
          case measure => simp [intOf]; omega
        · have t1 : ((j : Int) == 0) = false := by simp; omega
          clear b1 hbad hbig
          go_wp2
          go_round
          case rel => exact ⟨j + 1, X * 128 + (d.toNat - 128), by omega, by go_num, by congr 1; omega, by omega, HN⟩
          case measure => simp [intOf]; omega
    · obtain rfl : j = n := by omega
      have HN := Lib.hid (show numQ bs = none by
        rw [HQ.out, List.drop_of_length_le (by rw [HL.out]; exact Nat.le_refl _)]; rfl)
      go_wp2
      go_ret3
      exact num_no HN.out
end Go.Proofs.Ytomolfdcdmncoaa
namespace Go.Proofs.Ytomolfdcdmncoaa
open Go.RowKit Go
set_option linter.unusedVariables false
set_option maxRecDepth 100000
/-- Bytes without the noughts ahead. -/
def trimZ : List UInt8 → List UInt8
  | [] => []
  | d :: r => if d.toNat = 0 then trimZ r else d :: r
theorem trimZ_cons (d : UInt8) (r : List UInt8) : trimZ (d :: r) = if d.toNat = 0 then trimZ r else d :: r := rfl
theorem without_any (A : Option Addr) (n c : Nat) (bs : List UInt8) (w : World) (hR : RB w A n bs) (hnc : n ≤ c) (hc : c ≤ maxLen) :
    Calls Try.prog 91 #[.slice A n c] w fun e w' => (∃ A' n' c', e = .returned (.slice A' n' c') ∧ RB w A' n' (trimZ bs) ∧ n' ≤ c' ∧ c' ≤ c) ∧ w = w' := by
  have hc2 : c ≤ 9223372036854775807 := by unfold maxLen at hc; omega
  go_enter Try.func91, Try.ntmps91
  go_wp2
  go_loop [0] (fun v => ∃ (A' : Option Addr) (n' c' : Nat) (l : List UInt8), v = .slice A' n' c' ∧ RB w A' n' l ∧ n' ≤ c' ∧ c' ≤ c ∧ Hid (trimZ bs = trimZ l)) (fun v => match v with | .slice _ k _ => k | _ => 0)
  case atStart => exact ⟨A, n, c, bs, rfl, hR, hnc, Nat.le_refl _, rfl⟩
  case round =>
    obtain ⟨A', n', c', l, rfl, hR', hnc', hcc, HT⟩ := hrel
    by_cases h0 : 0 < n'
    · obtain ⟨b, off, d, rfl, hb, hd, hcell⟩ := hR'.at_ (k := 0) h0
      obtain ⟨r, rfl⟩ : ∃ r, l = d :: r := by
        cases l with
        | nil => simp at hd
        | cons x r => simp at hd; subst hd; exact ⟨r, rfl⟩
      have HR := Lib.hid hR'
      have hcell' : w.cell? ⟨b, off, none⟩ = some (.int .u8 (d.toNat : Int)) := hcell
      clear hcell hR' hd
      by_cases hz : d.toNat = 0
      · have t1 : ((d.toNat : Int) == 0) = true := by simp; omega
        have HT' := Lib.hid (HT.out.trans ((trimZ_cons d r).trans (if_pos hz)))
        have hlen := HR.out.1
        by_cases hcap : c' = 1
        · have hn1 : n' = 1 := by omega
          have hr : r = [] := by cases r with
            | nil => rfl
            | cons x y => simp at hlen; omega
          subst hr
          subst hcap
          subst hn1
          clear hz
          go_wp2
          go_round
          case rel => exact ⟨_, 0, _, [], rfl, RB.nil _ _, Nat.zero_le _, by omega, HT'⟩
          case measure => simp
        · have hRr : Hid (RB w (some ⟨b, off + 1, none⟩) (n' - 1) r) := by
            have h2 := HR.out.2.drop_ 1
            simp only [Option.map_some, Addr.add_lit] at h2
            exact ⟨by simp at hlen; omega, h2⟩
          have hc1 : 1 < c' := by omega
          clear hz hcap
          go_wp2
          go_round
          case rel => exact ⟨_, _, _, r, rfl, hRr.out, by omega, by omega, HT'⟩
          case measure => simp; omega
      · have t1 : ((d.toNat : Int) == 0) = false := by simp; omega
        have HT' := Lib.hid (HT.out.trans ((trimZ_cons d r).trans (if_neg hz)))
        clear hz
        go_wp2
        go_ret
        exact ⟨⟨_, _, _, rfl, by rw [HT'.out]; exact HR.out, hnc', hcc⟩, rfl⟩
    · have hl : l = [] := List.length_eq_zero_iff.1 (by have := hR'.1; omega)
      subst hl
      have hn0 : n' = 0 := by omega
      have HT' := Lib.hid HT.out
      subst hn0
      go_wp2
      go_ret
      exact ⟨⟨_, _, _, rfl, by rw [HT'.out]; exact hR', hnc', hcc⟩, rfl⟩
end Go.Proofs.Ytomolfdcdmncoaa
namespace Go.Proofs.Ytomolfdcdmncoaa
open Go.RowKit Go
set_option linter.unusedVariables false
set_option maxRecDepth 100000
/-- A list of slices of bytes in memory: row r is the slice X r, and reads as bss r. -/
def Parts (w : World) (A : Option Addr) (n : Nat) (X : Nat → Option Addr × Nat × Nat) (bss : Nat → List UInt8) : Prop :=
  0 < n → ∃ b off, A = some ⟨b, off, none⟩ ∧ b < w.heap.size ∧ ∀ r, r < n → w.cell? ⟨b, off + r, none⟩ = some (.slice (X r).1 (X r).2.1 (X r).2.2) ∧ RB w (X r).1 (X r).2.1 (bss r)
theorem Parts.below {w w' : World} {A : Option Addr} {n : Nat} {X : Nat → Option Addr × Nat × Nat} {bss : Nat → List UInt8} (h : Parts w A n X bss) {B : Nat} (hb : Below B w w') (hB : w.heap.size ≤ B) : Parts w' A n X bss := fun hn => by
  obtain ⟨b, off, rfl, hlt, hr⟩ := h hn
  exact ⟨b, off, rfl, Nat.lt_of_lt_of_le hlt hb.size, fun r hrn => ⟨(hb.cell (p := ⟨b, off + r, none⟩) (show b < B by omega)).trans (hr r hrn).1, (hr r hrn).2.below' hb hB⟩⟩
/-- The first k of them, one behind the other. -/
def joinN (bss : Nat → List UInt8) : Nat → List UInt8
  | 0 => []
  | k + 1 => joinN bss k ++ bss k
theorem joinN_succ (bss : Nat → List UInt8) (k : Nat) : joinN bss (k + 1) = joinN bss k ++ bss k := rfl
theorem joinN_mono (bss : Nat → List UInt8) (i : Nat) : ∀ j, i ≤ j → (joinN bss i).length ≤ (joinN bss j).length
  | 0, h => by obtain rfl : i = 0 := by omega
               exact Nat.le_refl _
  | j + 1, h => by
    rcases Nat.lt_or_ge j i with h1 | h1
    · obtain rfl : i = j + 1 := by omega
      exact Nat.le_refl _
    · have := joinN_mono bss i j h1
      rw [joinN_succ, List.length_append]; omega
theorem join_any (A : Option Addr) (m c : Nat) (X : Nat → Option Addr × Nat × Nat) (bss : Nat → List UInt8) (w : World) (hP : Parts w A m X bss) (hm : m ≤ 1000000) (hlen : (joinN bss m).length ≤ 140737488355328) :
    Calls Try.prog 73 #[.slice A m c] w (Fresh w (joinN bss m)) := by
  have HL := Lib.hid (fun i (h : i ≤ m) => joinN_mono bss i m h)
  have HP := Lib.hid hP
  clear hP
  go_enter Try.func73, Try.ntmps73
  go_wp2
  go_loop [3, 11] (fun x i => ∃ j : Nat, j ≤ m ∧ i = .int .i64 j ∧ x = .int .i64 ((joinN bss j).length : Nat)) (fun _ i => m - (intOf i).toNat)
  case atStart => exact ⟨0, Nat.zero_le _, rfl, rfl⟩
  case round =>
    obtain ⟨j, hj, rfl, rfl⟩ := hrel
    by_cases hlt : j < m
    · obtain ⟨b, off, rfl, hblt, hr⟩ := HP.out (by omega)
      obtain ⟨hcell, hR⟩ := hr j hlt
      have hsum : (joinN bss (j + 1)).length = (joinN bss j).length + (X j).2.1 := by rw [joinN_succ, List.length_append, hR.1]
      have hle := HL.out (j + 1) (by omega)
      have HS := Lib.hid hsum
      clear hr hR
      rw [hsum] at hle
      clear hsum
      go_wp2
      go_round
      case rel => exact ⟨j + 1, by omega, by go_num, by rw [HS.out]; go_num⟩
      case measure => simp [intOf]; omega
    · obtain rfl : j = m := by omega
      go_wp2_with (refine wpList_mk0 _ _ rfl rfl _ _ _ (joinN bss j).length rfl rfl (by omega) (by omega) ?_)
      intro w1 hown1 hg1
      have hb1 : Below w.heap.size w w1 := (Below.refl _ _).grown hg1 (Nat.le_refl _) (by intro g hg; cases hg)
      go_wp2
      go_loopw [6, 24] (fun v i wl => ∃ (k : Nat) (A2 : Option Addr) (n2 c2 : Nat), k ≤ j ∧ i = .int .i64 k ∧ v = .slice A2 n2 c2 ∧ OwnB wl w.heap.size A2 n2 c2 (joinN bss k) ∧ Below w.heap.size w wl) (fun _ i _ => j - (intOf i).toNat)
      case atStart => exact ⟨0, _, _, _, Nat.zero_le _, rfl, rfl, hown1, hb1⟩
      case round =>
        obtain ⟨k, A2, n2, c2, hk, rfl, rfl, hown, hbl⟩ := hrel
        clear hown1 hb1 hg1
        by_cases hlt2 : k < j
        · obtain ⟨b, off, rfl, hblt, hr⟩ := (Parts.below HP.out hbl (Nat.le_refl _)) (by omega)
          obtain ⟨hcell, hR⟩ := hr k hlt2
          have hle := HL.out (k + 1) (by omega)
          rw [joinN_succ, List.length_append, hR.1, hown.len] at hle
          have hsz := hbl.size
          clear hr
          go_wp2_with (at_builtin; refine wpList_apn _ _ rfl rfl rfl w.heap.size A2 n2 c2 _ rfl hown (X k).1 (X k).2.1 (X k).2.2 (bss k) rfl hR (by omega) (by omega) ?_)
          intro A3 c3 w3 hown3 hg3
          go_wp2
          go_roundw
          case rel => exact ⟨k + 1, A3, _, c3, by omega, by go_num, rfl, hown3, hbl.grown hg3 (by omega) (fun g hg => (hown.blk_lt hg).1)⟩
          case measure => simp [intOf]; omega
        · obtain rfl : k = j := by omega
          go_wp2
          go_ret
          exact ⟨A2, n2, c2, rfl, hown, hbl⟩
end Go.Proofs.Ytomolfdcdmncoaa
namespace Go.Proofs.Ytomolfdcdmncoaa
open Go.RowKit Go
set_option linter.unusedVariables false
set_option maxRecDepth 100000
/-- A slice and what it reads as. -/
abbrev Row1 := Option Addr × Nat × Nat × List UInt8
def Row1.val (x : Row1) : Value := .slice x.1 x.2.1 x.2.2.1
def Row1.nul : Row1 := (none, 0, 0, [])
theorem joinN_list (l : List Row1) : ∀ k, k ≤ l.length → joinN (fun r => (l.getD r Row1.nul).2.2.2) k = (l.take k).flatMap (fun x => x.2.2.2)
  | 0, _ => rfl
  | k + 1, h => by
    rw [joinN_succ, joinN_list l k (by omega), List.take_add_one, List.getElem?_eq_getElem (by omega), List.flatMap_append]
    congr 1
    simp [List.getD_eq_getElem?_getD, List.getElem?_eq_getElem (show k < l.length by omega)]
theorem joins_any (l : List Row1) (m : Nat) (cs : Array Value) (w : World) (g : Nat) (hg : w.heap.size = g) (hl : l.length = m) (hm : m ≤ 1000000) (hcs : cs.toList = l.map Row1.val) (hR : ∀ x ∈ l, RB w x.1 x.2.1 x.2.2.2)
    (hlen : (l.flatMap (fun x => x.2.2.2)).length ≤ 140737488355328) :
    Calls Try.prog 73 #[.slice (some ⟨g, 0, none⟩) m m] (w.alloc (.cells cs 22)) (Fresh w (l.flatMap (fun x => x.2.2.2))) := by
  subst hg
  have hj := joinN_list l m (by omega)
  rw [List.take_of_length_le (by omega)] at hj
  have hP : Parts (w.alloc (.cells cs 22)) (some ⟨w.heap.size, 0, none⟩) m (fun r => ((l.getD r Row1.nul).1, (l.getD r Row1.nul).2.1, (l.getD r Row1.nul).2.2.1)) (fun r => (l.getD r Row1.nul).2.2.2) := fun _ => by
    refine ⟨w.heap.size, 0, rfl, by simp, fun r hr => ?_⟩
    have hg : l.getD r Row1.nul = l[r]'(by omega) := by
      rw [List.getD_eq_getElem?_getD, List.getElem?_eq_getElem (by omega)]; rfl
    simp only [hg]
    refine ⟨?_, (hR _ (List.getElem_mem _)).alloc _⟩
    rw [cell_of_row _ w.heap.size (0 + r) cs 22 _ (heap_alloc_new w _), ← Array.getElem?_toList, hcs, Nat.zero_add, List.getElem?_map, List.getElem?_eq_getElem (by omega)]
    rfl
  refine (join_any _ m m _ _ _ hP hm (by rw [hj]; exact hlen)).mono ?_
  rintro e w' ⟨A, n, c, rfl, hown, hb⟩
  rw [hj] at hown
  exact ⟨A, n, c, rfl, hown.lower (by simp), ((Below.refl _ _).alloc (Nat.le_refl _) _).trans (hb.mono (by simp))⟩
theorem trimZ_le (bs : List UInt8) : (trimZ bs).length ≤ bs.length := by
  induction bs with
  | nil => exact Nat.le_refl _
  | cons d r ih =>
    rw [trimZ_cons]
    split
    · simp; omega
    · exact Nat.le_refl _
/-- The body of a number. -/
def putI (bs : List UInt8) : List UInt8 := match trimZ bs with
  | [] => [0]
  | d :: r => if 128 ≤ d.toNat then 0 :: d :: r else d :: r
end Go.Proofs.Ytomolfdcdmncoaa
namespace Go.Proofs.Ytomolfdcdmncoaa
open Go.RowKit Go
set_option linter.unusedVariables false
set_option maxRecDepth 100000
/-- The bytes of a number's body, without noughts ahead; none, if it is no such body. -/
def intQ : List UInt8 → Option (List UInt8)
  | [] => none
  | [d] => if 128 ≤ d.toNat then none else some (trimZ [d])
  | d :: x :: r => if 128 ≤ d.toNat ∨ (d.toNat = 0 ∧ x.toNat < 128) then none else some (trimZ (d :: x :: r))
def IntPost (w : World) (bs : List UInt8) (e : Ending) (w' : World) : Prop :=
  (match intQ bs with
    | some l => ∃ A n c, e = .returned (.tuple #[.slice A n c, .bool true]) ∧ OwnB w' w.heap.size A n c l
    | none => e = .returned (.tuple #[.slice none 0 0, .bool false])) ∧ Below w.heap.size w w'
theorem int_no {w w' : World} {bs : List UInt8} (h : intQ bs = none) (hb : Below w.heap.size w w') : IntPost w bs (.returned (.tuple #[.slice none 0 0, .bool false])) w' := by
  unfold IntPost; rw [h]; exact ⟨rfl, hb⟩
theorem int_yes {w w' : World} {bs l : List UInt8} {A : Option Addr} {n c : Nat} (h : intQ bs = some l) (ho : OwnB w' w.heap.size A n c l) (hb : Below w.heap.size w w') : IntPost w bs (.returned (.tuple #[.slice A n c, .bool true])) w' := by
  unfold IntPost; rw [h]; exact ⟨⟨A, n, c, rfl, ho⟩, hb⟩
theorem int_zero (A : Option Addr) (c : Nat) (w : World) : Calls Try.prog 83 #[.slice A 0 c] w (IntPost w []) := by
  go_enter Try.func83, Try.ntmps83
  go_wp2
  go_ret2
  exact int_no rfl (Below.refl _ _)
theorem int_high (b off n c : Nat) (d : UInt8) (bs : List UInt8) (w : World) (hn : 0 < n) (hn2 : n ≤ 1000000000) (h : intQ bs = none) (h0 : w.cell? ⟨b, off, none⟩ = some (.int .u8 (d.toNat : Int))) (hd : 128 ≤ d.toNat) :
    Calls Try.prog 83 #[.slice (some ⟨b, off, none⟩) n c] w (IntPost w bs) := by
  have H := Lib.hid h
  clear h
  have t0 : ((n : Int) == 0) = false := by simp; omega
  have t1 : (128 : Int) ≤ (d.toNat : Int) := by omega
  go_enter Try.func83, Try.ntmps83
  go_wp2
  go_ret2
  exact int_no H.out (Below.refl _ _)
theorem int_needless (b off n c : Nat) (d x : UInt8) (bs : List UInt8) (w : World) (hn : 1 < n) (hn2 : n ≤ 1000000000) (h : intQ bs = none) (h0 : w.cell? ⟨b, off, none⟩ = some (.int .u8 (d.toNat : Int))) (hd : d.toNat = 0)
    (h1 : w.cell? ⟨b, off + 1, none⟩ = some (.int .u8 (x.toNat : Int))) (hx : x.toNat < 128) :
    Calls Try.prog 83 #[.slice (some ⟨b, off, none⟩) n c] w (IntPost w bs) := by
  have H := Lib.hid h
  clear h
  have t0 : ((n : Int) == 0) = false := by simp; omega
  have t1 : (d.toNat : Int) < 128 := by omega
  have t2 : ((d.toNat : Int) == 0) = true := by simp; omega
  have t3 : (x.toNat : Int) < 128 := by omega
  clear hd
  go_enter Try.func83, Try.ntmps83
  go_wp2
  go_ret2
  exact int_no H.out (Below.refl _ _)
theorem int_nz (b off n c : Nat) (d : UInt8) (bs l : List UInt8) (w : World) (hR : RB w (some ⟨b, off, none⟩) n bs) (hnc : n ≤ c) (hc : c ≤ maxLen) (hcc : c ≤ 9223372036854775807) (hnb : n ≤ 1000000000) (h : intQ bs = some (trimZ bs)) (h0 : w.cell? ⟨b, off, none⟩ = some (.int .u8 (d.toNat : Int))) (hn : 0 < n) (hd : 0 < d.toNat) (hd2 : d.toNat < 128) :
    Calls Try.prog 83 #[.slice (some ⟨b, off, none⟩) n c] w (IntPost w bs) := by
  have H := Lib.hid h
  clear h
  have C := Lib.hid (without_any (some ⟨b, off, none⟩) n c bs w hR hnc hc)
  have hln := hR.1
  have t0 : ((n : Int) == 0) = false := by simp; omega
  have t1 : (d.toNat : Int) < 128 := by omega
  have t2 : ((d.toNat : Int) == 0) = false := by simp; omega
  have HLN := Lib.hid hln
  clear hd hR hln
  go_enter Try.func83, Try.ntmps83
  go_wp2_with fail
  (with_reducible refine C.out.mono ?_)
  rintro e w' ⟨⟨A1, n1, c1, rfl, hR1, hn1, hc1⟩, rfl⟩
  have hn1n : n1 ≤ n := by rw [← hR1.1, ← HLN.out]; exact trimZ_le bs
  have J := Lib.hid (joins_any [(A1, n1, c1, trimZ bs)] 1 #[.slice A1 n1 c1] w w.heap.size rfl rfl (by omega) rfl
    (by intro x hx; simp at hx; subst hx; exact hR1) (by have := hR1.1; simp; omega))
  go_wp2_with fail
  (with_reducible refine J.out.mono ?_)
  rintro e w2 ⟨A2, n2, c2, rfl, hown, hb⟩
  go_wp2
  go_ret2
  exact int_yes H.out (by simpa using hown) hb
theorem int_one (b off n c : Nat) (d : UInt8) (bs l : List UInt8) (w : World) (hR : RB w (some ⟨b, off, none⟩) n bs) (hnc : n ≤ c) (hc : c ≤ maxLen) (hcc : c ≤ 9223372036854775807) (hnb : n ≤ 1000000000) (h : intQ bs = some (trimZ bs)) (h0 : w.cell? ⟨b, off, none⟩ = some (.int .u8 (d.toNat : Int))) (hn : 0 < n) (hn9 : n ≤ 1) (hd : d.toNat = 0) (hd2 : d.toNat < 128) :
    Calls Try.prog 83 #[.slice (some ⟨b, off, none⟩) n c] w (IntPost w bs) := by
  have H := Lib.hid h
  clear h
  have C := Lib.hid (without_any (some ⟨b, off, none⟩) n c bs w hR hnc hc)
  have hln := hR.1
  have t0 : ((n : Int) == 0) = false := by simp; omega
  have t1 : (d.toNat : Int) < 128 := by omega
  have t2 : ((d.toNat : Int) == 0) = true := by simp; omega
  have t3 : (n : Int) ≤ 1 := by omega
  have HLN := Lib.hid hln
  clear hd hR hln
  go_enter Try.func83, Try.ntmps83
  go_wp2_with fail
  (with_reducible refine C.out.mono ?_)
  rintro e w' ⟨⟨A1, n1, c1, rfl, hR1, hn1, hc1⟩, rfl⟩
  have hn1n : n1 ≤ n := by rw [← hR1.1, ← HLN.out]; exact trimZ_le bs
  have J := Lib.hid (joins_any [(A1, n1, c1, trimZ bs)] 1 #[.slice A1 n1 c1] w w.heap.size rfl rfl (by omega) rfl
    (by intro x hx; simp at hx; subst hx; exact hR1) (by have := hR1.1; simp; omega))
  go_wp2_with fail
  (with_reducible refine J.out.mono ?_)
  rintro e w2 ⟨A2, n2, c2, rfl, hown, hb⟩
  go_wp2
  go_ret2
  exact int_yes H.out (by simpa using hown) hb
theorem int_two (b off n c : Nat) (d : UInt8) (bs l : List UInt8) (w : World) (hR : RB w (some ⟨b, off, none⟩) n bs) (hnc : n ≤ c) (hc : c ≤ maxLen) (hcc : c ≤ 9223372036854775807) (hnb : n ≤ 1000000000) (h : intQ bs = some (trimZ bs)) (h0 : w.cell? ⟨b, off, none⟩ = some (.int .u8 (d.toNat : Int))) (hn : 1 < n) (hd : d.toNat = 0) (hd2 : d.toNat < 128) (x : UInt8) (h1 : w.cell? ⟨b, off + 1, none⟩ = some (.int .u8 (x.toNat : Int))) (hx : 128 ≤ x.toNat) :
    Calls Try.prog 83 #[.slice (some ⟨b, off, none⟩) n c] w (IntPost w bs) := by
  have H := Lib.hid h
  clear h
  have C := Lib.hid (without_any (some ⟨b, off, none⟩) n c bs w hR hnc hc)
  have hln := hR.1
  have t0 : ((n : Int) == 0) = false := by simp; omega
  have t1 : (d.toNat : Int) < 128 := by omega
  have t2 : ((d.toNat : Int) == 0) = true := by simp; omega
  have t3 : (128 : Int) ≤ (x.toNat : Int) := by omega
  have HLN := Lib.hid hln
  clear hd hR hln
  go_enter Try.func83, Try.ntmps83
  go_wp2_with fail
  (with_reducible refine C.out.mono ?_)
  rintro e w' ⟨⟨A1, n1, c1, rfl, hR1, hn1, hc1⟩, rfl⟩
  have hn1n : n1 ≤ n := by rw [← hR1.1, ← HLN.out]; exact trimZ_le bs
  have J := Lib.hid (joins_any [(A1, n1, c1, trimZ bs)] 1 #[.slice A1 n1 c1] w w.heap.size rfl rfl (by omega) rfl
    (by intro x hx; simp at hx; subst hx; exact hR1) (by have := hR1.1; simp; omega))
  go_wp2_with fail
  (with_reducible refine J.out.mono ?_)
  rintro e w2 ⟨A2, n2, c2, rfl, hown, hb⟩
  go_wp2
  go_ret2
  exact int_yes H.out (by simpa using hown) hb
theorem int_any (A : Option Addr) (n c : Nat) (bs : List UInt8) (w : World) (hR : RB w A n bs) (hnc : n ≤ c) (hc : c ≤ maxLen) (hn : n ≤ 1000000000) (hcc : c ≤ 9223372036854775807) :
    Calls Try.prog 83 #[.slice A n c] w (IntPost w bs) := by
  have hl := hR.1
  match bs, hl with
  | [], hl =>
    obtain rfl : n = 0 := by simpa using hl.symm
    exact int_zero A c w
  | d :: r, hl =>
    have hl : r.length + 1 = n := by simpa using hl
    obtain ⟨b, off, d', rfl, _, hd, c0⟩ := hR.at_ (k := 0) (by omega)
    simp at hd
    subst hd
    have c0 : w.cell? ⟨b, off, none⟩ = some (.int .u8 (d.toNat : Int)) := c0
    by_cases hb : 128 ≤ d.toNat
    · exact int_high b off n c d _ w (by omega) hn (by cases r <;> simp [intQ, hb]) c0 hb
    match r, hl with
    | [], hl =>
      have hl : n = 1 := by simpa using hl.symm
      by_cases hz : d.toNat = 0
      · exact int_one b off n c d _ [] w hR hnc hc hcc hn (by simp only [intQ]; rw [if_neg hb]) c0 (by omega) (by omega) hz (by omega)
      · exact int_nz b off n c d _ [] w hR hnc hc hcc hn (by simp only [intQ]; rw [if_neg hb]) c0 (by omega) (by omega) (by omega)
    | x :: r', hl =>
      have hl : r'.length + 1 + 1 = n := by simpa using hl
      by_cases hz : d.toNat = 0
      · obtain ⟨b', off', x', e', _, hx, c1⟩ := hR.at_ (k := 1) (by omega)
        cases e'
        simp at hx
        subst hx
        by_cases hx : x.toNat < 128
        · exact int_needless b off n c d x _ w (by omega) hn (by simp only [intQ]; rw [if_pos (.inr ⟨hz, hx⟩)]) c0 hz c1 hx
        · exact int_two b off n c d _ [] w hR hnc hc hcc hn (by simp only [intQ]; rw [if_neg (by omega)]) c0 (by omega) hz (by omega) x c1 (by omega)
      · exact int_nz b off n c d _ [] w hR hnc hc hcc hn (by simp only [intQ]; rw [if_neg (by omega)]) c0 (by omega) (by omega) (by omega)
end Go.Proofs.Ytomolfdcdmncoaa
