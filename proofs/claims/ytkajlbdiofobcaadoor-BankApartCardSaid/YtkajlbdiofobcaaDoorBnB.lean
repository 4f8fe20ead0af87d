/-
  bank: what programming and erasing make of bytes, as plain data.
-/
import Derived.Test.YtkajlbdiofobcaaDoorBnA
import Derived.Test.YtkajlbdiofobcaaDoorFlM1
namespace Go.Proofs.YtkajlbdiofobcaaDoor
open Go.RowKit Go
set_option linter.unusedVariables false
set_option linter.unusedSimpArgs false
set_option maxRecDepth 100000
/-- The bits are cleared, from k on, that xs has cleared. -/
def andAt (bs : List UInt8) (k : Nat) : List UInt8 → List UInt8
  | [] => bs
  | x :: xs => andAt (bs.set k (bs.getD k 0 &&& x)) (k + 1) xs
theorem andAt_len (xs : List UInt8) : ∀ (bs : List UInt8) (k : Nat), (andAt bs k xs).length = bs.length := by
  induction xs with
  | nil => intro bs k; rfl
  | cons x xs ih => intro bs k; show (andAt _ _ xs).length = _; rw [ih, List.length_set]
theorem andAt_get (xs : List UInt8) : ∀ (bs : List UInt8) (k i : Nat), (andAt bs k xs)[i]? = if k ≤ i ∧ i < k + xs.length then (bs[i]?).map (fun q => q &&& xs.getD (i - k) 0) else bs[i]? := by
  induction xs with
  | nil => intro bs k i; rw [if_neg (by rw [List.length_nil]; omega)]; rfl
  | cons x xs ih =>
    intro bs k i
    show (andAt _ _ xs)[i]? = _
    rw [ih, List.getElem?_set]
    by_cases h1 : k = i
    · subst h1
      by_cases h2 : k < bs.length
      · rw [if_neg (by omega), if_pos rfl, if_pos h2, if_pos (by simp), Nat.sub_self, List.getElem?_eq_getElem h2, Option.map_some, List.getD_eq_getElem?_getD, List.getElem?_eq_getElem h2]; rfl
      · rw [if_neg (by omega), if_pos rfl, if_neg h2, if_pos (by simp), List.getElem?_eq_none (by omega)]; rfl
    · rw [if_neg h1]
      by_cases h2 : k + 1 ≤ i ∧ i < k + 1 + xs.length
      · rw [if_pos h2, if_pos (by rw [List.length_cons]; omega), show i - k = (i - (k + 1)) + 1 by omega]; rfl
      · rw [if_neg h2, if_neg (by rw [List.length_cons]; omega)]
/-- What a Program does. -/
theorem progQ_eq (xs : List UInt8) : ∀ (k : Nat) (S : FS), progQ xs k S = if S.left = 0 ∨ xs.length < S.left then ({ S with left := S.left - xs.length, wr := S.wr + xs.length, bs := andAt S.bs k xs }, 0) else ({ S with off := true, left := 0, wr := S.wr + (S.left - 1), bs := andAt S.bs k (xs.take (S.left - 1)) }, 6) := by
  induction xs with
  | nil =>
    intro k S
    rw [if_pos (by simp; omega)]
    rfl
  | cons x xs ih =>
    intro k S
    unfold progQ
    by_cases h : S.left = 1
    · rw [if_pos h, if_neg (by rw [List.length_cons]; omega), h]
      rfl
    · rw [if_neg h, ih]
      have e : S.step k x = { S with left := S.left - 1, wr := S.wr + 1, bs := S.bs.set k (S.bs.getD k 0 &&& x) } := by unfold FS.step; rw [if_neg h]
      rw [e]
      by_cases h2 : S.left = 0 ∨ (x :: xs).length < S.left
      · rw [if_pos h2, if_pos (by rw [List.length_cons] at h2; show S.left - 1 = 0 ∨ xs.length < S.left - 1; omega)]
        rw [List.length_cons]
        simp only [FS.mk.injEq, Prod.mk.injEq, and_true, true_and]
        exact ⟨rfl, by omega, by omega⟩
      · rw [if_neg h2, if_neg (by rw [List.length_cons] at h2; show ¬ (S.left - 1 = 0 ∨ xs.length < S.left - 1); omega)]
        have e2 : S.left - 1 = (S.left - 1 - 1) + 1 := by rw [List.length_cons] at h2; omega
        simp only [FS.mk.injEq, Prod.mk.injEq, and_true, true_and]
        refine ⟨?_, by omega⟩
        conv => { rhs; rw [e2] }
        rfl
theorem and_ff (x : UInt8) : (255 : UInt8) &&& x = x := by
  apply UInt8.toNat_inj.1
  rw [UInt8.toNat_and, show (255 : UInt8).toNat = 2 ^ 8 - 1 from rfl, Nat.and_comm, Nat.and_two_pow_sub_one_eq_mod]
  exact Nat.mod_eq_of_lt x.toNat_lt
theorem andAt_mid : ∀ (xs ys pre post : List UInt8), ys.length = xs.length → andAt (pre ++ ys ++ post) pre.length xs = pre ++ List.zipWith (fun a b => a &&& b) ys xs ++ post
  | [], [], pre, post, _ => rfl
  | x :: xs, y :: ys, pre, post, h => by
    show andAt ((pre ++ y :: ys ++ post).set pre.length _) (pre.length + 1) xs = _
    have e1 : (pre ++ y :: ys ++ post).getD pre.length 0 = y := by simp [List.getD]
    have e2 : (pre ++ y :: ys ++ post).set pre.length (y &&& x) = (pre ++ [y &&& x]) ++ ys ++ post := by simp
    rw [e1, e2, show pre.length + 1 = (pre ++ [y &&& x]).length by simp, andAt_mid xs ys (pre ++ [y &&& x]) post (by simpa using h)]
    simp
theorem zip_ff (xs : List UInt8) : List.zipWith (fun a b => a &&& b) (List.replicate xs.length (255 : UInt8)) xs = xs := by
  induction xs with
  | nil => rfl
  | cons x xs ih => rw [List.length_cons, List.replicate_succ, List.zipWith_cons_cons, ih, and_ff]
/-- Programmed where nothing was. -/
theorem andAt_free (xs pre post : List UInt8) (m : Nat) (h : xs.length ≤ m) : andAt (pre ++ List.replicate m 255 ++ post) pre.length xs = pre ++ xs ++ List.replicate (m - xs.length) 255 ++ post := by
  have e : List.replicate m (255 : UInt8) = List.replicate xs.length 255 ++ List.replicate (m - xs.length) 255 := by
    rw [List.replicate_append_replicate]; congr 1; omega
  rw [e, show pre ++ (List.replicate xs.length (255 : UInt8) ++ List.replicate (m - xs.length) 255) ++ post = pre ++ List.replicate xs.length 255 ++ (List.replicate (m - xs.length) 255 ++ post) by simp only [List.append_assoc]]
  rw [andAt_mid xs _ pre _ (by simp), zip_ff]
  simp
/-- One byte. -/
theorem andAt_one (pre post : List UInt8) (q x : UInt8) : andAt (pre ++ [q] ++ post) pre.length [x] = pre ++ [q &&& x] ++ post := andAt_mid [x] [q] pre post rfl
theorem andAt_one' (pre post : List UInt8) (q x : UInt8) (k : Nat) (hk : k = pre.length) : andAt (pre ++ q :: post) k [x] = pre ++ (q &&& x) :: post := by
  subst hk
  have := andAt_one pre post q x
  simpa using this
/-- Within the middle of three parts. -/
theorem andAt_in (A X B xs : List UInt8) (p : Nat) (h : p + xs.length ≤ X.length) : andAt (A ++ X ++ B) (A.length + p) xs = A ++ andAt X p xs ++ B := by
  apply List.ext_getElem?
  intro i
  rw [andAt_get, List.append_assoc, List.append_assoc]
  by_cases h1 : i < A.length
  · rw [if_neg (by omega), List.getElem?_append_left h1, List.getElem?_append_left h1]
  · rw [List.getElem?_append_right (show A.length ≤ i by omega), List.getElem?_append_right (show A.length ≤ i by omega)]
    by_cases h2 : i - A.length < X.length
    · rw [List.getElem?_append_left h2, List.getElem?_append_left (by rw [andAt_len]; exact h2), andAt_get]
      by_cases h3 : p ≤ i - A.length ∧ i - A.length < p + xs.length
      · rw [if_pos h3, if_pos (by omega), show i - (A.length + p) = i - A.length - p by omega]
      · rw [if_neg h3, if_neg (by omega)]
    · rw [if_neg (by omega), List.getElem?_append_right (show X.length ≤ i - A.length by omega), List.getElem?_append_right (by rw [andAt_len]; omega), andAt_len]
theorem andAt_drop (bs xs : List UInt8) (k m : Nat) (h : k + xs.length ≤ m) : (andAt bs k xs).drop m = bs.drop m := by
  apply List.ext_getElem?
  intro i
  rw [List.getElem?_drop, List.getElem?_drop, andAt_get, if_neg (by omega)]
theorem splice_drop (bs xs : List UInt8) (k m : Nat) (hl : k + xs.length ≤ bs.length) (h : k + xs.length ≤ m) : (splice bs k xs).drop m = bs.drop m := by
  apply List.ext_getElem?
  intro i
  rw [List.getElem?_drop, List.getElem?_drop, splice_get _ _ _ (by omega), if_neg (by omega)]
theorem splice_len' (bs xs : List UInt8) (k : Nat) (hl : k + xs.length ≤ bs.length) : (splice bs k xs).length = bs.length := by
  unfold splice; simp; omega
end Go.Proofs.YtkajlbdiofobcaaDoor
