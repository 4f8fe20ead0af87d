/-
  pe: the sections of an image that is made, one by one (plain data).
-/
import Derived.Test.YtjfpiidofbjdhaaDoorPeV
namespace Go.Proofs.YtjfpiidofbjdhaaDoor
open Go.RowKit Go
set_option linter.unusedVariables false
set_option linter.unusedSimpArgs false
set_option maxRecDepth 100000
/-! ### The sections of an image that is made, one by one -/
theorem plc_append (bods : List (List UInt8)) (ks : List Nat) (e : Nat) (l l' : List Nat) : plcL bods ks e (l ++ l') = plcL bods ks e l ++ plcL bods ks e l' := by
  unfold plcL
  rw [List.filter_append, List.map_append]
theorem plc_one (bods : List (List UInt8)) (ks : List Nat) (e i : Nat) : plcL bods ks e [i] = if 0 < (bods.getD i []).length then [(offL bods ks e i, (bods.getD i []).length)] else [] := by
  unfold plcL
  by_cases h : 0 < (bods.getD i []).length
  · rw [if_pos h, List.filter_cons_of_pos (by simpa using h)]; rfl
  · rw [if_neg h, List.filter_cons_of_neg (by simpa using h)]; rfl
/-- How many of the first bodies have bytes. -/
def fullN (bods : List (List UInt8)) (i : Nat) : Nat := ((List.range i).filter fun i => decide (0 < (bods.getD i []).length)).length
theorem full_succ (bods : List (List UInt8)) (i : Nat) : fullN bods (i + 1) = fullN bods i + (if 0 < (bods.getD i []).length then 1 else 0) := by
  unfold fullN
  rw [List.range_succ, List.filter_append, List.length_append]
  congr 1
  by_cases h : 0 < (bods.getD i []).length
  · rw [if_pos h, List.filter_cons_of_pos (by simpa using h)]; rfl
  · rw [if_neg h, List.filter_cons_of_neg (by simpa using h)]; rfl
theorem full_le (bods : List (List UInt8)) (i : Nat) : fullN bods i ≤ i := by
  unfold fullN
  have := List.length_filter_le (fun i => decide (0 < (bods.getD i []).length)) (List.range i)
  rwa [List.length_range] at this
theorem plc_len (bods : List (List UInt8)) (ks : List Nat) (e n : Nat) : (plcL bods ks e (List.range n)).length = fullN bods n := by
  unfold plcL fullN
  rw [List.length_map]
theorem plc_at (bods : List (List UInt8)) (ks : List Nat) (e n i : Nat) (h : i < n) (h0 : 0 < (bods.getD i []).length) : (plcL bods ks e (List.range n))[fullN bods i]? = some (offL bods ks e i, (bods.getD i []).length) := by
  have hr : List.range n = List.range i ++ [i] ++ (List.range (n - i - 1)).map (fun j => i + 1 + j) := by
    have h1 : n = (i + 1) + (n - i - 1) := by omega
    conv => lhs; rw [h1]
    rw [List.range_add, List.range_succ]
  rw [hr, plc_append, plc_append, plc_one, if_pos h0, List.append_assoc, List.getElem?_append_right (by rw [plc_len]; exact Nat.le_refl _), plc_len, Nat.sub_self]
  rfl
theorem full_lt (bods : List (List UInt8)) (i n : Nat) (h : i < n) (h0 : 0 < (bods.getD i []).length) : fullN bods i < fullN bods n := by
  have h1 := plc_at bods [] 0 n i h h0
  have h2 := plc_len bods [] 0 n
  rcases Nat.lt_or_ge (fullN bods i) (fullN bods n) with h3 | h3
  · exact h3
  · rw [List.getElem?_eq_none (by omega)] at h1; cases h1
theorem off_in (bods : List (List UInt8)) (ks : List Nat) (e i : Nat) (h : i ∈ ks) : offL bods ks e i + (bods.getD i []).length ≤ e + lensQ bods ks := (offL_le bods ks e i).2 h
end Go.Proofs.YtjfpiidofbjdhaaDoor
