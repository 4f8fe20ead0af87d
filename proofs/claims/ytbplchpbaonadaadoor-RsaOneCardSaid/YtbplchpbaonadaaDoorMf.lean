/-
  mont: Mul.
-/
import Derived.Test.YtbplchpbaonadaaDoorMe
namespace Go.Proofs.YtbplchpbaonadaaDoor
open Go.RowKit Go
set_option linter.unusedVariables false
set_option linter.unusedSimpArgs false
set_option maxRecDepth 100000
/-- The rest of a product, by a modulus. -/
def mmulQ (x y : List Nat) (m : Nat) : List Nat × Nat := if underB x m && underB y m then (num (val x * val y % m), 0) else ([], 1)
theorem under_len {A : Option Addr} {n : Nat} {x : List Nat} {w : World} {m : Nat} (hA : RU w A n x) (h : underB x m = true) : n ≤ limbsN m ∧ val x < m ∧ num (val x) = x ∧ rightB x = true := by
  unfold underB at h
  rw [Bool.and_eq_true, decide_eq_true_iff] at h
  have hn := right_num hA.lim h.1
  have h1 := limbs_le h.2
  rw [hn, hA.len] at h1
  exact ⟨h1, h.2, hn, h.1⟩
/-- A padded number. -/
def PadPost (W : World) (n v : Nat) (e : Ending) (W' : World) : Prop := ∃ G Z, e = .returned (.slice (some ⟨G, 0, none⟩) n n) ∧ BlkU W' G Z ∧ Z.length = n ∧ Lim Z ∧ val Z = v ∧ W.heap.size ≤ G ∧ Below W.heap.size W W'
def RedN (W : World) (m N x y : Nat) (e : Ending) (W' : World) : Prop := ∃ G Z, e = .returned (.slice (some ⟨G, 0, none⟩) N N) ∧ BlkU W' G Z ∧ Z.length = N ∧ Lim Z ∧ Red m (4294967296 ^ N) x y (val Z) ∧ W.heap.size ≤ G ∧ Below W.heap.size W W'
theorem RedPost.n {W W' : World} {m N x y : Nat} {e : Ending} (h : RedPost W m x y e W') (hN : limbsN m = N) : RedN W m N x y e W' := by
  subst hN
  obtain ⟨G, Z, h1, h2, h3, h4, h5, h6, h7⟩ := h
  exact ⟨G, Z, h1, h3, h4, h5, h6, h2, h7⟩
theorem blk_ru {w : World} {G n : Nat} {Z : List Nat} (h : BlkU w G Z) (hl : Z.length = n) (lz : Lim Z) : RU w (some ⟨G, 0, none⟩) n Z := by
  have h9 := h.ru lz 0 n (by omega)
  rw [List.drop_zero, take_all (by omega)] at h9
  exact h9
end Go.Proofs.YtbplchpbaonadaaDoor
