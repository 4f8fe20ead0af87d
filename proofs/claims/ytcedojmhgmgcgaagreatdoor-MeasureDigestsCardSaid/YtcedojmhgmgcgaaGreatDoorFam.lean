/-
  A list of slices, each with memory of its own, as Apart takes it.
-/
import Derived.Test.YtcedojmhgmgcgaaGreatDoorApart
namespace Go.Proofs.YtcedojmhgmgcgaaGreatDoor
open Go.RowKit Go
set_option linter.unusedVariables false
/-- One of them: its address, length, capacity and bytes. -/
abbrev Own1 := Option Addr × Nat × Nat × List UInt8
def Own1.val (x : Own1) : Value := .slice x.1 x.2.1 x.2.2.1
def Own1.nul : Own1 := (none, 0, 0, [])
theorem fam_list (w : World) (base g : Nat) (l : List Own1) (m c : Nat) (hm : l.length = m)
    (hrow : OwnS w base (some ⟨g, 0, none⟩) m c (l.map Own1.val))
    (hown : ∀ x ∈ l, OwnB w base x.1 x.2.1 x.2.2.1 x.2.2.2 ∧ x.2.1 ≤ 1000000)
    (hfar : l.Pairwise fun x y => blk x.1 = none ∨ blk x.1 ≠ blk y.1) :
    Fam (some ⟨g, 0, none⟩) m c (l.map Own1.val) (fun r => (l.getD r Own1.nul).1) (fun r => (l.getD r Own1.nul).2.1) (fun r => (l.getD r Own1.nul).2.2.1) (fun r => (l.getD r Own1.nul).2.2.2) base w := by
  have hg : ∀ r (h : r < m), l.getD r Own1.nul = l[r]'(by omega) := fun r h => by
    rw [List.getD_eq_getElem?_getD, List.getElem?_eq_getElem (by omega)]; rfl
  refine ⟨hrow, fun r hr => ?_, fun r hr => ?_, fun r s hr hs hrs => ?_, fun r hr => ?_⟩
  · simp only [hg r hr]
    rw [List.getElem?_map, List.getElem?_eq_getElem (by omega)]
    rfl
  · simp only [hg r hr]
    exact (hown _ (List.getElem_mem _)).1
  · simp only [hg r hr, hg s hs]
    rw [List.pairwise_iff_getElem] at hfar
    rcases Nat.lt_or_ge r s with h | h
    · exact hfar r s (by omega) (by omega) h
    · rcases hfar s r (by omega) (by omega) (by omega) with h1 | h1
      · by_cases h2 : blk (l[r]'(by omega)).1 = none
        · exact .inl h2
        · exact .inr (fun e => h2 (e.trans h1))
      · exact .inr (fun e => h1 e.symm)
  · simp only [hg r hr]
    exact (hown _ (List.getElem_mem _)).2
/-- Blocks that are one above the other are apart. -/
theorem far_of {w w' : World} {b b' : Nat} {A A' : Option Addr} {n n' c c' : Nat} {xs ys : List UInt8} (h : OwnB w b A n c xs) (h' : OwnB w' b' A' n' c' ys) (hlt : w.heap.size ≤ b') : blk A = none ∨ blk A ≠ blk A' := by
  cases e : blk A with
  | none => exact .inl rfl
  | some g =>
    right
    intro e2
    have h1 := (h.blk_lt e).2
    have h2 := (h'.blk_lt e2.symm).1
    omega
theorem far_symm {A A' : Option Addr} (h : blk A = none ∨ blk A ≠ blk A') : blk A' = none ∨ blk A' ≠ blk A := by
  rcases h with h1 | h1
  · by_cases h2 : blk A' = none
    · exact .inl h2
    · exact .inr (fun e => h2 (e.trans h1))
  · exact .inr (fun e => h1 e.symm)
end Go.Proofs.YtcedojmhgmgcgaaGreatDoor
