/-
  A slice of slices of bytes that came in.
-/
import Derived.Test.YtcedojmhgmgcgaaDoorOwn
import Derived.Deep.Matrix
namespace Go.Proofs.YtcedojmhgmgcgaaDoor
open Go.RowKit Go
set_option linter.unusedVariables false
/-- WHAT A LAW's WALK IS TOLD OF A LIST OF BYTES THAT CAME IN: row r is the slice X r, and reads as bss r. -/
structure IsRows (w : World) (A : Option Addr) (n c : Nat) (X : Nat → Option Addr × Nat × Nat) (bss : Nat → List UInt8) : Prop where
  le : n ≤ c
  max : c ≤ maxLen
  rows : 0 < n → ∃ b off, A = some ⟨b, off, none⟩ ∧ b < w.heap.size ∧ ∀ r, r < n → w.cell? ⟨b, off + r, none⟩ = some (.slice (X r).1 (X r).2.1 (X r).2.2) ∧ IsBs w (X r).1 (X r).2.1 (X r).2.2 (bss r)
theorem IsRows.lim {w : World} {A : Option Addr} {n c : Nat} {X : Nat → Option Addr × Nat × Nat} {bss : Nat → List UInt8} (h : IsRows w A n c X bss) : n ≤ 9223372036854775807 := by
  have h1 := h.le
  have h2 := h.max
  unfold maxLen at h2
  omega
section
open Go.ChangeShapes Go.WideShapes Go.ChangeAt Go.Deep
theorem open_rows {H : Type} {enc : TypeId × Value → H} {P : Program} {w : World} {t e q : TypeId} {A : Option Addr} {n c : Nat} {d : DataW H} {p : List MemPlace}
    (ht : P.underlying t = some (.slice e)) (he : P.underlying e = some (.slice q)) (hq : P.underlying q = some (.int .u8)) (ce : P.cellsOf e = 1) (cq : P.cellsOf q = 1)
    (hf : DataW.Trod enc P w 0 (fun _ => true) true t (.slice A n c) d p) : ∃ X bss, IsRows w A n c X bss := by
  obtain ⟨fuel, hf⟩ := hf
  rcases open_int_rows ht he hq ce cq hf with ⟨hcs, _⟩ | ⟨a, len, cap, AA, L, C, Z, hcs, _, hl, hm, _, hrow⟩
  · simp [Value.cells] at hcs
    obtain ⟨rfl, rfl, rfl⟩ := hcs
    exact ⟨fun _ => (none, 0, 0), fun _ => [], Nat.le_refl _, Nat.zero_le _, fun h => absurd h (by omega)⟩
  · simp [Value.cells] at hcs
    obtain ⟨rfl, rfl, rfl⟩ := hcs
    refine ⟨fun r => (AA r, L r, C r), fun r => bytesOf ((Z r).take (L r)), hl, hm, fun hn => ?_⟩
    obtain ⟨b, off, spot⟩ := a
    have h0 := (hrow 0 (by omega)).1
    have hsp : spot = none := by simpa [Addr.add] using World.cell?_spot h0
    subst hsp
    have hlt : b < w.heap.size := by
      have := World.block_lt_of_cell? w _ h0
      simpa [Addr.add] using this
    refine ⟨b, off, rfl, hlt, fun r hr => ?_⟩
    obtain ⟨hc, hLC, hCm, hZ, hwf, hnone, hcell⟩ := hrow r (by omega)
    have hadd : (⟨b, off, none⟩ : Addr).add r = ⟨b, off + r, none⟩ := by unfold Addr.add; split <;> simp_all
    rw [hadd] at hc
    refine ⟨hc, by simp [bytesOf]; omega, hLC, hCm, ?_⟩
    by_cases hz0 : 0 < (Z r).length
    · exact Bs.of_row hLC hZ (fun y hy i hi => (hcell y hy).2 i (by omega)) (fun _ => by
        cases hA : AA r with
        | none => have := hnone hA; omega
        | some y => exact ⟨y, rfl⟩) hwf (fun y hy => by
        have := World.block_lt_of_cell? w _ ((hcell y hy).2 0 (by omega))
        rwa [show (y.add 0).block = y.block by simp [Addr.add]] at this)
    · have : L r = 0 := by omega
      intro h
      exact absurd (by simp [bytesOf, this]) h
end
end Go.Proofs.YtcedojmhgmgcgaaDoor
