/-
  A slice of uint64 that came in.
-/
import Derived.Test.YtomolfdcdmncoaaCb5
namespace Go.Proofs.Ytomolfdcdmncoaa
open Go.RowKit Go
set_option linter.unusedVariables false
set_option maxRecDepth 100000
/-- WHAT A LAW's WALK IS TOLD OF A SLICE OF NUMBERS THAT CAME IN. -/
structure IsNs (w : World) (A : Option Addr) (n c : Nat) (xs : List Nat) : Prop where
  rn : RN w A n xs
  le : n ≤ c
  max : c ≤ maxLen
section
open Go.ChangeShapes Go.WideShapes Go.ChangeAt
theorem slice_ofN {H : Type} {enc : TypeId × Value → H} {W : World} {base n : Nat} {sp : Nat → Bool} {c : Value} {x : DataW H × List MemPlace} (h : DataW.trod enc Try.prog W base sp true n 52 [c] = some x) : ∃ A n k, c = Value.slice A n k := by
  rcases DataW.trod_slice Try.underlying52 h with ⟨e, _⟩ | ⟨a, l, k, _, _, _, _, e, _⟩
  · injection e with e _; exact ⟨_, _, _, e⟩
  · injection e with e _; exact ⟨_, _, _, e⟩
theorem open_ns {H : Type} {enc : TypeId × Value → H} {P : Program} {w : World} {base : Nat} {held : Bool} {fuel : Nat} {t e : TypeId} {A : Option Addr} {n c : Nat} {d : DataW H} {p : List MemPlace}
    (ht : P.underlying t = some (.slice e)) (he : P.underlying e = some (.int .u64)) (hc : P.cellsOf e = 1) (hf : DataW.trod enc P w base (fun _ => true) held fuel t (Value.slice A n c).cells.toList = some (d, p)) :
    ∃ xs, IsNs w A n c xs := by
  rcases open_ints ht he hc hf with ⟨hcs, _⟩ | ⟨x, l, c', zs, hcs, _, hl, hm, hz, _, hcell, hwz⟩
  · simp [Value.cells] at hcs
    obtain ⟨rfl, rfl, rfl⟩ := hcs
    exact ⟨[], ⟨rfl, ReadR.nil, fun j x h => by simp at h⟩, Nat.le_refl _, Nat.zero_le _⟩
  · simp [Value.cells] at hcs
    obtain ⟨rfl, rfl, rfl⟩ := hcs
    have hzl : zs.length = c := by simpa using hz
    have hnat : ∀ (j : Nat) (h : j < zs.length), ((zs[j].toNat : Nat) : Int) = zs[j] ∧ zs[j].toNat < 18446744073709551616 := fun j h => by
      have := bounds_u64 (hwz _ (List.getElem_mem h))
      omega
    refine ⟨(zs.take n).map Int.toNat, ⟨by simp; omega, ?_, ?_⟩, hl, hm⟩
    · intro hne
      have hz0 : 0 < zs.length := by
        rcases Nat.eq_zero_or_pos zs.length with h | h
        · exfalso
          apply hne
          rw [List.eq_nil_of_length_eq_zero h]; simp
        · exact h
      obtain ⟨g, off, spot⟩ := x
      have h0 := hcell 0 hz0
      have hsp : spot = none := by simpa [Addr.add] using World.cell?_spot h0
      subst hsp
      refine ⟨g, off, rfl, by have := World.block_lt_of_cell? w _ h0; simpa [Addr.add] using this, fun j u hu => ?_⟩
      rw [List.getElem?_map, List.getElem?_map, List.getElem?_take] at hu
      have hj : j < n := by
        rcases Nat.lt_or_ge j n with h | h
        · exact h
        · rw [if_neg (by omega)] at hu; simp at hu
      have hj2 : j < zs.length := by omega
      rw [if_pos hj, List.getElem?_eq_getElem hj2] at hu
      simp at hu
      have h1 := hcell j hj2
      have hadd : (⟨g, off, none⟩ : Addr).add j = ⟨g, off + j, none⟩ := by unfold Addr.add; split <;> simp_all
      rw [hadd, List.getD_eq_getElem?_getD, List.getElem?_eq_getElem hj2] at h1
      rw [h1, ← hu]
      show some (Value.int IntKind.u64 (zs[j])) = some (Value.int IntKind.u64 ((zs[j].toNat : Nat) : Int))
      rw [(hnat j hj2).1]
    · intro j x hx
      rw [List.getElem?_map, List.getElem?_take] at hx
      split at hx
      · rename_i hj
        have hj2 : j < zs.length := by omega
        rw [List.getElem?_eq_getElem hj2] at hx
        simp at hx
        rw [← hx]
        exact (hnat j hj2).2
      · simp at hx
theorem open_s52 {H : Type} {enc : TypeId × Value → H} {w : World} {A : Option Addr} {n c : Nat} {d : DataW H} {p : List MemPlace} (h : DataW.Trod enc Try.prog w 0 (fun _ => true) true 52 (.slice A n c) d p) : ∃ xs, IsNs w A n c xs := by
  obtain ⟨fuel, hf⟩ := h
  exact open_ns Try.underlying52 Try.underlying26 (by kernel_rfl) hf
end
end Go.Proofs.Ytomolfdcdmncoaa
