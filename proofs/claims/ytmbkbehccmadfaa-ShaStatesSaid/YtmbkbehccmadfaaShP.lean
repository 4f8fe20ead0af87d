/-
  sha: the bytes that Write reads.
-/
import Derived.Test.YtmbkbehccmadfaaShO
namespace Go.Proofs.Ytmbkbehccmadfaa
open Go.RowKit Go
set_option linter.unusedVariables false
set_option linter.unusedSimpArgs false
set_option maxRecDepth 100000
/-- The slice reads as bs, out of another block than S. -/
def Src (w : World) (S : Nat) (A : Option Addr) (bs : List UInt8) : Prop :=
  bs ≠ [] → ∃ b off, A = some ⟨b, off, none⟩ ∧ b ≠ S ∧ b < w.heap.size ∧ ∀ j (hj : j < bs.length), w.cell? ⟨b, off + j, none⟩ = some (bv bs[j])
theorem Src.kept {w w' : World} {S : Nat} {A : Option Addr} {bs : List UInt8} (h : Src w S A bs) (hg : w.grownBy w' (some S)) : Src w' S A bs := fun hn => by
  obtain ⟨b, off, e, hb, hl, hc⟩ := h hn
  refine ⟨b, off, e, hb, Nat.lt_of_lt_of_le hl hg.size, fun j hj => ?_⟩
  rw [hg.cell_far ⟨b, off + j, none⟩ hl (by simpa using hb)]
  exact hc j hj
theorem Src.drop_ {w : World} {S : Nat} {A : Option Addr} {bs : List UInt8} (h : Src w S A bs) (k : Nat) : Src w S (A.map (·.add k)) (bs.drop k) := fun hn => by
  have hk : k < bs.length := by
    rcases Nat.lt_or_ge k bs.length with h1 | h1
    · exact h1
    · exact absurd (List.drop_eq_nil_of_le h1) hn
  obtain ⟨b, off, e, hb, hl, hc⟩ := h (by intro e; rw [e] at hk; simp at hk)
  refine ⟨b, off + k, by rw [e, Option.map_some, Addr.add_mid], hb, hl, fun j hj => ?_⟩
  rw [List.length_drop] at hj
  rw [List.getElem_drop, Nat.add_assoc]
  exact hc (k + j) (by omega)
theorem Src.of_bs {w : World} {S B : Nat} {A : Option Addr} {bs : List UInt8} (h : Bs w B A bs) (hB : B ≤ w.heap.size) (hS : ∀ b off, A = some ⟨b, off, none⟩ → b ≠ S) : Src w S A bs := fun hn => by
  obtain ⟨b, off, e, hb, hc⟩ := h hn
  exact ⟨b, off, e, hS b off e, by omega, fun j hj => hc j hj⟩
theorem grown_cells (S : Nat) {w0 : World} : ∀ (cs : List Value) (o : Nat) (w : World), w0.grownBy w (some S) → w0.grownBy (w.setCells S o cs) (some S)
  | [], _, _, h => h
  | c :: cs, o, w, h => by
    rw [World.setCells]
    exact grown_cells S cs (o + 1) _ (grown_tr h (grown_one w S o c))
/-- Copying out of it into a part of block S. -/
theorem run_cpy_part (w : World) (S o dl dc m c : Nat) (A : Option Addr) (bs : List UInt8) (t : TypeId) (vs : List Value) (hv : ArrIs w S t vs) (ho : o + dl ≤ vs.length) (hs : Src w S A bs) (hm : bs.length = m) (ty : TypeId) :
    (Builtin.copy_ #[22, 22] ty #[.slice (some ⟨S, o, none⟩) dl dc, .slice A m c]).run Try.prog w = .ok (goInt ((min m dl : Nat) : Int)) (w.setCells S o (((bs.take dl).map UInt8.toNat).map v8)) := by
  have hsz : (Try.prog.info? 5).map (·.size) = some 1 := by kernel_rfl
  by_cases h0 : min m dl = 0
  · rw [run_copy_none w _ _ ty 5 _ _ dl dc m c Try.underlying22 hsz h0, h0]
    have hy : bs.take dl = [] := List.eq_nil_of_length_eq_zero (by rw [List.length_take]; omega)
    rw [hy]
    rfl
  · obtain ⟨b, off, rfl, hb, hl, hc⟩ := hs (by intro e; rw [e] at hm; simp at hm; omega)
    have hlen : (((bs.take dl).map UInt8.toNat).map v8).length = min m dl := by rw [List.length_map, List.length_map, List.length_take]; omega
    have := run_copy_cells (P := Try.prog) w 22 22 ty 5 S o dl dc ⟨b, off, none⟩ m c (((bs.take dl).map UInt8.toNat).map v8) Try.underlying22 hsz hlen
      (fun j v hj => by
        rw [List.getElem?_map, List.getElem?_map] at hj
        have hjl : j < (bs.take dl).length := by
          rcases Nat.lt_or_ge j (bs.take dl).length with h1 | h1
          · exact h1
          · rw [List.getElem?_eq_none h1] at hj; cases hj
        rw [List.getElem?_eq_getElem hjl] at hj
        injection hj with hj
        rw [List.length_take] at hjl
        rw [Addr.add_mid, hc j (by omega), ← hj, List.getElem_take])
      (fun j hj => (hv.there o dl ho j (by omega)).1) (fun j hj => (hv.there o dl ho j (by omega)).2)
      (fun v hv => by obtain ⟨x, _, rfl⟩ := List.mem_map.1 hv; rfl)
    rw [this, hlen]
end Go.Proofs.Ytmbkbehccmadfaa
