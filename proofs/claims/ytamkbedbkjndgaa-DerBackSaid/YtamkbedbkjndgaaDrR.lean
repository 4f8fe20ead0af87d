/-
  der: the document's numbers, and its Oid.
-/
import Derived.Test.YtamkbedbkjndgaaDrO
namespace Go.Proofs.Ytamkbedbkjndgaa
open Go.RowKit Go
set_option linter.unusedVariables false
set_option maxRecDepth 100000
def NumsPost (w : World) (bs : List UInt8) (e : Ending) (w' : World) : Prop :=
  (match numsQ bs with
    | some (x :: r) => ∃ A n c, e = .returned (.tuple #[.slice A n c, .bool true]) ∧ OwnR w' w.heap.size 55 1 A n c ((x :: r).map u64v)
    | _ => ∃ A c, e = .returned (.tuple #[.slice A 0 c, .bool false])) ∧ Below w.heap.size w w'
theorem nums_no {w w' : World} {bs : List UInt8} {A : Option Addr} {c : Nat} (h : numsQ bs = none ∨ numsQ bs = some []) (hb : Below w.heap.size w w') : NumsPost w bs (.returned (.tuple #[.slice A 0 c, .bool false])) w' := by
  unfold NumsPost; rcases h with h | h <;> (rw [h]; exact ⟨⟨A, c, rfl⟩, hb⟩)
theorem nums_yes {w w' : World} {bs : List UInt8} {x : Nat} {r : List Nat} {A : Option Addr} {n c : Nat} (h : numsQ bs = some (x :: r)) (ho : OwnR w' w.heap.size 55 1 A n c ((x :: r).map u64v)) (hb : Below w.heap.size w w') : NumsPost w bs (.returned (.tuple #[.slice A n c, .bool true])) w' := by
  unfold NumsPost; rw [h]; exact ⟨⟨A, n, c, rfl, ho⟩, hb⟩
theorem drop_cons {α : Type} {l : List α} {m : Nat} {d : α} (h : l[m]? = some d) : l.drop m = d :: l.drop (m + 1) := by
  have hm : m < l.length := (List.getElem?_eq_some_iff.1 h).1
  have h2 := (List.getElem?_eq_some_iff.1 h).2
  rw [List.drop_eq_getElem_cons hm, h2]
theorem numsQ_lt : ∀ (k : Nat) (bs : List UInt8) (l : List Nat), bs.length ≤ k → numsQ bs = some l → ∀ x ∈ l, x < 18446744073709551616
  | 0, bs, l, hk, h => by
    obtain rfl : bs = [] := List.length_eq_zero_iff.1 (by omega)
    rw [numsQ_nil] at h
    cases h
    intro x hx; cases hx
  | k + 1, bs, l, hk, h => by
    by_cases hn : bs = []
    · subst hn
      rw [numsQ_nil] at h
      cases h
      intro x hx; cases hx
    cases hq : numQ bs with
    | none => rw [numsQ_none hn hq] at h; cases h
    | some p =>
      obtain ⟨x, n⟩ := p
      rw [numsQ_some hq] at h
      obtain ⟨l', h1, rfl⟩ := Option.map_eq_some_iff.1 h
      have hle := numQ_le hq
      have ih := numsQ_lt k (bs.drop n) l' (by rw [List.length_drop]; omega) h1
      intro y hy
      rcases List.mem_cons.1 hy with rfl | hy
      · exact numQ_lt hq
      · exact ih y hy
theorem numsQ_len : ∀ (k : Nat) (bs : List UInt8) (l : List Nat), bs.length ≤ k → numsQ bs = some l → l.length ≤ bs.length
  | 0, bs, l, hk, h => by
    obtain rfl : bs = [] := List.length_eq_zero_iff.1 (by omega)
    rw [numsQ_nil] at h
    cases h
    simp
  | k + 1, bs, l, hk, h => by
    by_cases hn : bs = []
    · subst hn
      rw [numsQ_nil] at h
      cases h
      simp
    cases hq : numQ bs with
    | none => rw [numsQ_none hn hq] at h; cases h
    | some p =>
      obtain ⟨x, n⟩ := p
      rw [numsQ_some hq] at h
      obtain ⟨l', h1, rfl⟩ := Option.map_eq_some_iff.1 h
      have hle := numQ_le hq
      have ih := numsQ_len k (bs.drop n) l' (by rw [List.length_drop]; omega) h1
      rw [List.length_drop] at ih
      simp; omega
end Go.Proofs.Ytamkbedbkjndgaa
