/-
  der: the statement on what lies within.
-/
import Derived.Test.YtamkbedbkjndgaaDrWk
import Derived.Test.YtamkbedbkjndgaaDrA
namespace Go.Proofs.Ytamkbedbkjndgaa
open Go.RowKit Go
set_option linter.unusedVariables false
set_option maxRecDepth 100000
theorem eflat_get (vs : List EV) (v : EV) (j : Nat) (h : vs[j]? = some v) : (vs.flatMap EV.cells)[j * 3]? = some (.int .u8 (v.tag.toNat : Int)) ∧ (vs.flatMap EV.cells)[j * 3 + 1]? = some (.slice v.ba v.bn v.bc) ∧ (vs.flatMap EV.cells)[j * 3 + 2]? = some (.slice v.ra v.rn v.rc) := by
  induction vs generalizing j with
  | nil => simp at h
  | cons x r ih =>
    cases j with
    | zero =>
      simp at h
      subst h
      exact ⟨rfl, rfl, rfl⟩
    | succ k =>
      simp only [List.getElem?_cons_succ] at h
      have := ih k h
      simp only [List.flatMap_cons, EV.cells, List.cons_append, List.nil_append]
      rw [show (k + 1) * 3 = k * 3 + 1 + 1 + 1 by omega]
      simp only [List.getElem?_cons_succ]
      exact this
theorem Evs.pair {w : World} {base : Nat} {vs : List EV} (h : Evs w base vs) {v : EV} (hv : v ∈ vs) : OwnB w base v.ba v.bn v.bc v.body ∧ OwnB w base v.ra v.rn v.rc v.raw :=
  ⟨h.own (v.ba, v.bn, v.bc, v.body) (List.mem_flatMap.2 ⟨v, hv, by simp [EV.own]⟩), h.own (v.ra, v.rn, v.rc, v.raw) (List.mem_flatMap.2 ⟨v, hv, by simp [EV.own]⟩)⟩
end Go.Proofs.Ytamkbedbkjndgaa
