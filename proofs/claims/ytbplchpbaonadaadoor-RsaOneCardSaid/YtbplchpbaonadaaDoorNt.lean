/-
  nat: the law's own: Same, brief.
-/
import Derived.Test.YtbplchpbaonadaaDoorNs4
namespace Go.Proofs.YtbplchpbaonadaaDoor
open Go.RowKit Go
set_option linter.unusedVariables false
set_option linter.unusedSimpArgs false
set_option maxRecDepth 100000
section
variable {w : World} {ops : Array Oper} {rest : List Oper} {o : Oper} {a : Act} {Q : Exit → Act → World → Prop}
/-- Appending limbs; the source may be nil. -/
theorem wpList_appU (s x : Operand) (ho : o.op = .call { callee := .builtin .append, args := #[s, x], argTypes := #[49, 49] }) (hgd : o.guard = none) (hty : o.type = 49)
    (base : Nat) (A0 : Option Addr) (n0 c0 : Nat) (l0 : List Nat) (hs : a.eval s = .slice A0 n0 c0) (hown : OwnR w base 59 1 A0 n0 c0 (l0.map v32))
    (A : Option Addr) (m c : Nat) (l : List Nat) (hx : a.eval x = .slice A m c) (hr : RU w A m l) (hlim : n0 + m ≤ 1000000) (hbase : base ≤ w.heap.size)
    (h : ∀ A' c' w', OwnR w' base 59 1 A' (n0 + m) c' ((l0 ++ l).map v32) → w.grownBy w' (blk A0) → wpList Tryd.prog ops Q rest (a.put o.dst (.slice A' (n0 + m) c')) w') : wpList Tryd.prog ops Q (o :: rest) a w := by
  cases A with
  | some ad =>
    refine wpList_appR u32_row s x ho hgd hty base A0 n0 c0 (l0.map v32) hs hown ad m c (l.map v32) hx (by rw [List.length_map, hr.len, Nat.mul_one]) ?_ (by intro u hu; obtain ⟨q, _, rfl⟩ := List.mem_map.1 hu; rfl) (by unfold maxLen; omega) (by omega) hbase ?_
    · intro j u hu
      have hne : l.map v32 ≠ [] := by intro e; rw [e] at hu; simp at hu
      obtain ⟨b, off, e, _, hc⟩ := hr.rd hne
      injection e with e
      subst e
      have hadd : (⟨b, off, none⟩ : Addr).add j = ⟨b, off + j, none⟩ := by unfold Addr.add; split <;> simp_all
      rw [hadd]
      exact hc j u hu
    · intro V' c' w' h1 h2
      rw [← List.map_append] at h1
      exact h V' c' w' h1 h2
  | none =>
    have hl : l = [] := by
      cases l with
      | nil => rfl
      | cons z r =>
        obtain ⟨b, off, e, _⟩ := hr.rd (by simp)
        cases e
    subst hl
    obtain rfl : 0 = m := hr.len
    refine wpList_plain hgd fun K hK => ?_
    obtain ⟨i, hi, hz0, hz1, hz2⟩ := info_parts u32_row.info
    have hrun : (Builtin.append_ #[49, 49] 49 #[.slice A0 n0 c0, .slice none 0 c]).run Tryd.prog w = .ok (.slice A0 n0 c0) w := by
      rcases hown.2 with ⟨hv, rfl⟩ | ⟨g, cap, cur, hv, _, _, hnc, _⟩
      · injection hv with h1 h2 h3
        subst h1; subst h3
        simp [Builtin.append_, run_underlying Tryd.underlying49, sizeOf, typeInfo, hi, Builtin.lenOf, Builtin.firstCells]
      · injection hv with h1 h2 h3
        subst h1; subst h3
        simp [Builtin.append_, run_underlying Tryd.underlying49, sizeOf, typeInfo, hi, Builtin.lenOf, Builtin.firstCells, hnc, storeCells]
    unfold Oper.wp execOp
    simp only [ho, resolve, invoke, builtin, Sem.run_bind, Sem.run_pure, Result.andThen_ok, List.map_toArray, List.map_cons, List.map_nil, hs, hx, hty, hrun]
    refine hK _ _ (h A0 c0 w ?_ (World.grownBy.refl _ _))
    rw [List.append_nil]
    exact hown
end
theorem ru_of_own {w : World} {base n c : Nat} {A : Option Addr} {l : List Nat} (h : OwnR w base 59 1 A n c (l.map v32)) (hl : Lim l) : RU w A n l := ⟨by have := h.len; simpa using this, h.reads, hl⟩
/-- A right number of at most so many limbs. -/
def briefQ (x : List Nat) (k : Nat) : Nat := val (x.take k)
def BriefPost (w : World) (most v : Nat) (e : Ending) (w' : World) : Prop := ∃ A' k d, e = .returned (.slice A' k d) ∧ RU w' A' k (num v) ∧ k ≤ most ∧ k ≤ d ∧ d ≤ 9223372036854775807 ∧ Below w.heap.size w w'
theorem RU.take {w : World} {A : Option Addr} {n : Nat} {l : List Nat} (h : RU w A n l) (k : Nat) (hk : k ≤ n) : RU w A k (l.take k) := by
  refine ⟨by rw [List.length_take, h.len]; omega, fun hne => ?_, h.lim.take k⟩
  obtain ⟨b, off, e, hb, hc⟩ := h.rd (by intro e; apply hne; rw [List.map_take, e]; simp)
  refine ⟨b, off, e, hb, fun j u hu => ?_⟩
  rw [List.map_take, List.getElem?_take] at hu
  split at hu
  · exact hc j u hu
  · cases hu
end Go.Proofs.YtbplchpbaonadaaDoor
