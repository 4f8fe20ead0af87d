/-
  Appending a string's bytes.
-/
import Derived.Test.YtfampefflkkckaaDoorOwn
import Derived.Lib.AppendStr
namespace Go.Proofs.YtfampefflkkckaaDoor
open Go.RowKit Go
set_option linter.unusedVariables false
theorem run_aps (w : World) (base : Nat) (A0 : Option Addr) (n0 c0 : Nat) (bs : List UInt8) (hown : OwnB w base A0 n0 c0 bs) (s : ByteArray) (hlim : n0 + s.size ≤ 140737488355328) (hbase : base ≤ w.heap.size) :
    ∃ A' c' w', (Builtin.append_ #[22, 9] 22 #[.slice A0 n0 c0, .string s]).run Tryd.prog w = .ok (.slice A' (n0 + s.size) c') w' ∧
      OwnB w' base A' (n0 + s.size) c' (bs ++ s.data.toList) ∧ w.grownBy w' (blk A0) := by
  obtain ⟨i, hi, hz0, hz1, hz2⟩ := info_parts u8_info
  obtain ⟨v', w', hrun, h2, h3, _⟩ := Lib.run_append_own_string (P := Tryd.prog) w base 22 9 22 5 i Tryd.underlying22 Tryd.underlying9 hi hz0 hz1 hz2 (.slice A0 n0 c0) n0 (bs.map bv) hown s (by unfold maxLen; omega) hlim hbase
  rw [blk_own] at h3
  rcases h2.2 with ⟨rfl, hn0⟩ | ⟨g, cap, cur, rfl, hg⟩
  · refine ⟨none, 0, w', by rw [hrun, hn0], ?_, h3⟩
    unfold OwnB
    rw [List.map_append]
    rw [hn0] at h2 ⊢
    exact h2
  · refine ⟨some ⟨g, 0, none⟩, cap, w', hrun, ?_, h3⟩
    unfold OwnB
    rw [List.map_append]
    exact h2
theorem wpList_aps {w : World} {ops : Array Oper} {rest : List Oper} {o : Oper} {a : Act} {Q : Exit → Act → World → Prop} (s x : Operand) (ho : o.op = .call { callee := .builtin .append, args := #[s, x], argTypes := #[22, 9] }) (hgd : o.guard = none) (hty : o.type = 22)
    (base : Nat) (A0 : Option Addr) (n0 c0 : Nat) (bs : List UInt8) (hs : a.eval s = .slice A0 n0 c0) (hown : OwnB w base A0 n0 c0 bs)
    (S : ByteArray) (hx : a.eval x = .string S) (hlim : n0 + S.size ≤ 140737488355328) (hbase : base ≤ w.heap.size)
    (h : ∀ A' c' w', OwnB w' base A' (n0 + S.size) c' (bs ++ S.data.toList) → w.grownBy w' (blk A0) → wpList Tryd.prog ops Q rest (a.put o.dst (.slice A' (n0 + S.size) c')) w') : wpList Tryd.prog ops Q (o :: rest) a w := by
  refine wpList_plain hgd fun K hK => ?_
  obtain ⟨A', c', w', hrun, h2, h3⟩ := run_aps w base A0 n0 c0 bs hown S hlim hbase
  unfold Oper.wp execOp
  simp only [ho, resolve, invoke, builtin, Sem.run_bind, Sem.run_pure, Result.andThen_ok, List.map_toArray, List.map_cons, List.map_nil, hs, hx, hty, hrun]
  exact hK _ _ (h A' c' w' h2 h3)
end Go.Proofs.YtfampefflkkckaaDoor
