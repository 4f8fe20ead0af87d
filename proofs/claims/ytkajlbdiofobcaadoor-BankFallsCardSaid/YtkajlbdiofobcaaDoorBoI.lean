/-
  bank: Add with the power armed, as plain data; appending rows that may be nil.
-/
import Derived.Test.YtkajlbdiofobcaaDoorBo2
namespace Go.Proofs.YtkajlbdiofobcaaDoor
open Go.RowKit Go
set_option linter.unusedVariables false
set_option linter.unusedSimpArgs false
set_option maxRecDepth 100000
/-- What Add comes to on a bank that was laid, with the power armed. -/
theorem add_armed (F C : Nat) (S : FS) (A h B : List UInt8) (rs : List RL) (k : Nat) (key val : List UInt8) (T : FS) (r : Int) (h2 : 0 < S.left) (h3 : S.bs = A ++ bankL h rs k ++ B) (h4 : A.length = F * S.s) (h5 : (bankL h rs k).length = C * S.s) (hh : h.length = 16) (hr : ∀ r ∈ rs, r.ok) (ha : AddIs S F C key val T r) :
    (T = S ∧ (r = 1 ∨ r = 5)) ∨
    ((1 ≤ key.length ∧ key.length ≤ 255 ∧ val.length ≤ 65536) ∧ r = 0 ∧ T = { S with left := S.left - (13 + key.length + val.length), wr := S.wr + (13 + key.length + val.length), bs := A ++ bankL h (rs ++ [⟨key, val, true⟩]) (k - (12 + key.length + val.length)) ++ B } ∧ 12 + key.length + val.length ≤ k) ∨
    (r = 6 ∧ ∃ rest, rest.length = k ∧ recQ rest = none ∧ T = { S with off := true, left := 0, wr := S.wr + (S.left - 1), bs := A ++ (h ++ layAll rs ++ rest) ++ B }) := by
  by_cases hn : 1 ≤ key.length ∧ key.length ≤ 255 ∧ val.length ≤ 65536
  · have hb := bank_of h3 h4 h5
    unfold AddIs at ha
    rw [if_pos hn, hb] at ha
    obtain ⟨l, q, hs, hif⟩ := ha
    obtain ⟨_, rfl⟩ := scan_one hs (scan_bankL h rs k hh hr)
    rw [whole_laid h rs k hh, if_neg (by decide)] at hif
    rcases Nat.lt_or_ge k (12 + key.length + val.length) with hk | hk
    · rw [if_pos (by rw [← h5, bankL_len, hh]; omega)] at hif
      exact .inl ⟨hif.1, .inr hif.2⟩
    · rw [if_neg (by rw [← h5, bankL_len, hh]; omega)] at hif
      rw [← h4] at hif
      rcases addQ_laid A h B rs k key val S h3 hh hk with ⟨_, e1, e2⟩ | ⟨_, _, e1, rest, e2, e3, e4⟩
      · right; left
        exact ⟨hn, hif.2.trans e1, hif.1.trans e2, hk⟩
      · right; right
        exact ⟨hif.2.trans e1, rest, e2, e3, hif.1.trans e4⟩
  · left
    unfold AddIs at ha
    rw [if_neg hn] at ha
    exact ⟨ha.1, .inl ha.2⟩
section
variable {w : World} {ops : Array Oper} {rest : List Oper} {o : Oper} {a : Act} {Q : Exit → Act → World → Prop}
/-- 'append(.., x...)' of a row that is read, nil too. -/
theorem wpList_appV {s e k bytes : Nat} {z : Value} (T : RowT s e k bytes z) (sOp xOp : Operand) (ho : o.op = .call { callee := .builtin .append, args := #[sOp, xOp], argTypes := #[s, s] }) (hgd : o.guard = none) (hty : o.type = s)
    (base : Nat) (V : Option Addr) (m c0 : Nat) (vs : List Value) (hs : a.eval sOp = .slice V m c0) (hown : OwnR w base e k V m c0 vs)
    (A : Option Addr) (nn c : Nat) (news : List Value) (hx : a.eval xOp = .slice A nn c) (hl : news.length = nn * k) (hnews : ReadR w A news) (h1 : ∀ u ∈ news, u.oneCell' = true)
    (hlim : m + nn ≤ maxLen) (hbytes : (m + nn) * bytes ≤ 140737488355328) (hbase : base ≤ w.heap.size)
    (h : ∀ V' c' w', OwnR w' base e k V' (m + nn) c' (vs ++ news) → w.grownBy w' (blk V) → wpList Tryd.prog ops Q rest (a.put o.dst (.slice V' (m + nn) c')) w') : wpList Tryd.prog ops Q (o :: rest) a w := by
  cases A with
  | some ad =>
    refine wpList_appR T sOp xOp ho hgd hty base V m c0 vs hs hown ad nn c news hx hl ?_ h1 hlim hbytes hbase h
    intro j u hu
    obtain ⟨b, off, e1, hb, hc⟩ := hnews.at_ hu
    injection e1 with e1
    subst e1
    have : (⟨b, off, none⟩ : Addr).add j = ⟨b, off + j, none⟩ := by unfold Addr.add; split <;> simp_all
    rw [this]
    exact hc
  | none =>
    have hn0 : news = [] := by
      rcases news with _ | ⟨u, us⟩
      · rfl
      · obtain ⟨b, off, e1, _⟩ := hnews (by simp)
        cases e1
    subst hn0
    obtain rfl : nn = 0 := by
      have hp := T.pos
      rcases Nat.eq_zero_or_pos nn with h1 | h1
      · exact h1
      · have : 0 < nn * k := Nat.mul_pos h1 hp
        rw [← hl] at this
        simp at this
    refine wpList_plain hgd fun K hK => ?_
    obtain ⟨i, hi, hz0, hz1, hz2⟩ := info_parts T.info
    have hrun : (Builtin.append_ #[s, s] s #[.slice V m c0, .slice none 0 c]).run Tryd.prog w = .ok (.slice V m c0) w := by
      rcases hown.2 with ⟨hv, rfl⟩ | ⟨g, cap, cur, hv, _, _, hnc, _⟩
      · injection hv with h1 h2 h3
        subst h1; subst h3
        simp [Builtin.append_, run_underlying T.und, sizeOf, typeInfo, hi, Builtin.lenOf, Builtin.firstCells]
      · injection hv with h1 h2 h3
        subst h1; subst h3
        simp [Builtin.append_, run_underlying T.und, sizeOf, typeInfo, hi, Builtin.lenOf, Builtin.firstCells, hnc, storeCells]
    unfold Oper.wp execOp
    simp only [ho, resolve, invoke, builtin, Sem.run_bind, Sem.run_pure, Result.andThen_ok, List.map_toArray, List.map_cons, List.map_nil, hs, hx, hty, hrun]
    refine hK _ _ (h V c0 w ?_ (World.grownBy.refl w _))
    show OwnR w base e k V (m + 0) c0 (vs ++ [])
    rw [List.append_nil]
    exact hown
end
theorem dcells_one : ∀ (ds : List DV), ∀ u ∈ ds.flatMap DV.cells, u.oneCell' = true := fun ds u hu => by
  obtain ⟨x, _, hx⟩ := List.mem_flatMap.1 hu
  simp [DV.cells] at hx
  rcases hx with rfl | rfl | rfl <;> rfl
end Go.Proofs.YtkajlbdiofobcaaDoor
