/-
  Appending, and where the new slice lies: in the old one's block, or in the block that was just made.
-/
import Derived.Test.YtamkbedbkjndgaaRow
import Derived.Maps.AppendAt
import Derived.Deep.AppendLies
import Derived.Deep.RegionHeldLaw
namespace Go.Proofs.Ytamkbedbkjndgaa
open Go.RowKit Go
set_option linter.unusedVariables false
section
variable (w : World)
/-- APPENDING BYTES to bytes that the call owns: the source may be nil, empty, or anything that reads as bytes. -/
theorem run_appt (base : Nat) (A0 : Option Addr) (n0 c0 : Nat) (bs : List UInt8) (hown : OwnB w base A0 n0 c0 bs)
    (B : Nat) (A : Option Addr) (c : Nat) (news : List UInt8) (hr : Bs w B A news) (hlim : bs.length + news.length ≤ 140737488355328) (hbase : base ≤ w.heap.size) :
    ∃ A' c' w', (Builtin.append_ #[22, 22] 22 #[.slice A0 n0 c0, .slice A news.length c]).run Try.prog w = .ok (.slice A' (n0 + news.length) c') w' ∧
      OwnB w' base A' (n0 + news.length) c' (bs ++ news) ∧ w.grownBy w' (blk A0) ∧ (blk A' = blk A0 ∨ blk A' = some w.heap.size) := by
  obtain ⟨i, hi, hz0, hz1, hz2⟩ := info_parts u8_info
  have hlen := hown.len
  rcases A with _ | ad
  · have hn : news = [] := by
      rcases news with _ | ⟨q, r⟩
      · rfl
      · obtain ⟨b, off, e, _⟩ := hr (by simp)
        cases e
    subst hn
    refine ⟨A0, c0, w, ?_, by simpa using hown, World.grownBy.refl w _, .inl rfl⟩
    rcases hown.2 with ⟨hv, rfl⟩ | ⟨g, cap, cur, hv, _, _, hnc, _⟩
    · injection hv with h1 h2 h3
      subst h1; subst h3
      simp [Builtin.append_, run_underlying Try.underlying22, sizeOf, typeInfo, hi, Builtin.lenOf, Builtin.firstCells]
    · injection hv with h1 h2 h3
      subst h1; subst h3
      simp [Builtin.append_, run_underlying Try.underlying22, sizeOf, typeInfo, hi, Builtin.lenOf, Builtin.firstCells, hnc, storeCells]
  · have hnews : ∀ j u, (news.map bv)[j]? = some u → w.cell? (ad.add j) = some u := by
      intro j u hj
      rcases news with _ | ⟨q, r⟩
      · simp at hj
      · obtain ⟨b, off, e, _, hc⟩ := hr (by simp)
        injection e with e
        subst e
        have hjl : j < (q :: r).length := by
          rcases Nat.lt_or_ge j (q :: r).length with h | h
          · exact h
          · rw [List.getElem?_eq_none (by simpa using h)] at hj; cases hj
        rw [List.getElem?_map, List.getElem?_eq_getElem hjl] at hj
        injection hj with hj
        have hadd : (⟨b, off, none⟩ : Addr).add j = ⟨b, off + j, none⟩ := by unfold Addr.add; split <;> simp_all
        rw [hadd, hc j hjl, ← hj]
    obtain ⟨v', w', hrun, h2, h3, _, h5⟩ := run_append_own_at (P := Try.prog) w base 22 22 5 i (.int .u8 0) 1 1 Try.underlying22 hi hz0 hz1 hz2 rfl (by decide) (.slice A0 n0 c0) n0 (bs.map bv) hown ad news.length c (news.map bv)
      (by simp) hnews (by intro u hu; simp at hu; obtain ⟨q, _, rfl⟩ := hu; rfl) (by unfold maxLen; omega) (by omega) hbase
    rw [blk_own] at h3 h5
    rcases h2.2 with ⟨rfl, hn0⟩ | ⟨g, cap, cur, rfl, hg⟩
    · refine ⟨none, 0, w', by rw [hrun, hn0], ?_, h3, by rw [blk_own] at h5; exact h5⟩
      unfold OwnB
      rw [List.map_append]
      rw [hn0] at h2 ⊢
      exact h2
    · refine ⟨some ⟨g, 0, none⟩, cap, w', hrun, ?_, h3, by rw [blk_own] at h5; exact h5⟩
      unfold OwnB
      rw [List.map_append]
      exact h2
end
section
variable {w : World} {ops : Array Oper} {rest : List Oper} {o : Oper} {a : Act} {Q : Exit → Act → World → Prop}
theorem wpList_apt (s x : Operand) (ho : o.op = .call { callee := .builtin .append, args := #[s, x], argTypes := #[22, 22] }) (hgd : o.guard = none) (hty : o.type = 22)
    (base : Nat) (A0 : Option Addr) (n0 c0 : Nat) (bs : List UInt8) (hs : a.eval s = .slice A0 n0 c0) (hown : OwnB w base A0 n0 c0 bs)
    (A : Option Addr) (m c : Nat) (news : List UInt8) (hx : a.eval x = .slice A m c) (hr : RB w A m news) (hlim : n0 + m ≤ 140737488355328) (hbase : base ≤ w.heap.size)
    (h : ∀ A' c' w', OwnB w' base A' (n0 + m) c' (bs ++ news) → w.grownBy w' (blk A0) → (blk A' = blk A0 ∨ blk A' = some w.heap.size) → wpList Try.prog ops Q rest (a.put o.dst (.slice A' (n0 + m) c')) w') : wpList Try.prog ops Q (o :: rest) a w := by
  obtain ⟨rfl, hb⟩ := hr
  refine wpList_plain hgd fun K hK => ?_
  obtain ⟨A', c', w', hrun, h2, h3, h4⟩ := run_appt w base A0 n0 c0 bs hown w.heap.size A c news hb (by rw [hown.len]; exact hlim) hbase
  unfold Oper.wp execOp
  simp only [ho, resolve, invoke, builtin, Sem.run_bind, Sem.run_pure, Result.andThen_ok, List.map_toArray, List.map_cons, List.map_nil, hs, hx, hty, hrun]
  exact hK _ _ (h A' c' w' h2 h3 h4)
theorem wpList_appRt {s e k bytes : Nat} {z : Value} (T : RowT s e k bytes z) (sOp xOp : Operand) (ho : o.op = .call { callee := .builtin .append, args := #[sOp, xOp], argTypes := #[s, s] }) (hgd : o.guard = none) (hty : o.type = s)
    (base : Nat) (V : Option Addr) (m c0 : Nat) (vs : List Value) (hs : a.eval sOp = .slice V m c0) (hown : OwnR w base e k V m c0 vs)
    (ad : Addr) (nn c : Nat) (news : List Value) (hx : a.eval xOp = .slice (some ad) nn c) (hl : news.length = nn * k) (hnews : ∀ (j : Nat) (u : Value), news[j]? = some u → w.cell? (ad.add j) = some u) (h1 : ∀ u ∈ news, u.oneCell' = true)
    (hlim : m + nn ≤ maxLen) (hbytes : (m + nn) * bytes ≤ 140737488355328) (hbase : base ≤ w.heap.size)
    (h : ∀ V' c' w', OwnR w' base e k V' (m + nn) c' (vs ++ news) → w.grownBy w' (blk V) → (blk V' = blk V ∨ blk V' = some w.heap.size) → wpList Try.prog ops Q rest (a.put o.dst (.slice V' (m + nn) c')) w') : wpList Try.prog ops Q (o :: rest) a w := by
  refine wpList_plain hgd fun K hK => ?_
  obtain ⟨i, hi, hz0, hz1, hz2⟩ := info_parts T.info
  obtain ⟨v', w', hrun, h2, h3, _, h5⟩ := run_append_own_at (P := Try.prog) w base s s e i z k bytes T.und hi hz0 hz1 hz2 T.zs T.pos (.slice V m c0) m vs hown ad nn c news hl hnews h1 hlim hbytes hbase
  rw [blk_own] at h3 h5
  have hsh : ∃ V' c', v' = .slice V' (m + nn) c' := by
    rcases h2.2 with ⟨rfl, hn⟩ | ⟨g, cap, cur, rfl, _⟩
    · exact ⟨none, 0, by rw [hn]⟩
    · exact ⟨_, _, rfl⟩
  obtain ⟨V', c', rfl⟩ := hsh
  rw [blk_own] at h5
  unfold Oper.wp execOp
  simp only [ho, resolve, invoke, builtin, Sem.run_bind, Sem.run_pure, Result.andThen_ok, List.map_toArray, List.map_cons, List.map_nil, hs, hx, hty, hrun]
  exact hK _ _ (h V' c' w' h2 h3 h5)
/-- Appending a list that was just built. -/
theorem wpList_appLt {s e k bytes : Nat} {z : Value} (T : RowT s e k bytes z) (sOp xOp : Operand) (ho : o.op = .call { callee := .builtin .append, args := #[sOp, xOp], argTypes := #[s, s] }) (hgd : o.guard = none) (hty : o.type = s)
    (base : Nat) (V : Option Addr) (m c0 : Nat) (vs : List Value) (hs : a.eval sOp = .slice V m c0) (hown : OwnR w base e k V m c0 vs)
    (g nn c : Nat) (cs : Array Value) (mk : Nat × Nat) (hx : a.eval xOp = .slice (some ⟨g, 0, none⟩) nn c) (hg : w.heap[g]? = some (.cells cs e mk)) (hl : cs.size = nn * k) (h1 : ∀ u ∈ cs.toList, u.oneCell' = true)
    (hlim : m + nn ≤ maxLen) (hbytes : (m + nn) * bytes ≤ 140737488355328) (hbase : base ≤ w.heap.size)
    (h : ∀ V' c' w', OwnR w' base e k V' (m + nn) c' (vs ++ cs.toList) → w.grownBy w' (blk V) → (blk V' = blk V ∨ blk V' = some w.heap.size) → wpList Try.prog ops Q rest (a.put o.dst (.slice V' (m + nn) c')) w') : wpList Try.prog ops Q (o :: rest) a w :=
  wpList_appRt T sOp xOp ho hgd hty base V m c0 vs hs hown ⟨g, 0, none⟩ nn c cs.toList hx (by simpa using hl) (cells_lit w g cs e mk hg) h1 hlim hbytes hbase h
end
/-- Two that lie in unlike blocks still do when one of them has grown. -/
theorem far_grown {w : World} {A A' B : Option Addr} (h : blk A = none ∨ blk A ≠ blk B) (h4 : blk A' = blk A ∨ blk A' = some w.heap.size) (hB : ∀ g, blk B = some g → g < w.heap.size) : blk A' = none ∨ blk A' ≠ blk B := by
  rcases h4 with e | e
  · rw [e]; exact h
  · right; rw [e]; intro e2; have := hB _ e2.symm; omega
end Go.Proofs.Ytamkbedbkjndgaa
namespace Go.Proofs.Ytamkbedbkjndgaa
open Go.RowKit Go
set_option linter.unusedVariables false
theorem step_appR {s e k bytes : _} {z : Value} (T : RowT s e k bytes z) {w : World} {ops : Array Oper} {o : Oper} {a : Act} {K : Act → World → Prop} {Q : Exit → Act → World → Prop} {E : Prop} (hgd : o.guard = none) (sOp xOp : Operand)
    (ho : o.op = .call { callee := .builtin .append, args := #[sOp, xOp], argTypes := #[s, s] })
    (base : Nat) (V : Option Addr) (m c0 : Nat) (vs : List Value) (hs : a.eval sOp = .slice V m c0) (hown : OwnR w base e k V m c0 vs)
    (ad : Addr) (nn c : Nat) (news : List Value) (hx : a.eval xOp = .slice (some ad) nn c) (hl : news.length = nn * k) (hnews : ∀ (j : Nat) (u : Value), news[j]? = some u → w.cell? (ad.add j) = some u) (h1 : ∀ u ∈ news, u.oneCell' = true)
    (hm : 0 < nn) (hlim : m + nn ≤ maxLen) (hbytes : (m + nn) * bytes ≤ 140737488355328) (hbase : base ≤ w.heap.size)
    (h : ∀ g c' w', OwnR w' base e k (some ⟨g, 0, none⟩) (m + nn) c' (vs ++ news) → w.grownBy w' (blk V) → (blk V = some g ∨ g = w.heap.size) → K (a.put o.dst (.slice (some ⟨g, 0, none⟩) (m + nn) c')) w') :
    if Region.wanted o (yielded ops a.tmps) = true then Oper.wp Try.prog o a w K Q else E := by
  obtain ⟨i, hi, hz0, hz1, hz2⟩ := info_parts T.info
  refine step_append_lies w hgd sOp xOp s ho base e i z k bytes T.und hi hz0 hz1 hz2 T.zs T.pos (.slice V m c0) m vs hs hown ad nn c news hx hl hnews h1 hm hlim hbytes hbase w.heap.size rfl fun g cap w' h2 h3 h4 _ => h g cap w' h2 ?_ ?_
  · rw [blk_own] at h3; exact h3
  · rw [blk_own] at h4; exact h4
end Go.Proofs.Ytamkbedbkjndgaa
