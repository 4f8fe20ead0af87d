/-
  Appending, and where the new slice lies: in the old one's block, or in the block that was just made.
-/
import Derived.Test.YtomolfdcdmncoaaCb1
import Derived.Maps.AppendAt
import Derived.Lib.AppendZerosOnto
import Derived.Lib.AppendZeros
import Derived.Lib.AppendStr
import Derived.Test.YtomolfdcdmncoaaCb6
import Derived.Test.YtomolfdcdmncoaaCb4
import Derived.Test.YtomolfdcdmncoaaCb3
namespace Go.Proofs.Ytomolfdcdmncoaa
open Go.RowKit Go
set_option linter.unusedVariables false
set_option maxRecDepth 100000
section
variable (w : World)
/-- APPENDING BYTES to bytes that the call owns: the source may be nil, empty, or anything that reads as bytes. -/
theorem run_appt (base : Nat) (A0 : Option Addr) (n0 c0 : Nat) (bs : List UInt8) (hown : OwnB w base A0 n0 c0 bs)
    (B : Nat) (A : Option Addr) (c : Nat) (news : List UInt8) (hr : Bs w B A news) (hlim : bs.length + news.length ≤ 140737488355328) (hbase : base ≤ w.heap.size) :
    ∃ A' c' w', (Builtin.append_ #[22, 22] 22 #[.slice A0 n0 c0, .slice A news.length c]).run Try.prog w = .ok (.slice A' (n0 + news.length) c') w' ∧
      OwnB w' base A' (n0 + news.length) c' (bs ++ news) ∧ w.grownBy w' (blk A0) ∧ (blk A' = blk A0 ∨ blk A' = some w.heap.size) := by
  obtain ⟨i, hi, hz0, hz1, hz2⟩ := info_parts u8_info
  have hlen := hown.len
  rcases A with _ | ad
  · have hn : news = [] := by
      rcases news with _ | ⟨q, r⟩
      · rfl
      · obtain ⟨b, off, e, _⟩ := hr (by simp)
        cases e
    subst hn
    refine ⟨A0, c0, w, ?_, by simpa using hown, World.grownBy.refl w _, .inl rfl⟩
    rcases hown.2 with ⟨hv, rfl⟩ | ⟨g, cap, cur, hv, _, _, hnc, _⟩
    · injection hv with h1 h2 h3
      subst h1; subst h3
      simp [Builtin.append_, run_underlying Try.underlying22, sizeOf, typeInfo, hi, Builtin.lenOf, Builtin.firstCells]
    · injection hv with h1 h2 h3
      subst h1; subst h3
      simp [Builtin.append_, run_underlying Try.underlying22, sizeOf, typeInfo, hi, Builtin.lenOf, Builtin.firstCells, hnc, storeCells]
  · have hnews : ∀ j u, (news.map bv)[j]? = some u → w.cell? (ad.add j) = some u := by
      intro j u hj
      rcases news with _ | ⟨q, r⟩
      · simp at hj
      · obtain ⟨b, off, e, _, hc⟩ := hr (by simp)
        injection e with e
        subst e
        have hjl : j < (q :: r).length := by
          rcases Nat.lt_or_ge j (q :: r).length with h | h
          · exact h
          · rw [List.getElem?_eq_none (by simpa using h)] at hj; cases hj
        rw [List.getElem?_map, List.getElem?_eq_getElem hjl] at hj
        injection hj with hj
        have hadd : (⟨b, off, none⟩ : Addr).add j = ⟨b, off + j, none⟩ := by unfold Addr.add; split <;> simp_all
        rw [hadd, hc j hjl, ← hj]
    obtain ⟨v', w', hrun, h2, h3, _, h5⟩ := run_append_own_at (P := Try.prog) w base 22 22 5 i (.int .u8 0) 1 1 Try.underlying22 hi hz0 hz1 hz2 rfl (by decide) (.slice A0 n0 c0) n0 (bs.map bv) hown ad news.length c (news.map bv)
      (by simp) hnews (by intro u hu; simp at hu; obtain ⟨q, _, rfl⟩ := hu; rfl) (by unfold maxLen; omega) (by omega) hbase
    rw [blk_own] at h3 h5
    rcases h2.2 with ⟨rfl, hn0⟩ | ⟨g, cap, cur, rfl, hg⟩
    · refine ⟨none, 0, w', by rw [hrun, hn0], ?_, h3, by rw [blk_own] at h5; exact h5⟩
      unfold OwnB
      rw [List.map_append]
      rw [hn0] at h2 ⊢
      exact h2
    · refine ⟨some ⟨g, 0, none⟩, cap, w', hrun, ?_, h3, by rw [blk_own] at h5; exact h5⟩
      unfold OwnB
      rw [List.map_append]
      exact h2
end
section
variable {w : World} {ops : Array Oper} {rest : List Oper} {o : Oper} {a : Act} {Q : Exit → Act → World → Prop}
theorem wpList_apt (s x : Operand) (ho : o.op = .call { callee := .builtin .append, args := #[s, x], argTypes := #[22, 22] }) (hgd : o.guard = none) (hty : o.type = 22)
    (base : Nat) (A0 : Option Addr) (n0 c0 : Nat) (bs : List UInt8) (hs : a.eval s = .slice A0 n0 c0) (hown : OwnB w base A0 n0 c0 bs)
    (A : Option Addr) (m c : Nat) (news : List UInt8) (hx : a.eval x = .slice A m c) (hr : RB w A m news) (hlim : n0 + m ≤ 140737488355328) (hbase : base ≤ w.heap.size)
    (h : ∀ A' c' w', OwnB w' base A' (n0 + m) c' (bs ++ news) → w.grownBy w' (blk A0) → (blk A' = blk A0 ∨ blk A' = some w.heap.size) → wpList Try.prog ops Q rest (a.put o.dst (.slice A' (n0 + m) c')) w') : wpList Try.prog ops Q (o :: rest) a w := by
  obtain ⟨rfl, hb⟩ := hr
  refine wpList_plain hgd fun K hK => ?_
  obtain ⟨A', c', w', hrun, h2, h3, h4⟩ := run_appt w base A0 n0 c0 bs hown w.heap.size A c news hb (by rw [hown.len]; exact hlim) hbase
  unfold Oper.wp execOp
  simp only [ho, resolve, invoke, builtin, Sem.run_bind, Sem.run_pure, Result.andThen_ok, List.map_toArray, List.map_cons, List.map_nil, hs, hx, hty, hrun]
  exact hK _ _ (h A' c' w' h2 h3 h4)
theorem wpList_appRt {s e k bytes : Nat} {z : Value} (T : RowT s e k bytes z) (sOp xOp : Operand) (ho : o.op = .call { callee := .builtin .append, args := #[sOp, xOp], argTypes := #[s, s] }) (hgd : o.guard = none) (hty : o.type = s)
    (base : Nat) (V : Option Addr) (m c0 : Nat) (vs : List Value) (hs : a.eval sOp = .slice V m c0) (hown : OwnR w base e k V m c0 vs)
    (ad : Addr) (nn c : Nat) (news : List Value) (hx : a.eval xOp = .slice (some ad) nn c) (hl : news.length = nn * k) (hnews : ∀ (j : Nat) (u : Value), news[j]? = some u → w.cell? (ad.add j) = some u) (h1 : ∀ u ∈ news, u.oneCell' = true)
    (hlim : m + nn ≤ maxLen) (hbytes : (m + nn) * bytes ≤ 140737488355328) (hbase : base ≤ w.heap.size)
    (h : ∀ V' c' w', OwnR w' base e k V' (m + nn) c' (vs ++ news) → w.grownBy w' (blk V) → (blk V' = blk V ∨ blk V' = some w.heap.size) → wpList Try.prog ops Q rest (a.put o.dst (.slice V' (m + nn) c')) w') : wpList Try.prog ops Q (o :: rest) a w := by
  refine wpList_plain hgd fun K hK => ?_
  obtain ⟨i, hi, hz0, hz1, hz2⟩ := info_parts T.info
  obtain ⟨v', w', hrun, h2, h3, _, h5⟩ := run_append_own_at (P := Try.prog) w base s s e i z k bytes T.und hi hz0 hz1 hz2 T.zs T.pos (.slice V m c0) m vs hown ad nn c news hl hnews h1 hlim hbytes hbase
  rw [blk_own] at h3 h5
  have hsh : ∃ V' c', v' = .slice V' (m + nn) c' := by
    rcases h2.2 with ⟨rfl, hn⟩ | ⟨g, cap, cur, rfl, _⟩
    · exact ⟨none, 0, by rw [hn]⟩
    · exact ⟨_, _, rfl⟩
  obtain ⟨V', c', rfl⟩ := hsh
  rw [blk_own] at h5
  unfold Oper.wp execOp
  simp only [ho, resolve, invoke, builtin, Sem.run_bind, Sem.run_pure, Result.andThen_ok, List.map_toArray, List.map_cons, List.map_nil, hs, hx, hty, hrun]
  exact hK _ _ (h V' c' w' h2 h3 h5)
/-- Appending a list that was just built. -/
theorem wpList_appLt {s e k bytes : Nat} {z : Value} (T : RowT s e k bytes z) (sOp xOp : Operand) (ho : o.op = .call { callee := .builtin .append, args := #[sOp, xOp], argTypes := #[s, s] }) (hgd : o.guard = none) (hty : o.type = s)
    (base : Nat) (V : Option Addr) (m c0 : Nat) (vs : List Value) (hs : a.eval sOp = .slice V m c0) (hown : OwnR w base e k V m c0 vs)
    (g nn c : Nat) (cs : Array Value) (mk : Nat × Nat) (hx : a.eval xOp = .slice (some ⟨g, 0, none⟩) nn c) (hg : w.heap[g]? = some (.cells cs e mk)) (hl : cs.size = nn * k) (h1 : ∀ u ∈ cs.toList, u.oneCell' = true)
    (hlim : m + nn ≤ maxLen) (hbytes : (m + nn) * bytes ≤ 140737488355328) (hbase : base ≤ w.heap.size)
    (h : ∀ V' c' w', OwnR w' base e k V' (m + nn) c' (vs ++ cs.toList) → w.grownBy w' (blk V) → (blk V' = blk V ∨ blk V' = some w.heap.size) → wpList Try.prog ops Q rest (a.put o.dst (.slice V' (m + nn) c')) w') : wpList Try.prog ops Q (o :: rest) a w :=
  wpList_appRt T sOp xOp ho hgd hty base V m c0 vs hs hown ⟨g, 0, none⟩ nn c cs.toList hx (by simpa using hl) (cells_lit w g cs e mk hg) h1 hlim hbytes hbase h
end
/-- Two that lie in unlike blocks still do when one of them has grown. -/
theorem far_grown {w : World} {A A' B : Option Addr} (h : blk A = none ∨ blk A ≠ blk B) (h4 : blk A' = blk A ∨ blk A' = some w.heap.size) (hB : ∀ g, blk B = some g → g < w.heap.size) : blk A' = none ∨ blk A' ≠ blk B := by
  rcases h4 with e | e
  · rw [e]; exact h
  · right; rw [e]; intro e2; have := hB _ e2.symm; omega
end Go.Proofs.Ytomolfdcdmncoaa
namespace Go.Proofs.Ytomolfdcdmncoaa
open Go.RowKit Go
set_option linter.unusedVariables false
set_option maxRecDepth 100000
theorem zeros_list (k : Nat) : (Builtin.zeroCells (Value.int .u8 0).cells k).toList = (List.replicate k (0 : UInt8)).map bv := by
  have h := toList_madeCells_one (.int .u8 0) k
  have e : bv 0 = .int .u8 0 := rfl
  rw [List.map_replicate, e]
  simpa [Builtin.zeroCells, madeCells, Value.cells] using h
section
variable (w : World)
theorem run_appz (base : Nat) (A0 : Option Addr) (n0 c0 : Nat) (bs : List UInt8) (hown : OwnB w base A0 n0 c0 bs) (k : Nat) (h0 : 0 < k) (hlim : n0 + k ≤ 140737488355328) (hbase : base ≤ w.heap.size) :
    ∃ A' c' w', (Builtin.append_ #[22, 3] 22 #[.slice A0 n0 c0, .int .i64 (k : Int)]).run Try.prog w = .ok (.slice A' (n0 + k) c') w' ∧
      OwnB w' base A' (n0 + k) c' (bs ++ List.replicate k 0) ∧ w.grownBy w' (blk A0) := by
  obtain ⟨i, hi, hz0, hz1, hz2⟩ := info_parts u8_info
  have hlen := hown.len
  have hzl := zeros_list k
  have hzs : (Builtin.zeroCells (Value.int .u8 0).cells k).toList.length = k := by rw [hzl]; simp
  by_cases hroom : n0 + k ≤ c0
  · rcases hown.2 with ⟨hv, hn⟩ | ⟨g, cap, cur, hv, hb, hh, hle, hm, hcs, htk⟩
    · injection hv with _ _ h3; omega
    · injection hv with h1 _ h3
      subst h1; subst h3
      simp only [Nat.mul_one] at hcs htk
      have hl : cur.toList.length = c0 := by simpa using hcs
      have hst := run_storeCells_at Try.prog g n0 5 (Builtin.zeroCells (Value.int .u8 0).cells k).toList 0 cur w hh (by rw [hzs, hcs]; omega) (by rw [hzl]; intro u hu; simp at hu; obtain ⟨_, rfl⟩ := hu; rfl)
      have hw : IntKind.i64.wrap (k : Int) = k := by rw [IntKind.wrap_i64]; omega
      have hneg : ¬ ((k : Int) < 0) := by omega
      have h48i : ¬ (281474976710656 < (k : Int) * (i.bytes : Int)) := by rw [hz2]; omega
      have hns : ¬ (k = 0) := by omega
      have hr : (Builtin.append_ #[22, 3] 22 #[.slice (some ⟨g, 0, none⟩) n0 c0, .int .i64 (k : Int)]).run Try.prog w = .ok (.slice (some ⟨g, 0, none⟩) (n0 + k) c0) (w.setRow g (cur.toList.take n0 ++ (Builtin.zeroCells (Value.int .u8 0).cells k).toList ++ cur.toList.drop (n0 + k)).toArray) := by
        rw [hzs] at hst
        simp only [Nat.add_zero] at hst
        simp [Builtin.append_, run_underlying Try.underlying22, run_underlying Try.underlying3, sizeOf, typeInfo, zeroValue, hi, hz0, hz1, asInt, asIntOf, hw, hneg, h48i, hns, hroom, Addr.add_lit, hst]
      have hsz : (cur.toList.take n0 ++ (Builtin.zeroCells (Value.int .u8 0).cells k).toList ++ cur.toList.drop (n0 + k)).length = c0 := by
        simp only [List.length_append, List.length_take, List.length_drop, hl, hzs]; omega
      have hh' := setRow_heap w g cur (cur.toList.take n0 ++ (Builtin.zeroCells (Value.int .u8 0).cells k).toList ++ cur.toList.drop (n0 + k)).toArray _ _ hh
      have htk2 : (cur.toList.take n0 ++ (Builtin.zeroCells (Value.int .u8 0).cells k).toList ++ cur.toList.drop (n0 + k)).take (n0 + k) = (bs ++ List.replicate k 0).map bv := by
        rw [List.take_append_of_le_length (by rw [List.length_append, List.length_take, hl, hzs]; omega), List.take_of_length_le (by rw [List.length_append, List.length_take, hl, hzs]; omega), htk, hzl, List.map_append]
      refine ⟨_, _, _, hr, ⟨by simp [hlen], .inr ⟨g, c0, _, rfl, hb, hh', hroom, hm, by simpa using hsz, by simpa using htk2⟩⟩, ⟨rfl, rfl, rfl, by simp [World.setRow], fun j _ hj => setRow_other w g j _ (fun e => hj (by rw [e]; rfl))⟩⟩
  · have hge := grownCap_ge w (n0 + k) c0 5
    have hcm : grownCap w (n0 + k) c0 5 ≤ maxLen := grownCap_le_maxLen w (n0 + k) c0 5 (by unfold maxLen; omega)
    have hold : (Builtin.firstCells i.size n0 (.slice A0 n0 c0)).run Try.prog w.drew = .ok (bs.map bv).toArray w.drew := by
      rcases hown.2 with ⟨hv, hn⟩ | ⟨g, cap, cur, hv, hb, hh, hle, hm, hcs, htk⟩
      · injection hv with h1 h2 h3
        subst h1; subst h2; subst h3
        have hbs : bs = [] := List.eq_nil_of_length_eq_zero hlen
        subst hbs
        simp [Builtin.firstCells]
      · injection hv with h1 h2 h3
        subst h1; subst h3
        have holds : ∀ j v, (bs.map bv)[j]? = some v → w.cell? ((⟨g, 0, none⟩ : Addr).add j) = some v := World.ownsRow.cells (v := .slice (some ⟨g, 0, none⟩) n0 c0) hown rfl
        exact run_firstCells_some (P := Try.prog) w.drew i.size n0 ⟨g, 0, none⟩ n0 c0 (bs.map bv) (by rw [hz1, List.length_map, hlen, Nat.mul_one]) holds
    have hr := Lib.run_append_grow_zeros (P := Try.prog) w 22 3 22 5 i (.int .u8 0) .i64 .i64 Try.underlying22 Try.underlying3 hi hz0 A0 n0 c0 (bs.map bv) hold k h0 (by omega) (by omega) (by omega) (by rw [hz2]; omega) (growslice_fits (by omega) (by rw [hz2]; omega))
    refine ⟨_, _, _, hr, ⟨by simp [hlen], .inr ⟨w.heap.size, _, _, rfl, hbase, heap_alloc_new w.drew _, hge, hcm, ?_, ?_⟩⟩, ⟨rfl, rfl, rfl, by simp, fun j hj _ => Below.heap_alloc w.drew _ j hj⟩⟩
    · simp only [Array.size_append, List.size_toArray, List.length_map, hlen, size_zeroCells]
      show n0 + k * 1 + (_ - (n0 + k)) * 1 = _ * 1
      omega
    · simp only [Array.toList_append, List.append_assoc, Nat.mul_one, hzl]
      rw [← List.append_assoc, List.take_append_of_le_length (by rw [List.length_append, List.length_map, List.length_map, List.length_replicate, hlen]; omega), List.take_of_length_le (by rw [List.length_append, List.length_map, List.length_map, List.length_replicate, hlen]; omega), List.map_append]
end
section
variable {w : World} {ops : Array Oper} {rest : List Oper} {o : Oper} {a : Act} {Q : Exit → Act → World → Prop}
theorem wpList_appz (s x : Operand) (ho : o.op = .call { callee := .builtin .append, args := #[s, x], argTypes := #[22, 3] }) (hgd : o.guard = none) (hty : o.type = 22)
    (base : Nat) (A0 : Option Addr) (n0 c0 : Nat) (bs : List UInt8) (hs : a.eval s = .slice A0 n0 c0) (hown : OwnB w base A0 n0 c0 bs) (k : Nat) (hx : a.eval x = .int .i64 (k : Int)) (h0 : 0 < k) (hlim : n0 + k ≤ 140737488355328) (hbase : base ≤ w.heap.size)
    (h : ∀ A' c' w', OwnB w' base A' (n0 + k) c' (bs ++ List.replicate k 0) → w.grownBy w' (blk A0) → wpList Try.prog ops Q rest (a.put o.dst (.slice A' (n0 + k) c')) w') : wpList Try.prog ops Q (o :: rest) a w := by
  refine wpList_plain hgd fun K hK => ?_
  obtain ⟨A', c', w', hrun, h2, h3⟩ := run_appz w base A0 n0 c0 bs hown k h0 hlim hbase
  unfold Oper.wp execOp
  simp only [ho, resolve, invoke, builtin, Sem.run_bind, Sem.run_pure, Result.andThen_ok, List.map_toArray, List.map_cons, List.map_nil, hs, hx, hty, hrun]
  exact hK _ _ (h A' c' w' h2 h3)
end
end Go.Proofs.Ytomolfdcdmncoaa
namespace Go.Proofs.Ytomolfdcdmncoaa
open Go.RowKit Go
set_option linter.unusedVariables false
theorem run_aps (w : World) (base : Nat) (A0 : Option Addr) (n0 c0 : Nat) (bs : List UInt8) (hown : OwnB w base A0 n0 c0 bs) (s : ByteArray) (hlim : n0 + s.size ≤ 140737488355328) (hbase : base ≤ w.heap.size) :
    ∃ A' c' w', (Builtin.append_ #[22, 9] 22 #[.slice A0 n0 c0, .string s]).run Try.prog w = .ok (.slice A' (n0 + s.size) c') w' ∧
      OwnB w' base A' (n0 + s.size) c' (bs ++ s.data.toList) ∧ w.grownBy w' (blk A0) := by
  obtain ⟨i, hi, hz0, hz1, hz2⟩ := info_parts u8_info
  obtain ⟨v', w', hrun, h2, h3, _⟩ := Lib.run_append_own_string (P := Try.prog) w base 22 9 22 5 i Try.underlying22 Try.underlying9 hi hz0 hz1 hz2 (.slice A0 n0 c0) n0 (bs.map bv) hown s (by unfold maxLen; omega) hlim hbase
  rw [blk_own] at h3
  rcases h2.2 with ⟨rfl, hn0⟩ | ⟨g, cap, cur, rfl, hg⟩
  · refine ⟨none, 0, w', by rw [hrun, hn0], ?_, h3⟩
    unfold OwnB
    rw [List.map_append]
    rw [hn0] at h2 ⊢
    exact h2
  · refine ⟨some ⟨g, 0, none⟩, cap, w', hrun, ?_, h3⟩
    unfold OwnB
    rw [List.map_append]
    exact h2
theorem wpList_aps {w : World} {ops : Array Oper} {rest : List Oper} {o : Oper} {a : Act} {Q : Exit → Act → World → Prop} (s x : Operand) (ho : o.op = .call { callee := .builtin .append, args := #[s, x], argTypes := #[22, 9] }) (hgd : o.guard = none) (hty : o.type = 22)
    (base : Nat) (A0 : Option Addr) (n0 c0 : Nat) (bs : List UInt8) (hs : a.eval s = .slice A0 n0 c0) (hown : OwnB w base A0 n0 c0 bs)
    (S : ByteArray) (hx : a.eval x = .string S) (hlim : n0 + S.size ≤ 140737488355328) (hbase : base ≤ w.heap.size)
    (h : ∀ A' c' w', OwnB w' base A' (n0 + S.size) c' (bs ++ S.data.toList) → w.grownBy w' (blk A0) → wpList Try.prog ops Q rest (a.put o.dst (.slice A' (n0 + S.size) c')) w') : wpList Try.prog ops Q (o :: rest) a w := by
  refine wpList_plain hgd fun K hK => ?_
  obtain ⟨A', c', w', hrun, h2, h3⟩ := run_aps w base A0 n0 c0 bs hown S hlim hbase
  unfold Oper.wp execOp
  simp only [ho, resolve, invoke, builtin, Sem.run_bind, Sem.run_pure, Result.andThen_ok, List.map_toArray, List.map_cons, List.map_nil, hs, hx, hty, hrun]
  exact hK _ _ (h A' c' w' h2 h3)
end Go.Proofs.Ytomolfdcdmncoaa
namespace Go.Proofs.Ytomolfdcdmncoaa
open Go.RowKit Go
set_option linter.unusedVariables false
set_option maxRecDepth 100000
theorem splitQ_tag {bs : List UInt8} {s t : Nat} (h : splitQ bs = some (s, t)) : (bs.getD 0 0).toNat % 32 ≠ 31 := by
  unfold splitQ at h
  split at h; cases h
  rename_i h1
  intro e
  exact h1 (.inr e)
theorem beN_take_lt (bs : List UInt8) (k : Nat) (h : k ≤ 4) : beN (bs.take k) < 4294967296 := by
  have h1 := beN_lt _ (bs.take k) rfl
  have h2 : (256 : Nat) ^ (bs.take k).length ≤ 256 ^ 4 := Nat.pow_le_pow_right (by decide) (by rw [List.length_take]; omega)
  have h3 : (256 : Nat) ^ 4 = 4294967296 := by decide
  omega
theorem splitQ_small {bs : List UInt8} {s t : Nat} (h : splitQ bs = some (s, t)) : t - s < 4294967296 := by
  unfold splitQ at h
  split at h; cases h
  split at h
  · split at h
    · simp at h; omega
    · cases h
  split at h; cases h
  rename_i h4
  split at h; cases h
  simp only [Option.some.injEq, Prod.mk.injEq] at h
  have := beN_take_lt (bs.drop 2) (nth bs 1 - 128) (by omega)
  omega
theorem split_take {bs : List UInt8} {s t : Nat} (h : splitQ bs = some (s, t)) : splitQ (bs.take t) = some (s, t) := by
  obtain ⟨h2, hst, htl⟩ := splitQ_le h
  have hw := wr_split h
  have hsm := splitQ_small h
  have hbl : ((bs.take t).drop s).length = t - s := by rw [List.length_drop, List.length_take]; omega
  have := split_wr (bs.getD 0 0) ((bs.take t).drop s) [] (splitQ_tag h) (by omega)
  rw [List.append_nil, ← hw, hbl, List.length_take] at this
  rw [this]
  simp only [Option.some.injEq, Prod.mk.injEq]
  omega
theorem allQ_one {bs : List UInt8} {s : Nat} (h : splitQ bs = some (s, bs.length)) : allQ bs = some [(bs, bs.drop s)] := by
  rw [allQ_some h, List.drop_of_length_le (Nat.le_refl _), allQ_nil, List.take_of_length_le (Nat.le_refl _)]
  rfl
theorem allQ_mem : ∀ (k : Nat) (bs : List UInt8) (l : List (List UInt8 × List UInt8)), bs.length ≤ k → allQ bs = some l → ∀ p ∈ l, allQ p.1 = some [p]
  | 0, bs, l, hk, h => by
    obtain rfl : bs = [] := List.length_eq_zero_iff.1 (by omega)
    rw [allQ_nil] at h
    cases h
    intro p hp; cases hp
  | k + 1, bs, l, hk, h => by
    by_cases hn : bs = []
    · subst hn
      rw [allQ_nil] at h
      cases h
      intro p hp; cases hp
    cases hq : splitQ bs with
    | none => rw [allQ_none hn hq] at h; cases h
    | some p =>
      obtain ⟨s, t⟩ := p
      rw [allQ_some hq] at h
      obtain ⟨l', h1, rfl⟩ := Option.map_eq_some_iff.1 h
      have hle := splitQ_le hq
      intro q hm
      rcases List.mem_cons.1 hm with rfl | hm
      · have hl : (bs.take t).length = t := by rw [List.length_take]; omega
        exact allQ_one (by rw [hl]; exact split_take hq)
      · exact allQ_mem k (bs.drop t) l' (by rw [List.length_drop]; omega) h1 q hm
theorem allQ_wr (tag : UInt8) (ht : tag.toNat % 32 ≠ 31) (a rest : List UInt8) (ha : a.length < 4294967296) : allQ (wrQ tag a ++ rest) = (allQ rest).map ((wrQ tag a, a) :: ·) := by
  rw [allQ_some (split_wr tag a rest ht ha)]
  have e1 : (wrQ tag a ++ rest).take (wrQ tag a).length = wrQ tag a := by simp
  have e2 : (wrQ tag a ++ rest).drop (wrQ tag a).length = rest := by simp
  have e3 : (wrQ tag a).drop ((wrQ tag a).length - a.length) = a := by
    have : ∃ p, wrQ tag a = p ++ a := by unfold wrQ; split; exact ⟨[tag, _], rfl⟩; exact ⟨tag :: UInt8.ofNat (128 + (lenB a.length).length) :: lenB a.length, by simp⟩
    obtain ⟨p, hp⟩ := this
    rw [hp]; simp
  rw [e1, e2, e3]
theorem firstN_vals (l : List Nat) (h : ∀ x ∈ l, x = 0 ∨ x = 9 ∨ x = 10) : firstN l = 0 ∨ firstN l = 9 ∨ firstN l = 10 := by
  induction l with
  | nil => exact .inl rfl
  | cons x r ih =>
    simp only [firstN]
    split
    · exact ih (fun y hy => h y (by simp [hy]))
    · exact h x (by simp)
theorem firstN_eq_zero {l : List Nat} (h : firstN l = 0) : ∀ x ∈ l, x = 0 := by
  induction l with
  | nil => intro x hx; cases hx
  | cons y r ih =>
    simp only [firstN] at h
    split at h
    · rename_i hy
      intro x hx
      rcases List.mem_cons.1 hx with rfl | hx
      · exact hy
      · exact ih h x hx
    · rename_i hy; exact absurd h hy
theorem chk_vals : ∀ (k : Nat) (raw body : List UInt8), chk k raw body = 0 ∨ chk k raw body = 9 ∨ chk k raw body = 10
  | 0, raw, body => by simp only [chk]; split <;> simp
  | k + 1, raw, body => by
    simp only [chk]
    split
    · simp
    · split
      · simp
      · refine firstN_vals _ (fun x hx => ?_)
        obtain ⟨p, _, rfl⟩ := List.mem_map.1 hx
        exact chk_vals k _ _
theorem chk_mono : ∀ (k : Nat) (raw body : List UInt8), chk k raw body = 0 → chk (k + 1) raw body = 0
  | 0, raw, body, h => by
    by_cases hl : nth raw 0 / 32 % 2 = 0 ∨ body = []
    · exact chk_leaf 1 hl
    · rw [chk_bottom hl] at h; cases h
  | k + 1, raw, body, h => by
    by_cases hl : nth raw 0 / 32 % 2 = 0 ∨ body = []
    · exact chk_leaf _ hl
    · cases hq : allQ body with
      | none => rw [chk_none hl hq] at h; cases h
      | some l =>
        rw [chk_some hl hq] at h
        rw [chk_some hl hq]
        refine firstN_zero (fun x hx => ?_)
        obtain ⟨p, hp, rfl⟩ := List.mem_map.1 hx
        exact chk_mono k _ _ (firstN_eq_zero h _ (List.mem_map_of_mem hp))
theorem check_wr (tag : UInt8) (ht : tag.toNat % 32 ≠ 31) (b : List UInt8) (hb : b.length < 4294967296) : checkQ (wrQ tag b) = chk 15 (wrQ tag b) b := by
  have := allQ_wr tag ht b [] hb
  rw [List.append_nil, allQ_nil] at this
  unfold checkQ
  rw [this]
  rfl
theorem nth_wr (tag : UInt8) (b : List UInt8) : nth (wrQ tag b) 0 = tag.toNat := by unfold nth wrQ; split <;> rfl
end Go.Proofs.Ytomolfdcdmncoaa
namespace Go.Proofs.Ytomolfdcdmncoaa
open Go.RowKit Go
set_option linter.unusedVariables false
set_option linter.unusedSimpArgs false
set_option maxRecDepth 100000
/-! ### Write -/
theorem rwrite_short (tag : UInt8) (A : Option Addr) (n c : Nat) (bs : List UInt8) (w : World) (hR : RB w A n bs) (hn : n < 128) :
    Calls Try.prog 26 #[.int .u8 (tag.toNat : Int), .slice A n c] w (Fresh w (wrQ tag bs)) := by
  have hw : wrQ tag bs = ([tag] ++ [UInt8.ofNat n]) ++ bs := by unfold wrQ; rw [hR.1, if_pos hn]; rfl
  have HW := Lib.hid hw
  obtain ⟨q, hq⟩ : ∃ q : UInt8, UInt8.ofNat n = q := ⟨_, rfl⟩
  have hq2 : (n : Int) = (q.toNat : Int) := by rw [← hq, UInt8.toNat_ofNat']; omega
  rw [hq] at HW
  have hqw : IntKind.u8.wrap (n : Int) = (q.toNat : Int) := by rw [IntKind.wrap_u8]; omega
  have hd : decide ((n : Int) < 128) = true := by simp; omega
  have HR := Lib.hid hR
  have H2 := Lib.hid hq2
  clear hw hq hR hq2
  go_enter Try.func26, Try.ntmps26
  go_wp2_with (at_builtin; refine wpList_apn _ _ rfl rfl rfl w.heap.size (some ⟨w.heap.size, 0, none⟩) 1 1 [tag] rfl ((own_lit w [tag] 1 _ rfl rfl (by omega)).alloc _) (some ⟨w.heap.size + 1, 0, none⟩) 1 1 [q] rfl (by have := (own_lit (w.alloc (.cells #[.int .u8 (tag.toNat : Int)] 5)) [q] 1 #[.int .u8 (q.toNat : Int)] rfl rfl (by omega)).rb; rw [World.size_alloc] at this; exact this) (by omega) (by simp; omega) ?_)
  intro A1 c1 w1 ho1 hg1
  have hb1 : Below w.heap.size w w1 := (kp_alloc (kp_alloc (Below.refl _ _) _) _).grown hg1 (by simp; omega) (fun g hg => by injection hg with hg; subst hg; exact Nat.le_refl _)
  go_wp2_with (at_builtin; refine wpList_apn _ _ rfl rfl rfl w.heap.size A1 2 c1 _ rfl ho1 A n c bs rfl (HR.out.below hb1) (by omega) hb1.size ?_)
  intro A2 c2 w2 ho2 hg2
  go_wp2
  go_ret
  exact ⟨A2, 2 + n, c2, rfl, by rw [HW.out]; exact ho2, hb1.grown hg2 hb1.size (fun g hg => (ho1.blk_lt hg).1)⟩
set_option maxHeartbeats 1000000 in
theorem rwrite_long (tag : UInt8) (A : Option Addr) (n c : Nat) (bs : List UInt8) (w : World) (hR : RB w A n bs) (hn : 128 ≤ n) (hn2 : n ≤ 1000000000) :
    Calls Try.prog 26 #[.int .u8 (tag.toNat : Int), .slice A n c] w (Fresh w (wrQ tag bs)) := by
  have hw : wrQ tag bs = tag :: UInt8.ofNat (128 + (lenB n).length) :: (lenB n ++ bs) := by unfold wrQ; rw [hR.1, if_neg (by omega)]
  have HW := Lib.hid hw
  have hL4 := lenB_len 4 n (by omega)
  have HL := Lib.hid hL4
  have HR := Lib.hid hR
  have hd : decide ((n : Int) < 128) = false := by simp; omega
  clear hw hL4 hR
  go_enter Try.func26, Try.ntmps26
  go_wp2
  go_loopw [7, 8] (fun v i wl => ∃ (x : Nat) (L : List UInt8) (A2 : Option Addr) (n2 c2 : Nat), x ≤ n ∧ i = .int .i64 x ∧ v = .slice A2 n2 c2 ∧ OwnB wl (w.heap.size + 1) A2 n2 c2 L ∧ Below (w.heap.size + 1) (w.alloc (.cells #[.int .u8 (tag.toNat : Int)] 5)) wl ∧ Hid (lenB n = lenB x ++ L.reverse)) (fun _ i _ => (intOf i).toNat)
  case atStart => exact ⟨n, [], _, _, _, Nat.le_refl _, rfl, rfl, OwnB.nil _ _, Below.refl _ _, by unfold Hid; simp⟩
  case round =>
    obtain ⟨x, L, A2, n2, c2, hx, rfl, rfl, hown, hbl, HX⟩ := hrel
    have hsz := hbl.size
    have hsz0 : w.heap.size + 1 ≤ wr.heap.size := by simpa using hsz
    have hLn := HL.out
    rw [HX.out, List.length_append, List.length_reverse] at hLn
    have hl2 := hown.len
    have hn2 : n2 ≤ 4 := by omega
    by_cases hlt : 0 < x
    · obtain ⟨q, hq⟩ : ∃ q : UInt8, (x : Int) % 256 = (q.toNat : Int) := ⟨UInt8.ofNat (x % 256), by rw [byte_mod]; omega⟩
      have HN : Hid (lenB n = lenB (x / 256) ++ (L ++ [q]).reverse) := by
        have e := HX.out
        rw [lenB_pos (n := x) (by omega)] at e
        have e2 : UInt8.ofNat (x % 256) = q := by
          apply UInt8.toNat_inj.1
          rw [byte_mod]; omega
        unfold Hid
        rw [e, e2]; simp
      clear hl2 hLn
      go_wp2_with (at_builtin; refine wpList_apn _ _ rfl rfl rfl (w.heap.size + 1) A2 n2 c2 L rfl (hown.alloc _) (some ⟨wr.heap.size, 0, none⟩) 1 1 [q] rfl (own_lit wr [q] 1 _ rfl rfl (by omega)).rb (by omega) (by simp; omega) ?_)
      intro A3 c3 w3 hown3 hg3
      have hbl3 := (hbl.alloc hsz0 (.cells #[.int .u8 (q.toNat : Int)] 5)).grown hg3 (by simp; omega) (fun g hg => (hown.blk_lt hg).1)
      go_wp2
      go_roundw
      case rel => exact ⟨x / 256, L ++ [q], A3, _, c3, by omega, by go_num, rfl, hown3, hbl3, HN⟩
      case measure => simp [intOf]; omega
    · obtain rfl : x = 0 := by omega
      have HX0 : Hid (lenB n = L.reverse) := by unfold Hid; rw [HX.out, lenB_zero]; rfl
      obtain ⟨q, hq⟩ : ∃ q : UInt8, UInt8.ofNat (128 + (lenB n).length) = q := ⟨_, rfl⟩
      have hlL : (lenB n).length = n2 := by rw [HX0.out, List.length_reverse, hl2]
      have hq2 : IntKind.u8.wrap (128 + (n2 : Int)) = (q.toNat : Int) := by rw [← hq, hlL, UInt8.toNat_ofNat', IntKind.wrap_u8]; omega
      have hq3 : (128 : Int) + (n2 : Int) = (q.toNat : Int) := by rw [← hq, hlL, UInt8.toNat_ofNat']; omega
      have HQ := Lib.hid hq
      have hot : OwnB wr w.heap.size (some ⟨w.heap.size, 0, none⟩) 1 1 [tag] := (own_lit w [tag] 1 #[.int .u8 (tag.toNat : Int)] rfl rfl (by omega)).below hbl (by simp)
      have HO := Lib.hid hown
      have HBL := Lib.hid hbl
      have hszw : w.heap.size ≤ wr.heap.size := by omega
      have HX := HX0
      clear hq hlL hl2 hLn hown hbl HX0
      go_wp2_with (at_builtin; refine wpList_apt _ _ rfl rfl rfl w.heap.size _ 1 1 [tag] rfl (hot.alloc _) (some ⟨wr.heap.size, 0, none⟩) 1 1 [q] rfl (own_lit wr [q] 1 _ rfl rfl (by omega)).rb (by omega) (by simp; omega) ?_)
      intro A4 c4 w4 ho4 hg4 hat4
      have hfar0 : blk A2 = none ∨ blk A2 ≠ some w.heap.size := by
        cases h : blk A2 with
        | none => exact .inl rfl
        | some g => right; intro e; have := (HO.out.blk_lt h).1; injection e with e; omega
      have hfar : blk A2 = none ∨ blk A2 ≠ blk A4 := by
        rcases hat4 with e | e
        · rw [e]; exact hfar0
        · cases h : blk A2 with
          | none => exact .inl rfl
          | some g => right; rw [e]; intro e2; have := (HO.out.blk_lt h).2; injection e2 with e2; omega
      have ho4b : OwnB w4 (w.heap.size + 1) A2 n2 c2 L := (HO.out.alloc (.cells #[.int .u8 (q.toNat : Int)] 5)).kept hg4 hfar0
      have hb4 : Below w.heap.size w w4 := by
        have h1 : Below w.heap.size w wr := (kp_alloc (Below.refl w.heap.size w) (.cells #[.int .u8 (tag.toNat : Int)] 5)).trans (HBL.out.mono (by omega))
        exact (kp_alloc h1 (.cells #[.int .u8 (q.toNat : Int)] 5)).grown hg4 (by simp; omega) (fun g hg => by injection hg with hg; subst hg; exact Nat.le_refl _)
      have HAt4 := Lib.hid hat4
      clear hot hg4 hat4
      have hbd : bs.length = n := HR.out.1
      go_wp2
      go_loopw [6, 9] (fun v i wl => ∃ (k n5 : Nat) (B : Option Addr) (c5 : Nat) (P : List UInt8), Hid (n5 + k = 2 + n2) ∧ k ≤ n2 ∧ v = .slice B n5 c5 ∧ i = .int .i64 ((k : Int) - 1) ∧ OwnB wl w.heap.size B n5 c5 (tag :: q :: P) ∧ OwnB wl (w.heap.size + 1) A2 n2 c2 L ∧ (blk A2 = none ∨ blk A2 ≠ blk B) ∧ Below w.heap.size w wl ∧ Hid (P ++ (L.take k).reverse = L.reverse)) (fun _ i _ => (intOf i + 1).toNat)
      case atStart => exact ⟨n2, 2, A4, c4, [], rfl, Nat.le_refl _, rfl, rfl, ho4, ho4b, hfar, hb4, by unfold Hid; rw [List.take_of_length_le (by rw [HO.out.len]; exact Nat.le_refl _)]; rfl⟩
      case round =>
        obtain ⟨k, n5, B, c5, P, HJ, hk2, rfl, rfl, ho5, hoL, hf5, hb5, HP⟩ := hrel
        clear ho4 ho4b hfar hb4
        have hn5 : n5 ≤ 8 := by have := HJ.out; omega
        by_cases hk0 : k = 0
        · subst hk0
          have HP0 : Hid (wrQ tag bs = (tag :: q :: P) ++ bs) := by
            have h1 := HP.out
            simp only [List.take_zero, List.reverse_nil, List.append_nil] at h1
            unfold Hid
            rw [HW.out, HQ.out, HX.out, ← h1]; rfl
          go_wp2_with (at_builtin; refine wpList_apn _ _ rfl rfl rfl w.heap.size B n5 c5 _ rfl ho5 A n c bs rfl (HR.out.below hb5) (by omega) hb5.size ?_)
          intro A6 c6 w6 ho6 hg6
          go_wp2
          go_ret
          exact ⟨A6, n5 + n, c6, rfl, by rw [HP0.out]; exact ho6, hb5.grown hg6 hb5.size (fun g hg => (ho5.blk_lt hg).1)⟩
        · obtain ⟨i, rfl⟩ : ∃ i, k = i + 1 := ⟨k - 1, by omega⟩
          have hlL := hoL.len
          obtain ⟨y, hy⟩ : ∃ y, L[i]? = some y := ⟨_, List.getElem?_eq_getElem (by omega)⟩
          have hcp := hoL.cap.1
          obtain ⟨g2, hA2, _, _⟩ := hoL.shape (by omega)
          subst hA2
          have hc := hoL.cellAt i y hy
          have HPn : Hid ((P ++ [y]) ++ (L.take i).reverse = L.reverse) := by
            have h1 := HP.out
            rw [List.take_add_one, hy] at h1
            unfold Hid
            rw [← h1]; simp
          have hsz5 := hb5.size
          have hi4 : i ≤ 8 := by omega
          have hin : i < n2 := by omega
          clear hy HP hlL
          go_wp2_with (at_builtin; refine wpList_apt _ _ rfl rfl rfl w.heap.size B n5 c5 _ rfl (ho5.alloc _) (some ⟨wr.heap.size, 0, none⟩) 1 1 [y] rfl (own_lit wr [y] 1 _ rfl rfl (by omega)).rb (by omega) (by simp; omega) ?_)
          intro A7 c7 w7 ho7 hg7 hat7
          have hal : OwnB (wr.alloc (.cells #[.int .u8 (y.toNat : Int)] 5)) (w.heap.size + 1) (some ⟨g2, 0, none⟩) n2 c2 L := hoL.alloc _
          have hoL7 := hal.kept hg7 hf5
          have hf7 : blk (some ⟨g2, 0, none⟩) = none ∨ blk (some ⟨g2, 0, none⟩) ≠ blk A7 := by
            rcases hat7 with e | e
            · rw [e]; exact hf5
            · right; rw [e]; intro e2; have := (hoL.blk_lt rfl).2; injection e2 with e2; simp at e2; omega
          have hb7 : Below w.heap.size w w7 := (kp_alloc hb5 _).grown hg7 (by simp; omega) (fun g hg => (ho5.blk_lt hg).1)
          clear hal hat7 hg7
          go_wp2
          go_roundw
          case rel => exact ⟨i, n5 + 1, A7, c7, P ++ [y], by unfold Hid; have := HJ.out; omega, by omega, rfl, by go_num, ho7, hoL7, hf7, hb7, HPn⟩
          case measure => simp [intOf]
theorem rwrite_any (tag : UInt8) (A : Option Addr) (n c : Nat) (bs : List UInt8) (w : World) (hR : RB w A n bs) (hn : n ≤ 1000000000) :
    Calls Try.prog 26 #[.int .u8 (tag.toNat : Int), .slice A n c] w (Fresh w (wrQ tag bs)) := by
  by_cases h : n < 128
  · exact rwrite_short tag A n c bs w hR h
  · exact rwrite_long tag A n c bs w hR (by omega) hn
end Go.Proofs.Ytomolfdcdmncoaa
namespace Go.Proofs.Ytomolfdcdmncoaa
open Go.RowKit Go
set_option linter.unusedVariables false
set_option linter.unusedSimpArgs false
set_option maxRecDepth 100000
theorem rb_cut1 {w : World} {b off n c k : Nat} {bs : List UInt8} (h : RB w (some ⟨b, off, none⟩) n bs) (hnc : n ≤ c) (hk : k ≤ n) :
    RB w (if c = k then some ⟨b, off, none⟩ else some ⟨b, off + k, none⟩) (n - k) (bs.drop k) := by
  refine ⟨by rw [List.length_drop, h.1], ?_⟩
  by_cases e : c = k
  · rw [List.drop_of_length_le (by rw [h.1]; omega)]
    exact Bs.nil
  · rw [if_neg e]
    have h2 := h.2.drop_ k
    simp only [Option.map_some, Addr.add_lit] at h2
    exact h2
/-! ### Join -/
theorem rjoin_any (A : Option Addr) (m c : Nat) (X : Nat → Option Addr × Nat × Nat) (bss : Nat → List UInt8) (w : World) (hP : Parts w A m X bss) (hm : m ≤ 1000000) (hlen : (joinN bss m).length ≤ 140737488355328) :
    Calls Try.prog 41 #[.slice A m c] w (Fresh w (joinN bss m)) := by
  have HL := Lib.hid (fun i (h : i ≤ m) => joinN_mono bss i m h)
  have HP := Lib.hid hP
  clear hP
  go_enter Try.func41, Try.ntmps41
  go_wp2
  go_loopw [3, 4] (fun v i wl => ∃ (k : Nat) (A2 : Option Addr) (n2 c2 : Nat), k ≤ m ∧ i = .int .i64 k ∧ v = .slice A2 n2 c2 ∧ OwnB wl w.heap.size A2 n2 c2 (joinN bss k) ∧ Below w.heap.size w wl) (fun _ i _ => m - (intOf i).toNat)
  case atStart => exact ⟨0, _, _, _, Nat.zero_le _, rfl, rfl, OwnB.nil _ _, Below.refl _ _⟩
  case round =>
    obtain ⟨k, A2, n2, c2, hk, rfl, rfl, hown, hbl⟩ := hrel
    by_cases hlt2 : k < m
    · obtain ⟨b, off, rfl, hblt, hr⟩ := (Parts.below HP.out hbl (Nat.le_refl _)) (by omega)
      obtain ⟨hcell, hR⟩ := hr k hlt2
      have hle := HL.out (k + 1) (by omega)
      rw [joinN_succ, List.length_append, hR.1, hown.len] at hle
      have hsz := hbl.size
      clear hr
      go_wp2_with (at_builtin; refine wpList_apn _ _ rfl rfl rfl w.heap.size A2 n2 c2 _ rfl hown (X k).1 (X k).2.1 (X k).2.2 (bss k) rfl hR (by omega) (by omega) ?_)
      intro A3 c3 w3 hown3 hg3
      go_wp2
      go_roundw
      case rel => exact ⟨k + 1, A3, _, c3, by omega, by go_num, rfl, hown3, hbl.grown hg3 (by omega) (fun g hg => (hown.blk_lt hg).1)⟩
      case measure => simp [intOf]; omega
    · obtain rfl : k = m := by omega
      go_wp2
      go_ret
      exact ⟨A2, n2, c2, rfl, hown, hbl⟩
theorem rjoin3_any (X1 X2 X3 : Option Addr) (m1 m2 m3 k1 k2 k3 : Nat) (r1 r2 r3 : List UInt8) (w : World) (g : Nat) (hg : w.heap.size = g) (h1 : RB w X1 m1 r1) (h2 : RB w X2 m2 r2) (h3 : RB w X3 m3 r3) (hlen : m1 + m2 + m3 ≤ 140737488355328) :
    Calls Try.prog 41 #[.slice (some ⟨g, 0, none⟩) 3 3] (w.alloc (.cells #[.slice X1 m1 k1, .slice X2 m2 k2, .slice X3 m3 k3] 22)) (Fresh w (r1 ++ (r2 ++ r3))) := by
  subst hg
  have hP : Parts (w.alloc (.cells #[.slice X1 m1 k1, .slice X2 m2 k2, .slice X3 m3 k3] 22)) (some ⟨w.heap.size, 0, none⟩) 3 (fun r => if r = 0 then (X1, m1, k1) else if r = 1 then (X2, m2, k2) else (X3, m3, k3)) (fun r => if r = 0 then r1 else if r = 1 then r2 else r3) := fun _ => by
    refine ⟨w.heap.size, 0, rfl, by simp, fun r hr => ?_⟩
    have hr3 : r = 0 ∨ r = 1 ∨ r = 2 := by omega
    rcases hr3 with rfl | rfl | rfl
    · exact ⟨cell_of_row _ w.heap.size 0 _ _ _ (heap_alloc_new w _), h1.alloc _⟩
    · exact ⟨cell_of_row _ w.heap.size 1 _ _ _ (heap_alloc_new w _), h2.alloc _⟩
    · exact ⟨cell_of_row _ w.heap.size 2 _ _ _ (heap_alloc_new w _), h3.alloc _⟩
  have hj : joinN (fun r => if r = 0 then r1 else if r = 1 then r2 else r3) 3 = r1 ++ (r2 ++ r3) := by simp [joinN]
  refine (rjoin_any _ 3 3 _ _ _ hP (by omega) (by rw [hj]; simp [h1.1, h2.1, h3.1]; omega)).mono ?_
  rintro e w' ⟨A, n, c, rfl, hown, hb⟩
  rw [hj] at hown
  exact ⟨A, n, c, rfl, hown.lower (by simp), ((Below.refl _ _).alloc (Nat.le_refl _) _).trans (hb.mono (by simp))⟩
/-! ### Int -/
theorem rint_zero (A : Option Addr) (c : Nat) (w : World) : Calls Try.prog 19 #[.slice A 0 c] w (IntPost w []) := by
  go_enter Try.func19, Try.ntmps19
  go_wp2
  go_ret2
  exact int_no rfl (Below.refl _ _)
theorem rint_high (b off n c : Nat) (d : UInt8) (bs : List UInt8) (w : World) (hn : 0 < n) (hn2 : n ≤ 1000000000) (h : intQ bs = none) (h0 : w.cell? ⟨b, off, none⟩ = some (.int .u8 (d.toNat : Int))) (hd : 128 ≤ d.toNat) :
    Calls Try.prog 19 #[.slice (some ⟨b, off, none⟩) n c] w (IntPost w bs) := by
  have H := Lib.hid h
  clear h
  have t0 : ((n : Int) == 0) = false := by simp; omega
  have t1 : decide ((128 : Int) ≤ (d.toNat : Int)) = true := by simp; omega
  go_enter Try.func19, Try.ntmps19
  go_wp2
  go_ret2
  exact int_no H.out (Below.refl _ _)
theorem rint_needless (b off n c : Nat) (d x : UInt8) (bs : List UInt8) (w : World) (hn : 1 < n) (hn2 : n ≤ 1000000000) (h : intQ bs = none) (h0 : w.cell? ⟨b, off, none⟩ = some (.int .u8 (d.toNat : Int))) (hd : d.toNat = 0)
    (h1 : w.cell? ⟨b, off + 1, none⟩ = some (.int .u8 (x.toNat : Int))) (hx : x.toNat < 128) :
    Calls Try.prog 19 #[.slice (some ⟨b, off, none⟩) n c] w (IntPost w bs) := by
  have H := Lib.hid h
  clear h
  have t0 : ((n : Int) == 0) = false := by simp; omega
  have t1 : decide ((128 : Int) ≤ (d.toNat : Int)) = false := by simp; omega
  have t2 : ((d.toNat : Int) == 0) = true := by simp; omega
  have t3 : decide ((x.toNat : Int) < 128) = true := by simp; omega
  have t4 : decide ((1 : Int) < (n : Int)) = true := by simp; omega
  clear hd
  go_enter Try.func19, Try.ntmps19
  go_wp2
  go_ret2
  exact int_no H.out (Below.refl _ _)
theorem rint_nz (b off n c : Nat) (d : UInt8) (bs : List UInt8) (w : World) (hR : RB w (some ⟨b, off, none⟩) n bs) (hnb : n ≤ 1000000000) (h : intQ bs = some bs) (h0 : w.cell? ⟨b, off, none⟩ = some (.int .u8 (d.toNat : Int))) (hn : 0 < n) (hd : 0 < d.toNat) (hd2 : d.toNat < 128) :
    Calls Try.prog 19 #[.slice (some ⟨b, off, none⟩) n c] w (IntPost w bs) := by
  have H := Lib.hid h
  have C := Lib.hid (fun k => copy_any (some ⟨b, off, none⟩) n c bs (w.drewN k) (hR.drewN k) (by omega))
  have C0 := Lib.hid (copy_any (some ⟨b, off, none⟩) n c bs w hR (by omega))
  clear h hR
  have t0 : ((n : Int) == 0) = false := by simp; omega
  have t1 : decide ((128 : Int) ≤ (d.toNat : Int)) = false := by simp; omega
  have t2 : ((d.toNat : Int) == 0) = false := by simp; omega
  go_enter Try.func19, Try.ntmps19
  by_cases h1 : (1 : Int) < (n : Int)
  · have t4 : decide ((1 : Int) < (n : Int)) = true := by simpa using h1
    clear h1 hd
    go_wp2_with fail
    refine C0.out.mono ?_
    rintro e w' ⟨A1, n1, c1, rfl, ho, hb⟩
    go_wp2
    go_ret2
    exact int_yes H.out ho hb
  · have t4 : decide ((1 : Int) < (n : Int)) = false := by simpa using h1
    clear h1 hd
    go_wp2_with fail
    refine C0.out.mono ?_
    rintro e w' ⟨A1, n1, c1, rfl, ho, hb⟩
    go_wp2
    go_ret2
    exact int_yes H.out ho hb
theorem rint_zer (b off n c : Nat) (d : UInt8) (bs r : List UInt8) (SA : Option Addr) (w : World) (hSA : SA = if c = 1 then some ⟨b, off, none⟩ else some ⟨b, off + 1, none⟩) (hR : RB w SA (n - 1) r) (hnb : n ≤ 1000000000) (hnc : n ≤ c) (hcc : c ≤ 9223372036854775807) (h : intQ bs = some r) (h0 : w.cell? ⟨b, off, none⟩ = some (.int .u8 (d.toNat : Int))) (hn : 0 < n) (hd : d.toNat = 0)
    (h1 : n = 1 ∨ ∃ x : UInt8, w.cell? ⟨b, off + 1, none⟩ = some (.int .u8 (x.toNat : Int)) ∧ 128 ≤ x.toNat) :
    Calls Try.prog 19 #[.slice (some ⟨b, off, none⟩) n c] w (IntPost w bs) := by
  have H := Lib.hid h
  clear h
  have t1 : decide ((128 : Int) ≤ (d.toNat : Int)) = false := by simp; omega
  have t2 : ((d.toNat : Int) == 0) = true := by simp; omega
  by_cases hn1 : n = 1
  · subst hn1
    clear h1 hd
    by_cases hc1 : c = 1
    · subst hc1
      rw [if_pos rfl] at hSA
      subst hSA
      have C0 := Lib.hid (copy_any (some ⟨b, off, none⟩) 0 0 r w hR (by omega))
      clear hR
      go_enter Try.func19, Try.ntmps19
      go_wp2_with fail
      refine C0.out.mono ?_
      rintro e w' ⟨A1, n1, c1, rfl, ho, hb⟩
      go_wp2
      go_ret2
      exact int_yes H.out ho hb
    · rw [if_neg hc1] at hSA
      subst hSA
      have C0 := Lib.hid (copy_any (some ⟨b, off + 1, none⟩) 0 (c - 1) r w hR (by omega))
      clear hR
      have hc2 : 1 < c := by omega
      go_enter Try.func19, Try.ntmps19
      go_wp2_with fail
      refine C0.out.mono ?_
      rintro e w' ⟨A1, n1, c1, rfl, ho, hb⟩
      go_wp2
      go_ret2
      exact int_yes H.out ho hb
  · obtain ⟨x, hx, hx8⟩ : ∃ x : UInt8, w.cell? ⟨b, off + 1, none⟩ = some (.int .u8 (x.toNat : Int)) ∧ 128 ≤ x.toNat := h1.resolve_left hn1
    rw [if_neg (by omega)] at hSA
    subst hSA
    have t0 : ((n : Int) == 0) = false := by simp; omega
    have t3 : decide ((x.toNat : Int) < 128) = false := by simp; omega
    have t4 : decide ((1 : Int) < (n : Int)) = true := by simp; omega
    have t5 : 1 < n := by omega
    have t6 : 1 < c := by omega
    have C0 := Lib.hid (copy_any (some ⟨b, off + 1, none⟩) (n - 1) (c - 1) r w hR (by omega))
    clear hR h1 hd hn1
    go_enter Try.func19, Try.ntmps19
    go_wp2_with fail
    refine C0.out.mono ?_
    rintro e w' ⟨A1, n1, c1, rfl, ho, hb⟩
    go_wp2
    go_ret2
    exact int_yes H.out ho hb
theorem rint_any (A : Option Addr) (n c : Nat) (bs : List UInt8) (w : World) (hR : RB w A n bs) (hnc : n ≤ c) (hn : n ≤ 1000000000) (hcc : c ≤ 9223372036854775807) :
    Calls Try.prog 19 #[.slice A n c] w (IntPost w bs) := by
  have hl := hR.1
  match bs, hl with
  | [], hl =>
    obtain rfl : n = 0 := by simpa using hl.symm
    exact rint_zero A c w
  | d :: r, hl =>
    have hl : r.length + 1 = n := by simpa using hl
    obtain ⟨b, off, d', rfl, _, hd, c0⟩ := hR.at_ (k := 0) (by omega)
    simp at hd
    subst hd
    have c0 : w.cell? ⟨b, off, none⟩ = some (.int .u8 (d.toNat : Int)) := c0
    have hcut := rb_cut1 hR hnc (show 1 ≤ n by omega)
    have hcut : RB w (if c = 1 then some ⟨b, off, none⟩ else some ⟨b, off + 1, none⟩) (n - 1) r := hcut
    by_cases hd8 : 128 ≤ d.toNat
    · exact rint_high b off n c d _ w (by omega) hn (by cases r <;> simp [intQ, hd8]) c0 hd8
    by_cases hz : d.toNat = 0
    · match r, hl with
      | [], hl =>
        exact rint_zer b off n c d [d] [] _ w rfl hcut hn hnc hcc (by simp only [intQ]; rw [if_neg hd8, trimZ_cons, if_pos hz]; rfl) c0 (by omega) hz (.inl (by simpa using hl.symm))
      | x :: r', hl =>
        have hl : r'.length + 1 + 1 = n := by simpa using hl
        obtain ⟨b', off', x', e', _, hx, c1⟩ := hR.at_ (k := 1) (by omega)
        cases e'
        simp at hx
        subst hx
        by_cases hx : x.toNat < 128
        · exact rint_needless b off n c d x _ w (by omega) hn (by simp only [intQ]; rw [if_pos (.inr ⟨hz, hx⟩)]) c0 hz c1 hx
        · exact rint_zer b off n c d (d :: x :: r') (x :: r') _ w rfl hcut hn hnc hcc (by simp only [intQ]; rw [if_neg (by omega), trimZ_cons, if_pos hz, trimZ_cons, if_neg (by omega)]) c0 (by omega) hz (.inr ⟨x, c1, by omega⟩)
    · refine rint_nz b off n c d _ w hR hn ?_ c0 (by omega) (by omega) (by omega)
      cases r with
      | nil => simp only [intQ]; rw [if_neg hd8, trimZ_cons, if_neg hz]
      | cons x r => simp only [intQ]; rw [if_neg (by omega), trimZ_cons, if_neg hz]
/-! ### PutInt -/
set_option maxHeartbeats 1000000 in
theorem rputint_any (A : Option Addr) (n c : Nat) (bs : List UInt8) (w : World) (hR : RB w A n bs) (hnc : n ≤ c) (hn : n ≤ 1000000000) (hc2 : c ≤ 9223372036854775807) :
    Calls Try.prog 27 #[.slice A n c] w (Fresh w (putI bs)) := by
  go_enter Try.func27, Try.ntmps27
  go_wp2
  go_loop [0] (fun v => ∃ (A' : Option Addr) (n' c' : Nat) (l : List UInt8), v = .slice A' n' c' ∧ RB w A' n' l ∧ n' ≤ c' ∧ c' ≤ c ∧ n' ≤ n ∧ Hid (trimZ bs = trimZ l)) (fun v => match v with | .slice _ k _ => k | _ => 0)
  case atStart => exact ⟨A, n, c, bs, rfl, hR, hnc, Nat.le_refl _, Nat.le_refl _, rfl⟩
  case round =>
    obtain ⟨A', n', c', l, rfl, hR', hnc', hcc, hnn, HT⟩ := hrel
    clear hR
    by_cases h0 : 0 < n'
    · obtain ⟨b, off, d, rfl, hb, hd, hcell⟩ := hR'.at_ (k := 0) h0
      obtain ⟨r, rfl⟩ : ∃ r, l = d :: r := by
        cases l with
        | nil => simp at hd
        | cons x r => simp at hd; subst hd; exact ⟨r, rfl⟩
      have HR := Lib.hid hR'
      have hcell' : w.cell? ⟨b, off, none⟩ = some (.int .u8 (d.toNat : Int)) := hcell
      clear hcell hR' hd
      by_cases hz : d.toNat = 0
      · have t1 : ((d.toNat : Int) == 0) = true := by simp; omega
        have HT' := Lib.hid (HT.out.trans ((trimZ_cons d r).trans (if_pos hz)))
        have hlen := HR.out.1
        by_cases hcap : c' = 1
        · have hn1 : n' = 1 := by omega
          have hr : r = [] := by cases r with
            | nil => rfl
            | cons x y => simp at hlen; omega
          subst hr
          subst hcap
          subst hn1
          clear hz
          go_wp2
          go_round
          case rel => exact ⟨_, 0, _, [], rfl, RB.nil _ _, Nat.zero_le _, by omega, by omega, HT'⟩
          case measure => simp
        · have hRr : Hid (RB w (some ⟨b, off + 1, none⟩) (n' - 1) r) := by
            have h2 := HR.out.2.drop_ 1
            simp only [Option.map_some, Addr.add_lit] at h2
            exact ⟨by simp at hlen; omega, h2⟩
          have hc1 : 1 < c' := by omega
          clear hz hcap
          go_wp2
          go_round
          case rel => exact ⟨_, _, _, r, rfl, hRr.out, by omega, by omega, by omega, HT'⟩
          case measure => simp; omega
      · have t1 : ((d.toNat : Int) == 0) = false := by simp; omega
        have HT' := Lib.hid (HT.out.trans ((trimZ_cons d r).trans (if_neg hz)))
        by_cases h8 : 128 ≤ d.toNat
        · have t2 : decide ((d.toNat : Int) < 128) = false := by simp; omega
          have HP : Hid (putI bs = 0 :: d :: r) := by unfold Hid putI; rw [HT'.out]; simp only; rw [if_pos h8]
          clear hz h8
          go_wp2_with (at_builtin; refine wpList_apn _ _ rfl rfl rfl w.heap.size (some ⟨w.heap.size, 0, none⟩) 1 1 [(0 : UInt8)] rfl (own_lit w [(0 : UInt8)] 1 _ rfl rfl (by omega)) (some ⟨b, off, none⟩) n' c' (d :: r) rfl (HR.out.alloc _) (by omega) (by simp) ?_)
          intro A2 c2 w2 ho2 hg2
          go_wp2
          go_ret
          exact ⟨A2, 1 + n', c2, rfl, by rw [HP.out]; exact ho2, (kp_alloc (Below.refl _ _) _).grown hg2 (by simp) (fun g hg => by injection hg with hg; subst hg; exact Nat.le_refl _)⟩
        · have t2 : decide ((d.toNat : Int) < 128) = true := by simp; omega
          have HP : Hid (putI bs = d :: r) := by unfold Hid putI; rw [HT'.out]; simp only; rw [if_neg h8]
          have C0 := Lib.hid (copy_any (some ⟨b, off, none⟩) n' c' (d :: r) w HR.out (by omega))
          clear hz h8
          go_wp2_with fail
          refine C0.out.mono ?_
          rintro e w' ⟨A1, n1, c1, rfl, ho, hb⟩
          go_wp2
          go_ret
          exact ⟨A1, n1, c1, rfl, by rw [HP.out]; exact ho, hb⟩
    · have hl : l = [] := List.length_eq_zero_iff.1 (by have := hR'.1; omega)
      subst hl
      have hn0 : n' = 0 := by omega
      subst hn0
      have HP : Hid (putI bs = [0]) := by unfold Hid putI; rw [HT.out]; rfl
      have HR := Lib.hid hR'
      clear hR'
      go_wp2_with (at_builtin; refine wpList_apn _ _ rfl rfl rfl w.heap.size (some ⟨w.heap.size, 0, none⟩) 1 1 [(0 : UInt8)] rfl (own_lit w [(0 : UInt8)] 1 _ rfl rfl (by omega)) A' 0 c' [] rfl (HR.out.alloc _) (by omega) (by simp) ?_)
      intro A2 c2 w2 ho2 hg2
      go_wp2
      go_ret
      exact ⟨A2, 1, c2, rfl, by rw [HP.out]; exact ho2, (kp_alloc (Below.refl _ _) _).grown hg2 (by simp) (fun g hg => by injection hg with hg; subst hg; exact Nat.le_refl _)⟩
/-! ### Bits -/
end Go.Proofs.Ytomolfdcdmncoaa
