/-
  pe: a shape brought to what may be made.
-/
import Derived.Test.YtcedojmhgmgcgaaGreatDoorMp3
import Derived.Test.YtcedojmhgmgcgaaGreatDoorUp
import Derived.Test.YtcedojmhgmgcgaaGreatDoorRin
import Derived.Deep.CutBlock
import Derived.Laws.Tables
import Derived.Laws.CopyOwn
import Derived.Maps.AppendAt
import Derived.Test.YtcedojmhgmgcgaaGreatDoorStep
namespace Go.Proofs.YtcedojmhgmgcgaaGreatDoor
open Go.RowKit Go
set_option linter.unusedVariables false
set_option linter.unusedSimpArgs false
set_option maxRecDepth 100000
/-- What becomes of a shape's bodies and of its signatures. -/
def bringB (l : List (List UInt8)) : List (List UInt8) := if l = [] then [[]] else (l.take 10).map (·.take 300)
def bringS (l : List (List UInt8)) : List (List UInt8) := (l.take 8).map fun s => 48 :: s.take 300
def cut1 (k : Nat) (x : Own1) : Own1 := (x.1, min x.2.1 k, x.2.2.1, x.2.2.2.take k)
theorem rb_min {w : World} {A : Option Addr} {n k : Nat} {bs : List UInt8} (h : RB w A n bs) : RB w A (min n k) (bs.take k) :=
  ⟨by rw [List.length_take, h.1, Nat.min_comm], h.2.take_ k⟩
/-- What Brought hands back. -/
def BrPost (x : Shp) (w : World) (e : Ending) (w' : World) : Prop :=
  ∃ y : Shp, e = .returned (.agg y.cells) ∧ y.R w' ∧ Below w.heap.size w w' ∧ y.plus = x.plus ∧ y.stub = x.stub.take 200 ∧ y.fill = x.fill.take 200 ∧ y.beh = x.beh.take 500 ∧ y.ord = x.ord.take 20 ∧
    y.bod.map (fun z => z.2.2.2) = bringB (x.bod.map fun z => z.2.2.2) ∧ y.sig.map (fun z => z.2.2.2) = bringS (x.sig.map fun z => z.2.2.2) ∧ y.gn ≤ y.gc
section
variable (w : World)
/-- APPENDING BYTES to bytes that the call owns: the source may be nil, empty, or anything that reads as bytes. -/
theorem run_appt (base : Nat) (A0 : Option Addr) (n0 c0 : Nat) (bs : List UInt8) (hown : OwnB w base A0 n0 c0 bs)
    (B : Nat) (A : Option Addr) (c : Nat) (news : List UInt8) (hr : Bs w B A news) (hlim : bs.length + news.length ≤ 140737488355328) (hbase : base ≤ w.heap.size) :
    ∃ A' c' w', (Builtin.append_ #[22, 22] 22 #[.slice A0 n0 c0, .slice A news.length c]).run Tryz.prog w = .ok (.slice A' (n0 + news.length) c') w' ∧
      OwnB w' base A' (n0 + news.length) c' (bs ++ news) ∧ w.grownBy w' (blk A0) ∧ (blk A' = blk A0 ∨ blk A' = some w.heap.size) := by
  obtain ⟨i, hi, hz0, hz1, hz2⟩ := info_parts u8_info
  have hlen := hown.len
  rcases A with _ | ad
  · have hn : news = [] := by
      rcases news with _ | ⟨q, r⟩
      · rfl
      · obtain ⟨b, off, e, _⟩ := hr (by simp)
        cases e
    subst hn
    refine ⟨A0, c0, w, ?_, by simpa using hown, World.grownBy.refl w _, .inl rfl⟩
    rcases hown.2 with ⟨hv, rfl⟩ | ⟨g, cap, cur, hv, _, _, hnc, _⟩
    · injection hv with h1 h2 h3
      subst h1; subst h3
      simp [Builtin.append_, run_underlying Tryz.underlying22, sizeOf, typeInfo, hi, Builtin.lenOf, Builtin.firstCells]
    · injection hv with h1 h2 h3
      subst h1; subst h3
      simp [Builtin.append_, run_underlying Tryz.underlying22, sizeOf, typeInfo, hi, Builtin.lenOf, Builtin.firstCells, hnc, storeCells]
  · have hnews : ∀ j u, (news.map bv)[j]? = some u → w.cell? (ad.add j) = some u := by
      intro j u hj
      rcases news with _ | ⟨q, r⟩
      · simp at hj
      · obtain ⟨b, off, e, _, hc⟩ := hr (by simp)
        injection e with e
        subst e
        have hjl : j < (q :: r).length := by
          rcases Nat.lt_or_ge j (q :: r).length with h | h
          · exact h
          · rw [List.getElem?_eq_none (by simpa using h)] at hj; cases hj
        rw [List.getElem?_map, List.getElem?_eq_getElem hjl] at hj
        injection hj with hj
        have hadd : (⟨b, off, none⟩ : Addr).add j = ⟨b, off + j, none⟩ := by unfold Addr.add; split <;> simp_all
        rw [hadd, hc j hjl, ← hj]
    obtain ⟨v', w', hrun, h2, h3, _, h5⟩ := run_append_own_at (P := Tryz.prog) w base 22 22 5 i (.int .u8 0) 1 1 Tryz.underlying22 hi hz0 hz1 hz2 rfl (by decide) (.slice A0 n0 c0) n0 (bs.map bv) hown ad news.length c (news.map bv)
      (by simp) hnews (by intro u hu; simp at hu; obtain ⟨q, _, rfl⟩ := hu; rfl) (by unfold maxLen; omega) (by omega) hbase
    rw [blk_own] at h3 h5
    rcases h2.2 with ⟨rfl, hn0⟩ | ⟨g, cap, cur, rfl, hg⟩
    · refine ⟨none, 0, w', by rw [hrun, hn0], ?_, h3, by rw [blk_own] at h5; exact h5⟩
      unfold OwnB
      rw [List.map_append]
      rw [hn0] at h2 ⊢
      exact h2
    · refine ⟨some ⟨g, 0, none⟩, cap, w', hrun, ?_, h3, by rw [blk_own] at h5; exact h5⟩
      unfold OwnB
      rw [List.map_append]
      exact h2
end
section
variable {w : World} {ops : Array Oper} {rest : List Oper} {o : Oper} {a : Act} {Q : Exit → Act → World → Prop}
theorem wpList_apt (s x : Operand) (ho : o.op = .call { callee := .builtin .append, args := #[s, x], argTypes := #[22, 22] }) (hgd : o.guard = none) (hty : o.type = 22)
    (base : Nat) (A0 : Option Addr) (n0 c0 : Nat) (bs : List UInt8) (hs : a.eval s = .slice A0 n0 c0) (hown : OwnB w base A0 n0 c0 bs)
    (A : Option Addr) (m c : Nat) (news : List UInt8) (hx : a.eval x = .slice A m c) (hr : RB w A m news) (hlim : n0 + m ≤ 140737488355328) (hbase : base ≤ w.heap.size)
    (h : ∀ A' c' w', OwnB w' base A' (n0 + m) c' (bs ++ news) → w.grownBy w' (blk A0) → (blk A' = blk A0 ∨ blk A' = some w.heap.size) → wpList Tryz.prog ops Q rest (a.put o.dst (.slice A' (n0 + m) c')) w') : wpList Tryz.prog ops Q (o :: rest) a w := by
  obtain ⟨rfl, hb⟩ := hr
  refine wpList_plain hgd fun K hK => ?_
  obtain ⟨A', c', w', hrun, h2, h3, h4⟩ := run_appt w base A0 n0 c0 bs hown w.heap.size A c news hb (by rw [hown.len]; exact hlim) hbase
  unfold Oper.wp execOp
  simp only [ho, resolve, invoke, builtin, Sem.run_bind, Sem.run_pure, Result.andThen_ok, List.map_toArray, List.map_cons, List.map_nil, hs, hx, hty, hrun]
  exact hK _ _ (h A' c' w' h2 h3 h4)
theorem wpList_appRt {s e k bytes : Nat} {z : Value} (T : RowT s e k bytes z) (sOp xOp : Operand) (ho : o.op = .call { callee := .builtin .append, args := #[sOp, xOp], argTypes := #[s, s] }) (hgd : o.guard = none) (hty : o.type = s)
    (base : Nat) (V : Option Addr) (m c0 : Nat) (vs : List Value) (hs : a.eval sOp = .slice V m c0) (hown : OwnR w base e k V m c0 vs)
    (ad : Addr) (nn c : Nat) (news : List Value) (hx : a.eval xOp = .slice (some ad) nn c) (hl : news.length = nn * k) (hnews : ∀ (j : Nat) (u : Value), news[j]? = some u → w.cell? (ad.add j) = some u) (h1 : ∀ u ∈ news, u.oneCell' = true)
    (hlim : m + nn ≤ maxLen) (hbytes : (m + nn) * bytes ≤ 140737488355328) (hbase : base ≤ w.heap.size)
    (h : ∀ V' c' w', OwnR w' base e k V' (m + nn) c' (vs ++ news) → w.grownBy w' (blk V) → (blk V' = blk V ∨ blk V' = some w.heap.size) → wpList Tryz.prog ops Q rest (a.put o.dst (.slice V' (m + nn) c')) w') : wpList Tryz.prog ops Q (o :: rest) a w := by
  refine wpList_plain hgd fun K hK => ?_
  obtain ⟨i, hi, hz0, hz1, hz2⟩ := info_parts T.info
  obtain ⟨v', w', hrun, h2, h3, _, h5⟩ := run_append_own_at (P := Tryz.prog) w base s s e i z k bytes T.und hi hz0 hz1 hz2 T.zs T.pos (.slice V m c0) m vs hown ad nn c news hl hnews h1 hlim hbytes hbase
  rw [blk_own] at h3 h5
  have hsh : ∃ V' c', v' = .slice V' (m + nn) c' := by
    rcases h2.2 with ⟨rfl, hn⟩ | ⟨g, cap, cur, rfl, _⟩
    · exact ⟨none, 0, by rw [hn]⟩
    · exact ⟨_, _, rfl⟩
  obtain ⟨V', c', rfl⟩ := hsh
  rw [blk_own] at h5
  unfold Oper.wp execOp
  simp only [ho, resolve, invoke, builtin, Sem.run_bind, Sem.run_pure, Result.andThen_ok, List.map_toArray, List.map_cons, List.map_nil, hs, hx, hty, hrun]
  exact hK _ _ (h V' c' w' h2 h3 h5)
/-- Appending a list that was just built. -/
theorem wpList_appLt {s e k bytes : Nat} {z : Value} (T : RowT s e k bytes z) (sOp xOp : Operand) (ho : o.op = .call { callee := .builtin .append, args := #[sOp, xOp], argTypes := #[s, s] }) (hgd : o.guard = none) (hty : o.type = s)
    (base : Nat) (V : Option Addr) (m c0 : Nat) (vs : List Value) (hs : a.eval sOp = .slice V m c0) (hown : OwnR w base e k V m c0 vs)
    (g nn c : Nat) (cs : Array Value) (mk : Nat × Nat) (hx : a.eval xOp = .slice (some ⟨g, 0, none⟩) nn c) (hg : w.heap[g]? = some (.cells cs e mk)) (hl : cs.size = nn * k) (h1 : ∀ u ∈ cs.toList, u.oneCell' = true)
    (hlim : m + nn ≤ maxLen) (hbytes : (m + nn) * bytes ≤ 140737488355328) (hbase : base ≤ w.heap.size)
    (h : ∀ V' c' w', OwnR w' base e k V' (m + nn) c' (vs ++ cs.toList) → w.grownBy w' (blk V) → (blk V' = blk V ∨ blk V' = some w.heap.size) → wpList Tryz.prog ops Q rest (a.put o.dst (.slice V' (m + nn) c')) w') : wpList Tryz.prog ops Q (o :: rest) a w :=
  wpList_appRt T sOp xOp ho hgd hty base V m c0 vs hs hown ⟨g, 0, none⟩ nn c cs.toList hx (by simpa using hl) (cells_lit w g cs e mk hg) h1 hlim hbytes hbase h
end
/-- Two that lie in unlike blocks still do when one of them has grown. -/
theorem far_grown {w : World} {A A' B : Option Addr} (h : blk A = none ∨ blk A ≠ blk B) (h4 : blk A' = blk A ∨ blk A' = some w.heap.size) (hB : ∀ g, blk B = some g → g < w.heap.size) : blk A' = none ∨ blk A' ≠ blk B := by
  rcases h4 with e | e
  · rw [e]; exact h
  · right; rw [e]; intro e2; have := hB _ e2.symm; omega
theorem setCells_size (b : Nat) : ∀ (vs : List Value) (o : Nat) (w : World), (w.setCells b o vs).heap.size = w.heap.size
  | [], _, _ => rfl
  | v :: vs, o, w => by
    rw [World.setCells, setCells_size b vs]
    simp [World.setCell]
theorem setCells_tape (b : Nat) : ∀ (vs : List Value) (o : Nat) (w : World), (w.setCells b o vs).os = w.os ∧ (w.setCells b o vs).tape = w.tape ∧ (w.setCells b o vs).output = w.output
  | [], _, _ => ⟨rfl, rfl, rfl⟩
  | v :: vs, o, w => by
    rw [World.setCells]
    exact setCells_tape b vs (o + 1) (w.setCell ⟨b, o, none⟩ v)
theorem setCells_other (b : Nat) {k : Nat} (hk : k ≠ b) : ∀ (vs : List Value) (o : Nat) (w : World), (w.setCells b o vs).heap[k]? = w.heap[k]?
  | [], _, _ => rfl
  | v :: vs, o, w => by
    rw [World.setCells, setCells_other b hk vs]
    simp only [World.setCell]
    rw [Array.getElem?_modify, if_neg (fun h => hk h.symm)]
theorem below_setc {u w : World} {B r o : Nat} {vs : List Value} (h : Below B u w) (hr : B ≤ r) : Below B u (w.setCells r o vs) := by
  obtain ⟨e1, e2, e3⟩ := setCells_tape r vs o w
  exact ⟨e1.trans h.os, e2.trans h.tape, e3.trans h.output, by rw [setCells_size]; exact h.size, fun k hk => by rw [setCells_other r (by omega)]; exact h.block k hk⟩
theorem has_setc7 {w : World} {g : Nat} {a0 a1 a2 a3 a4 a5 a6 : Value} {t : Nat} {mk : Nat × Nat} (h : w.heap[g]? = some (.cells #[a0, a1, a2, a3, a4, a5, a6] t mk)) (b0 b1 b2 b3 b4 b5 b6 : Value) :
    (w.setCells g 0 #[b0, b1, b2, b3, b4, b5, b6].toList).heap[g]? = some (.cells #[b0, b1, b2, b3, b4, b5, b6] t mk) := by
  have h0 := heap_set_at _ g 0 _ _ _ b0 h
  have h1 := heap_set_at _ g 1 _ _ _ b1 h0
  have h2 := heap_set_at _ g 2 _ _ _ b2 h1
  have h3 := heap_set_at _ g 3 _ _ _ b3 h2
  have h4 := heap_set_at _ g 4 _ _ _ b4 h3
  have h5 := heap_set_at _ g 5 _ _ _ b5 h4
  have h6 := heap_set_at _ g 6 _ _ _ b6 h5
  simp only [List.setIfInBounds_toArray, List.set_cons_zero, List.set_cons_succ] at h6
  simp only [World.setCells, Nat.reduceAdd, Nat.zero_add]
  exact h6
def gd (L : Array Bool) (j : Nat) (v : Value) : Value := if L.getD j false = true then v else undef
theorem gd_yes {L : Array Bool} {j : Nat} (v : Value) (h : L.getD j false = true) : gd L j v = v := if_pos h
theorem lset (L : Array Bool) (i j : Nat) (hi : i < L.size) : (L.setIfInBounds i true).getD j false = (decide (i = j) || L.getD j false) := by
  by_cases h : i = j
  · subst h; simp [Array.getD, hi]
  · simp only [h, decide_false, Bool.false_or]
    rw [Array.getD_eq_getD_getElem?, Array.getD_eq_getD_getElem?, Array.getElem?_setIfInBounds_ne h]
theorem gd_set (L : Array Bool) (i j : Nat) (v : Value) (hi : i < L.size) (h : i ≠ j) : gd (L.setIfInBounds i true) j v = gd L j v := by
  unfold gd; rw [lset L i j hi]; simp [h]
theorem gd_same (L : Array Bool) (i : Nat) (v : Value) (hi : i < L.size) : gd (L.setIfInBounds i true) i v = v := by
  unfold gd; rw [lset L i i hi]; simp
def TB (plus : Bool) (sA : Option Addr) (sn sc : Nat) (fA : Option Addr) (fn fc : Nat) (bA : Option Addr) (bn bc : Nat) (oA : Option Addr) (on oc : Nat) (hA : Option Addr) (hn hc : Nat) (gA : Option Addr) (gn gc : Nat) (ms mf mh mo b : Nat) (L : Array Bool) : Array Value := #[.agg #[.bool plus, .slice sA sn sc, .slice fA fn fc, .slice bA bn bc, .slice oA on oc, .slice hA hn hc, .slice gA gn gc], .pointer (some ⟨b, 0, none⟩), .pointer (some ⟨b + 1, 0, none⟩), gd L 31 (.pointer (some ⟨b + 2, 0, none⟩)), undef, undef, undef, gd L 0 (.pointer (some ⟨b, 0, none⟩)), gd L 1 (.bool plus), gd L 2 (.pointer (some ⟨b, 1, none⟩)), gd L 3 (.slice sA sn sc), gd L 4 (.pointer (some ⟨b, 1, none⟩)), gd L 5 (.slice sA sn sc), gd L 6 (.int .i64 (sn : Int)), gd L 7 (.int .i64 (ms : Int)), gd L 8 (.slice sA ms sc), gd L 9 (.pointer (some ⟨b, 2, none⟩)), gd L 10 (.slice fA fn fc), gd L 11 (.pointer (some ⟨b, 2, none⟩)), gd L 12 (.slice fA fn fc), gd L 13 (.int .i64 (fn : Int)), gd L 14 (.int .i64 (mf : Int)), gd L 15 (.slice fA mf fc), gd L 16 (.pointer (some ⟨b, 5, none⟩)), gd L 17 (.slice hA hn hc), gd L 18 (.pointer (some ⟨b, 5, none⟩)), gd L 19 (.slice hA hn hc), gd L 20 (.int .i64 (hn : Int)), gd L 21 (.int .i64 (mh : Int)), gd L 22 (.slice hA mh hc), gd L 23 (.pointer (some ⟨b, 4, none⟩)), gd L 24 (.slice oA on oc), gd L 25 (.pointer (some ⟨b, 4, none⟩)), gd L 26 (.slice oA on oc), gd L 27 (.int .i64 (on : Int)), gd L 28 (.int .i64 (mo : Int)), gd L 29 (.slice oA mo oc), gd L 30 (.agg #[.bool plus, .slice sA ms sc, .slice fA mf fc, .slice none 0 0, .slice oA mo oc, .slice hA mh hc, .slice none 0 0]), undef, undef, undef, undef, undef, undef, undef, undef, undef, undef, undef, undef, undef, undef, undef, undef, undef, undef, undef, undef, undef, undef, undef, undef, undef, undef, undef, undef, undef, undef, undef, undef, undef, undef, undef, undef, undef, undef, undef, undef, undef, undef, undef, undef, undef, undef, undef, undef, undef, undef, undef, undef, undef, undef, undef, undef, undef, undef, undef, undef, undef, undef, undef, undef, undef, undef, undef, undef, undef]
def zB : Obj := .cells #[.bool false, .slice none 0 0, .slice none 0 0, .slice none 0 0, .slice none 0 0, .slice none 0 0, .slice none 0 0] 44
/-- The world when these operations have been done. -/
def wB (w0 : World) (y : Nat) (vs : Array Value) (L : Array Bool) : World := if L.getD 31 false = true then (if L.getD 32 false = true then (w0.alloc zB).setCells y 0 vs.toList else w0.alloc zB) else w0
def IB (w0 : World) (y : Nat) (vs : Array Value) (T : Array Bool → Array Value) (L : Array Bool) (a : Act) (w : World) : Prop :=
  a = ⟨T L, []⟩ ∧ w = wB w0 y vs L ∧ (L.getD 32 false = true → L.getD 31 false = true)
theorem IB.next {w0 w : World} {y : Nat} {vs : Array Value} {T : Array Bool → Array Value} {L : Array Bool} (h : w = wB w0 y vs L ∧ (L.getD 32 false = true → L.getD 31 false = true)) {i : Nat} (hi : i < L.size) (h1 : i ≠ 31) (h2 : i ≠ 32) {a : Act} (ha : a = ⟨T (L.setIfInBounds i true), []⟩) : IB w0 y vs T (L.setIfInBounds i true) a w := by
  refine ⟨ha, ?_, ?_⟩
  · unfold wB
    rw [lset L i _ hi, lset L i _ hi]
    simp only [h1, h2, decide_false, Bool.false_or]
    exact h.1
  · rw [lset L i _ hi, lset L i _ hi]
    simp only [h1, h2, decide_false, Bool.false_or]
    exact h.2
theorem wB_below {w0 : World} {y : Nat} {vs : Array Value} (L : Array Bool) (hy : w0.heap.size ≤ y) : Below w0.heap.size w0 (wB w0 y vs L) := by
  unfold wB
  split
  · split
    · exact below_setc (kp_alloc (Below.refl _ _) _) hy
    · exact kp_alloc (Below.refl _ _) _
  · exact Below.refl _ _
def gx (L : Array Bool) (j : Nat) (v d : Value) : Value := if L.getD j false = true then v else d
theorem gx_yes {L : Array Bool} {j : Nat} (v d : Value) (h : L.getD j false = true) : gx L j v d = v := if_pos h
theorem gx_no {L : Array Bool} {j : Nat} (v d : Value) (h : L.getD j false = false) : gx L j v d = d := if_neg (by rw [h]; decide)
theorem gx_set (L : Array Bool) (i j : Nat) (v d : Value) (hi : i < L.size) (h : i ≠ j) : gx (L.setIfInBounds i true) j v d = gx L j v d := by
  unfold gx; rw [lset L i j hi]; simp [h]
theorem gx_same (L : Array Bool) (i : Nat) (v d : Value) (hi : i < L.size) : gx (L.setIfInBounds i true) i v d = v := by
  unfold gx; rw [lset L i i hi]; simp
def T5 (plus : Bool) (sA : Option Addr) (sn sc : Nat) (fA : Option Addr) (fn fc : Nat) (bA : Option Addr) (bn bc : Nat) (oA : Option Addr) (on oc : Nat) (hA : Option Addr) (hn hc : Nat) (gA : Option Addr) (gn gc : Nat) (ms mf mh mo b : Nat) (i bk bo : Nat) (V : Option Addr) (m c : Nat) (A2 : Option Addr) (n2 c2 mi : Nat) (u47 u48 u49 u50 u51 u52 u53 u54 u55 u56 u57 u58 u59 u60 u61 u62 u63 u64 u65 u66 : Value) (B g5 c5 : Nat) (L : Array Bool) : Array Value := #[.agg #[.bool plus, .slice sA sn sc, .slice fA fn fc, .slice bA bn bc, .slice oA on oc, .slice hA hn hc, .slice gA gn gc], .pointer (some ⟨b, 0, none⟩), .pointer (some ⟨b + 1, 0, none⟩), .pointer (some ⟨b + 2, 0, none⟩), .int .i64 (i : Int), undef, undef, .pointer (some ⟨b, 0, none⟩), .bool plus, .pointer (some ⟨b, 1, none⟩), .slice sA sn sc, .pointer (some ⟨b, 1, none⟩), .slice sA sn sc, .int .i64 (sn : Int), .int .i64 (ms : Int), .slice sA ms sc, .pointer (some ⟨b, 2, none⟩), .slice fA fn fc, .pointer (some ⟨b, 2, none⟩), .slice fA fn fc, .int .i64 (fn : Int), .int .i64 (mf : Int), .slice fA mf fc, .pointer (some ⟨b, 5, none⟩), .slice hA hn hc, .pointer (some ⟨b, 5, none⟩), .slice hA hn hc, .int .i64 (hn : Int), .int .i64 (mh : Int), .slice hA mh hc, .pointer (some ⟨b, 4, none⟩), .slice oA on oc, .pointer (some ⟨b, 4, none⟩), .slice oA on oc, .int .i64 (on : Int), .int .i64 (mo : Int), .slice oA mo oc, .agg #[.bool plus, .slice sA ms sc, .slice fA mf fc, .slice none 0 0, .slice oA mo oc, .slice hA mh hc, .slice none 0 0], .int .i64 (i : Int), .pointer (some ⟨b, 3, none⟩), .slice bA bn bc, .int .i64 (bn : Int), .bool true, .bool true, .int .i64 (i : Int), .bool true, .bool true, u47, u48, gx L 0 (.pointer (some ⟨b + 2, 3, none⟩)) u49, gx L 1 (.slice V m c) u50, gx L 2 (.pointer (some ⟨b, 3, none⟩)) u51, gx L 3 (.slice bA bn bc) u52, gx L 4 (.int .i64 (i : Int)) u53, gx L 5 (.pointer (some ⟨bk, bo + i, none⟩)) u54, gx L 6 (.slice A2 n2 c2) u55, gx L 7 (.pointer (some ⟨b, 3, none⟩)) u56, gx L 8 (.slice bA bn bc) u57, gx L 9 (.int .i64 (i : Int)) u58, gx L 10 (.pointer (some ⟨bk, bo + i, none⟩)) u59, gx L 11 (.slice A2 n2 c2) u60, gx L 12 (.int .i64 (n2 : Int)) u61, gx L 13 (.int .i64 (mi : Int)) u62, gx L 14 (.slice A2 mi c2) u63, gx L 15 (.slice (some ⟨B, 0, none⟩) 1 1) u64, gx L 16 (.slice (some ⟨g5, 0, none⟩) (m + 1) c5) u65, gx L 17 (.pointer (some ⟨b + 2, 3, none⟩)) u66, undef, undef, undef, undef, undef, undef, undef, undef, undef, undef, undef, undef, undef, undef, undef, undef, undef, undef, undef, undef, undef, undef, undef, undef, undef, undef, undef, undef, undef, undef, undef, undef, undef, undef, undef, undef, undef, undef, undef, undef]
/-- What stands while a body is appended. -/
structure J5 (w : World) (xc zc : Array Value) (yc : Option Addr → Nat → Nat → Array Value) (V : Option Addr) (m c : Nat) (vs : List Value) (new : Value) (B g5 c5 : Nat) (L : Array Bool) (W : World) : Prop where
  b : Below w.heap.size w W
  x : W.heap[w.heap.size]? = some (.cells xc 44)
  z : W.heap[w.heap.size + 1]? = some (.cells zc 44)
  y0 : L.getD 18 false = false → W.heap[w.heap.size + 2]? = some (.cells (yc V m c) 44)
  y1 : L.getD 18 false = true → W.heap[w.heap.size + 2]? = some (.cells (yc (some ⟨g5, 0, none⟩) (m + 1) c5) 44)
  o0 : L.getD 16 false = false → OwnR W (w.heap.size + 3) 22 1 V m c vs
  o1 : L.getD 16 false = true → OwnR W (w.heap.size + 3) 22 1 (some ⟨g5, 0, none⟩) (m + 1) c5 (vs ++ [new])
  s : L.getD 15 false = true → L.getD 16 false = false → W.heap[B]? = some (.cells #[new] 22)
  e : L.getD 18 false = true → L.getD 16 false = true
  f : L.getD 16 false = true → L.getD 15 false = true
  q : L.getD 16 false = true → L.getD 1 false = true
  n : w.heap.size + 3 ≤ W.heap.size
theorem J5.next {w : World} {xc zc : Array Value} {yc : Option Addr → Nat → Nat → Array Value} {V : Option Addr} {m c : Nat} {vs : List Value} {new : Value} {B g5 c5 : Nat} {L : Array Bool} {W : World} (h : J5 w xc zc yc V m c vs new B g5 c5 L W) {i : Nat} (hi : i < L.size) (h1 : i ≠ 15) (h2 : i ≠ 16) (h3 : i ≠ 18) : J5 w xc zc yc V m c vs new B g5 c5 (L.setIfInBounds i true) W := by
  have e15 : (L.setIfInBounds i true).getD 15 false = L.getD 15 false := by rw [lset L i _ hi]; simp [h1]
  have e16 : (L.setIfInBounds i true).getD 16 false = L.getD 16 false := by rw [lset L i _ hi]; simp [h2]
  have e18 : (L.setIfInBounds i true).getD 18 false = L.getD 18 false := by rw [lset L i _ hi]; simp [h3]
  constructor
  · exact h.b
  · exact h.x
  · exact h.z
  · rw [e18]; exact h.y0
  · rw [e18]; exact h.y1
  · rw [e16]; exact h.o0
  · rw [e16]; exact h.o1
  · rw [e15, e16]; exact h.s
  · rw [e18, e16]; exact h.e
  · rw [e16, e15]; exact h.f
  · rw [e16]; intro h9; rw [lset L i _ hi, h.q h9]; simp
  · exact h.n
theorem J5.build {w : World} {xc zc : Array Value} {yc : Option Addr → Nat → Nat → Array Value} {V : Option Addr} {m c : Nat} {vs : List Value} {new : Value} {B g5 c5 : Nat} {L : Array Bool} {W : World} (h : J5 w xc zc yc V m c vs new B g5 c5 L W) (hi : 15 < L.size) (hnot : L.getD 15 false = false) : J5 w xc zc yc V m c vs new W.heap.size g5 c5 (L.setIfInBounds 15 true) (W.alloc (.cells #[new] 22)) := by
  have h16 : L.getD 16 false = false := by cases h9 : L.getD 16 false with | true => (have := h.f h9; rw [hnot] at this; cases this) | false => rfl
  have h18 : L.getD 18 false = false := by cases h9 : L.getD 18 false with | true => (have := h.e h9; rw [h16] at this; cases this) | false => rfl
  have e15 : (L.setIfInBounds 15 true).getD 15 false = true := by rw [lset L _ _ hi]; simp
  have e16 : (L.setIfInBounds 15 true).getD 16 false = false := by rw [lset L _ _ hi, h16]; simp
  have e18 : (L.setIfInBounds 15 true).getD 18 false = false := by rw [lset L _ _ hi, h18]; simp
  constructor
  · exact kp_alloc h.b _
  · exact has_alloc h.x _
  · exact has_alloc h.z _
  · intro _; exact has_alloc (h.y0 h18) _
  · rw [e18]; intro h9; cases h9
  · intro _; exact (h.o0 h16).alloc _
  · rw [e16]; intro h9; cases h9
  · intro _ _; exact has_new _ _
  · rw [e18]; intro h9; cases h9
  · rw [e16]; intro h9; cases h9
  · rw [e16]; intro h9; cases h9
  · have := h.n; simp; omega
theorem J5.app {w : World} {xc zc : Array Value} {yc : Option Addr → Nat → Nat → Array Value} {V : Option Addr} {m c : Nat} {vs : List Value} {new : Value} {B g5 c5 : Nat} {L : Array Bool} {W : World} (h : J5 w xc zc yc V m c vs new B g5 c5 L W) (hi : 16 < L.size) (d1 : L.getD 1 false = true) (d15 : L.getD 15 false = true) (hnot : L.getD 16 false = false) {g c' : Nat} {W' : World}
    (ho : OwnR W' (w.heap.size + 3) 22 1 (some ⟨g, 0, none⟩) (m + 1) c' (vs ++ [new])) (hg : W.grownBy W' (blk V)) : J5 w xc zc yc V m c vs new B g c' (L.setIfInBounds 16 true) W' := by
  have h18 : L.getD 18 false = false := by cases h9 : L.getD 18 false with | true => (have := h.e h9; rw [hnot] at this; cases this) | false => rfl
  have e15 : (L.setIfInBounds 16 true).getD 15 false = true := by rw [lset L _ _ hi, d15]; simp
  have e16 : (L.setIfInBounds 16 true).getD 16 false = true := by rw [lset L _ _ hi]; simp
  have e18 : (L.setIfInBounds 16 true).getD 18 false = false := by rw [lset L _ _ hi, h18]; simp
  have hV := fun k hk => ((h.o0 hnot).blk_lt (g := k) hk).1
  constructor
  · exact h.b.grown hg h.b.size (fun k hk => by have := hV k hk; omega)
  · exact (hg.block _ (block_lt h.x) (fun e => by have := hV _ e.symm; omega)).trans h.x
  · exact (hg.block _ (block_lt h.z) (fun e => by have := hV _ e.symm; omega)).trans h.z
  · intro _; exact (hg.block _ (block_lt (h.y0 h18)) (fun e => by have := hV _ e.symm; omega)).trans (h.y0 h18)
  · rw [e18]; intro h9; cases h9
  · rw [e16]; intro h9; cases h9
  · intro _; exact ho
  · rw [e16]; intro _ h9; cases h9
  · rw [e18]; intro h9; cases h9
  · intro _; exact e15
  · intro _; rw [lset L _ _ hi, d1]; simp
  · exact Nat.le_trans h.n hg.size
theorem J5.store {w : World} {xc zc : Array Value} {yc : Option Addr → Nat → Nat → Array Value} {V : Option Addr} {m c : Nat} {vs : List Value} {new : Value} {B g5 c5 : Nat} {L : Array Bool} {W : World} (h : J5 w xc zc yc V m c vs new B g5 c5 L W) (hi : 18 < L.size) (d16 : L.getD 16 false = true) (hnot : L.getD 18 false = false) (hyc : (yc V m c).setIfInBounds 3 (.slice (some ⟨g5, 0, none⟩) (m + 1) c5) = yc (some ⟨g5, 0, none⟩) (m + 1) c5) : J5 w xc zc yc V m c vs new B g5 c5 (L.setIfInBounds 18 true) (W.setCell ⟨w.heap.size + 2, 3, none⟩ (.slice (some ⟨g5, 0, none⟩) (m + 1) c5)) := by
  have d15 := h.f d16
  have e15 : (L.setIfInBounds 18 true).getD 15 false = true := by rw [lset L _ _ hi, d15]; simp
  have e16 : (L.setIfInBounds 18 true).getD 16 false = true := by rw [lset L _ _ hi, d16]; simp
  have e18 : (L.setIfInBounds 18 true).getD 18 false = true := by rw [lset L _ _ hi]; simp
  have hg := grown_one W (w.heap.size + 2) 3 (.slice (some ⟨g5, 0, none⟩) (m + 1) c5)
  constructor
  · exact kp_set h.b (by omega)
  · exact has_set h.x (by omega)
  · exact has_set h.z (by omega)
  · rw [e18]; intro h9; cases h9
  · intro _; rw [← hyc]; exact heap_set_at _ _ 3 _ _ _ _ (h.y0 hnot)
  · rw [e16]; intro h9; cases h9
  · intro _; exact (h.o1 d16).kept hg (.inr (fun e => by have h8 := ((h.o1 d16).blk_lt (g := g5) rfl).1; have h7 : g5 = w.heap.size + 2 := (by injection e); omega))
  · rw [e16]; intro _ h9; cases h9
  · intro _; exact e16
  · intro _; exact e15
  · intro _; rw [lset L _ _ hi, h.q d16]; simp
  · exact Nat.le_trans h.n hg.size
/-- Behind the loop that takes the bodies. -/
def LPost1 (w : World) (xc zc : Array Value) (yc : Option Addr → Nat → Nat → Array Value) (bn : Nat) (bod : List Own1) (W : World) : Prop :=
  ∃ (m c : Nat) (V : Option Addr), m = min bn 10 ∧ W.heap[w.heap.size]? = some (.cells xc 44) ∧ W.heap[w.heap.size + 1]? = some (.cells zc 44) ∧ Below w.heap.size w W ∧ W.heap[w.heap.size + 2]? = some (.cells (yc V m c) 44) ∧
    OwnR W (w.heap.size + 3) 22 1 V m c (((bod.take (min bn 10)).map (cut1 300)).map Own1.val)
/-- The bodies of what is brought. -/
def ybod (bod : List Own1) : List Own1 := if bod = [] then [(none, 0, 0, [])] else (bod.take 10).map (cut1 300)
def LPost2 (w : World) (xc zc : Array Value) (yc : Option Addr → Nat → Nat → Array Value) (bod : List Own1) (W : World) : Prop :=
  ∃ (m c : Nat) (V : Option Addr), W.heap[w.heap.size]? = some (.cells xc 44) ∧ W.heap[w.heap.size + 1]? = some (.cells zc 44) ∧ Below w.heap.size w W ∧ W.heap[w.heap.size + 2]? = some (.cells (yc V m c) 44) ∧
    OwnR W (w.heap.size + 3) 22 1 V m c ((ybod bod).map Own1.val) ∧ m = (ybod bod).length
def ysig (s : List Own1) : List (List UInt8) := (s.take 8).map fun s => 48 :: s.2.2.2.take 300
/-- What stands while signatures are taken. -/
def SQ (w : World) (xc zc : Array Value) (yc : Option Addr → Nat → Nat → Option Addr → Nat → Nat → Array Value) (bod sig : List Own1) (k : Nat) (mb cb : Nat) (Vb : Option Addr) (m c : Nat) (V : Option Addr) (xs : List Own1) (W : World) : Prop :=
  W.heap[w.heap.size]? = some (.cells xc 44) ∧ W.heap[w.heap.size + 1]? = some (.cells zc 44) ∧ Below w.heap.size w W ∧ W.heap[w.heap.size + 2]? = some (.cells (yc Vb mb cb V m c) 44) ∧
    OwnR W (w.heap.size + 3) 22 1 Vb mb cb ((ybod bod).map Own1.val) ∧ mb = (ybod bod).length ∧ OwnR W (w.heap.size + 3) 22 1 V m c (xs.map Own1.val) ∧ m = xs.length ∧ (blk Vb = none ∨ blk Vb ≠ blk V) ∧ SigsOwn (w.heap.size + 3) xs W ∧ (∀ x ∈ xs, x.2.1 ≤ 301) ∧
    xs.map (fun x => x.2.2.2) = (sig.take k).map fun s => 48 :: s.2.2.2.take 300
def SPost (w : World) (xc zc : Array Value) (yc : Option Addr → Nat → Nat → Option Addr → Nat → Nat → Array Value) (bod sig : List Own1) (k : Nat) (W : World) : Prop :=
  ∃ (mb cb : Nat) (Vb : Option Addr) (m c : Nat) (V : Option Addr) (xs : List Own1), SQ w xc zc yc bod sig k mb cb Vb m c V xs W
theorem ybod_bytes (bod : List Own1) : (ybod bod).map (fun z => z.2.2.2) = bringB (bod.map fun z => z.2.2.2) := by
  unfold ybod bringB
  cases bod with
  | nil => rfl
  | cons b l =>
    rw [if_neg (by simp), if_neg (by simp), ← List.map_take, List.map_map, List.map_map]
    rfl
theorem ysig_bytes (sig : List Own1) (gn : Nat) (h : sig.length = gn) : ((sig.take (min gn 8)).map fun s => 48 :: s.2.2.2.take 300) = bringS (sig.map fun z => z.2.2.2) := by
  unfold bringS
  rw [← List.map_take, List.map_map]
  have h2 : sig.take (min gn 8) = sig.take 8 := by
    rw [← h, Nat.min_comm]
    exact (List.take_eq_take_min ..).symm
  rw [h2]
  rfl
theorem readR_take {w : World} {A : Option Addr} {vs : List Value} (h : ReadR w A vs) (k : Nat) : ReadR w A (vs.take k) := by
  intro hn
  obtain ⟨b, off, e, hlt, hc⟩ := h (fun e => hn (by rw [e, List.take_nil]))
  exact ⟨b, off, e, hlt, fun j u hu => hc j u (by rw [List.getElem?_take] at hu; split at hu; exact hu; cases hu)⟩
/-- What Brought hands back, in the end. -/
theorem bring_end (x : Shp) (w W5 : World) (ms mf mh mo : Nat) (hR : x.R w) (hb5 : Below w.heap.size w W5) (e1 : min x.sn 200 = ms) (e2 : min x.fn 200 = mf) (e3 : min x.hn 500 = mh) (e4 : min x.on 20 = mo) (Vb : Option Addr) (mb cb : Nat) (V : Option Addr) (m c : Nat) (xs : List Own1)
    (hob : ReadR W5 Vb ((ybod x.bod).map Own1.val)) (hmb : mb = (ybod x.bod).length) (ho : ReadR W5 V (xs.map Own1.val)) (hm : m = xs.length) (hso : ∀ y ∈ xs, RB W5 y.1 y.2.1 y.2.2.2) (hxs : xs.map (fun y => y.2.2.2) = (x.sig.take (min x.gn 8)).map fun s => 48 :: s.2.2.2.take 300) (hmc : m ≤ c) :
    BrPost x w (.returned (.agg #[.bool x.plus, .slice x.sA ms x.sc, .slice x.fA mf x.fc, .slice Vb mb cb, .slice x.oA mo x.oc, .slice x.hA mh x.hc, .slice V m c])) W5 := by
  subst e1 e2 e3 e4
  have hR5 := hR.below hb5
  refine ⟨⟨x.plus, x.sA, min x.sn 200, x.sc, x.stub.take 200, x.fA, min x.fn 200, x.fc, x.fill.take 200, Vb, mb, cb, ybod x.bod, x.oA, min x.on 20, x.oc, x.ord.take 20, x.hA, min x.hn 500, x.hc, x.beh.take 500, V, m, c, xs⟩, rfl, ⟨rb_min hR5.s, rb_min hR5.f, ⟨hmb.symm, hob, ?_⟩, ?_, ?_, rb_min hR5.h, ⟨hm.symm, ho, hso⟩⟩, hb5, rfl, rfl, rfl, rfl, rfl, ybod_bytes x.bod, ?_, hmc⟩
  · intro y hy
    simp only at hy
    unfold ybod at hy
    split at hy
    · simp only [List.mem_singleton] at hy; subst hy; exact ⟨rfl, fun h => absurd rfl h⟩
    · obtain ⟨z, hz, rfl⟩ := List.mem_map.1 hy
      exact rb_min (hR5.b.rb z (List.mem_of_mem_take hz))
  · have := hR5.ol; show (x.ord.take 20).length = min x.on 20; rw [List.length_take]; omega
  · show ReadR _ x.oA ((x.ord.take 20).map _); rw [List.map_take]; exact readR_take hR5.o 20
  · show xs.map _ = _; rw [hxs]; exact ysig_bytes x.sig x.gn hR.g.l
section
variable {w : World} {xc zc : Array Value} {yc : Option Addr → Nat → Nat → Option Addr → Nat → Nat → Array Value} {bod sig : List Own1} {i mb cb : Nat} {Vb : Option Addr} {m c : Nat} {V : Option Addr} {xs : List Own1} {we w4 : World} {o : Obj}
theorem SQ.y4 (h : SQ w xc zc yc bod sig i mb cb Vb m c V xs we) (hg4 : (we.alloc o).grownBy w4 (blk V)) : w4.heap[w.heap.size + 2]? = some (.cells (yc Vb mb cb V m c) 44) :=
  (hg4.block _ (block_lt (has_alloc h.2.2.2.1 o)) (fun e => by have := (h.2.2.2.2.2.2.1.blk_lt e.symm).1; omega)).trans (has_alloc h.2.2.2.1 o)
theorem SQ.step (h : SQ w xc zc yc bod sig i mb cb Vb m c V xs we) {A9 : Option Addr} {k9 c9 : Nat} {b9 : List UInt8} {V' : Option Addr} {c' : Nat} (hyc : (yc Vb mb cb V m c).setIfInBounds 6 (.slice V' (m + 1) c') = yc Vb mb cb V' (m + 1) c')
    (hO9 : OwnB we (w.heap.size + 3) A9 k9 c9 b9) (h300 : k9 ≤ 301) (hF : ∀ x ∈ xs, ∀ g, blk x.1 = some g → ∀ g', blk A9 = some g' → g < g')
    (hs : ((sig.take (i + 1)).map fun s => 48 :: s.2.2.2.take 300) = ((sig.take i).map fun s => 48 :: s.2.2.2.take 300) ++ [b9])
    (ho4 : OwnR w4 (w.heap.size + 3) 22 1 V' (m + 1) c' (xs.map Own1.val ++ [.slice A9 k9 c9])) (hg4 : (we.alloc o).grownBy w4 (blk V)) (hl4 : blk V' = blk V ∨ blk V' = some (we.alloc o).heap.size) :
    SQ w xc zc yc bod sig (i + 1) mb cb Vb (m + 1) c' V' (xs ++ [(A9, k9, c9, b9)]) (w4.setCell ⟨w.heap.size + 2, 6, none⟩ (.slice V' (m + 1) c')) := by
  have hy4 := h.y4 hg4
  obtain ⟨hx, hz, hb, hy, hob, hmb, ho, hm, hne, hso, hxl, hxs⟩ := h
  have hne2 : ∀ k, k < w.heap.size + 3 → some k ≠ blk V := fun k hk e => by have := (ho.blk_lt e.symm).1; omega
  have hg5 := grown_one w4 (w.heap.size + 2) 6 (.slice V' (m + 1) c')
  have hsz : w.heap.size + 3 ≤ we.heap.size := block_lt hy
  have hso4 : SigsOwn (w.heap.size + 3) xs w4 := (hso.below ((Below.refl _ _).alloc (Nat.le_refl _) o)).row (ho.alloc o) hg4
  have hso5 := hso4.keep hg5 (fun q hq => by have h8 : w.heap.size + 2 = q := (by injection hq); omega)
  have hO5 := ((hO9.alloc o).kept hg4 (OwnR.ne (hO9.alloc o).row (ho.alloc o) (by decide))).kept hg5 (.inr (fun e => by have := (((hO9.alloc o).kept hg4 (OwnR.ne (hO9.alloc o).row (ho.alloc o) (by decide))).blk_lt e).1; omega))
  refine ⟨has_set ((hg4.block _ (block_lt (has_alloc hx o)) (hne2 _ (by omega))).trans (has_alloc hx o)) (by omega), has_set ((hg4.block _ (block_lt (has_alloc hz o)) (hne2 _ (by omega))).trans (has_alloc hz o)) (by omega),
    kp_set ((kp_alloc hb o).grown hg4 (by simp; omega) (fun q hq => by have := (ho.blk_lt hq).1; omega)) (by omega), ?_, ?_, hmb, ?_, by simp; omega, ?_, ⟨?_, ?_⟩, ?_, ?_⟩
  · rw [← hyc]; exact heap_set_at _ _ 6 _ _ _ _ hy4
  · exact ((hob.alloc o).kept hg4 hne).kept hg5 (.inr (fun e => by have := (hob.blk_lt e).1; omega))
  · have := ho4.kept hg5 (.inr (fun e => by have := (ho4.blk_lt e).1; omega))
    simpa [Own1.val] using this
  · rcases hl4 with e | e
    · rw [e]; exact hne
    · cases hk : blk Vb with
      | none => exact .inl rfl
      | some k => right; rw [e]; intro e2; have h8 : k = (we.alloc o).heap.size := (by injection e2); have h9 := (hob.blk_lt hk).2; simp at h8; omega
  · intro x hx
    rcases List.mem_append.1 hx with hx | hx
    · exact hso5.own x hx
    · simp only [List.mem_singleton] at hx; subst hx; exact ⟨hO5, by show k9 ≤ _; omega⟩
  · refine List.pairwise_append.2 ⟨hso5.far, List.pairwise_singleton _ _, fun x hx y hy => ?_⟩
    simp only [List.mem_singleton] at hy; subst hy
    cases hk : blk x.1 with
    | none => exact .inl rfl
    | some k => right; intro e; have := hF x hx k hk k e.symm; omega
  · intro x hx
    rcases List.mem_append.1 hx with hx | hx
    · exact hxl x hx
    · simp only [List.mem_singleton] at hx; subst hx; exact h300
  · rw [hs, ← hxs]; simp
end
set_option maxHeartbeats 40000000 in
theorem brought_any (x : Shp) (w : World) (hR : x.R w) (hlc : x.sn ≤ x.sc ∧ x.fn ≤ x.fc ∧ x.hn ≤ x.hc ∧ x.on ≤ x.oc) (hcc : x.sc ≤ 9223372036854775807 ∧ x.fc ≤ 9223372036854775807 ∧ x.hc ≤ 9223372036854775807 ∧ x.oc ≤ 9223372036854775807) (hbc : ∀ y ∈ x.bod, y.2.1 ≤ y.2.2.1 ∧ y.2.2.1 ≤ 9223372036854775807) (hgc : ∀ y ∈ x.sig, y.2.1 ≤ y.2.2.1 ∧ y.2.2.1 ≤ 9223372036854775807) (hbn : x.bn ≤ 9223372036854775807 ∧ x.gn ≤ 9223372036854775807) :
    Calls Tryz.prog 13 #[.agg x.cells] w (BrPost x w) := by
  have HR := Lib.hid hR
  have HBC := Lib.hid hbc
  have HGC := Lib.hid hgc
  obtain ⟨plus, sA, sn, sc, stub, fA, fn, fc, fill, bA, bn, bc, bod, oA, on, oc, ord, hA, hn, hc, beh, gA, gn, gc, sig⟩ := x
  dsimp only [Shp.cells] at *
  obtain ⟨l1, l2, l3, l4⟩ := hlc
  obtain ⟨m1, m2, m3, m4⟩ := hcc
  clear hR hbc hgc
  obtain ⟨ms, hms⟩ : ∃ z, min sn 200 = z := ⟨_, rfl⟩
  have ems : (if (200 : Int) < (sn : Int) then (200 : Int) else (sn : Int)) = (ms : Int) := by split <;> omega
  have bms : (0 : Int) ≤ (ms : Int) := by omega
  have dms : (ms : Int) ≤ (sc : Int) := by omega
  obtain ⟨mf, hmf⟩ : ∃ z, min fn 200 = z := ⟨_, rfl⟩
  have emf : (if (200 : Int) < (fn : Int) then (200 : Int) else (fn : Int)) = (mf : Int) := by split <;> omega
  have bmf : (0 : Int) ≤ (mf : Int) := by omega
  have dmf : (mf : Int) ≤ (fc : Int) := by omega
  obtain ⟨mh, hmh⟩ : ∃ z, min hn 500 = z := ⟨_, rfl⟩
  have emh : (if (500 : Int) < (hn : Int) then (500 : Int) else (hn : Int)) = (mh : Int) := by split <;> omega
  have bmh : (0 : Int) ≤ (mh : Int) := by omega
  have dmh : (mh : Int) ≤ (hc : Int) := by omega
  obtain ⟨mo, hmo⟩ : ∃ z, min on 20 = z := ⟨_, rfl⟩
  have emo : (if (20 : Int) < (on : Int) then (20 : Int) else (on : Int)) = (mo : Int) := by split <;> omega
  have bmo : (0 : Int) ≤ (mo : Int) := by omega
  have dmo : (mo : Int) ≤ (oc : Int) := by omega
  have HMN := Lib.hid (And.intro hms (And.intro hmf (And.intro hmh hmo)))
  clear hms hmf hmh hmo
  go_enter Tryz.func13, Tryz.ntmps13
  go_upto_region 1 with (fail)
  refine wp_nm fun W0 hW0 => ?_
  have k0 : W0.heap[w.heap.size]? = some (.cells #[.bool plus, .slice sA sn sc, .slice fA fn fc, .slice bA bn bc, .slice oA on oc, .slice hA hn hc, .slice gA gn gc] 44) := by rw [← hW0]; exact has_alloc (has_new w _) _
  have k1 : W0.heap[w.heap.size + 1]? = some (.cells #[.bool false, .slice none 0 0, .slice none 0 0, .slice none 0 0, .slice none 0 0, .slice none 0 0, .slice none 0 0] 44) := by rw [← hW0]; exact has_new' _ _ _ (by simp)
  have hb0 : Below w.heap.size w W0 := by rw [← hW0]; exact kp_alloc (kp_alloc (Below.refl _ _) _) _
  have hs0 : W0.heap.size = w.heap.size + 2 := by rw [← hW0]; simp
  have HS0 := Lib.hid hs0
  clear hW0 hs0
  obtain ⟨x0, x1, x2, x3, x4, x5, x6⟩ := cells_7 k0
  have KEEP : Hid (∀ W, Below W0.heap.size W0 W → (W.cell? ⟨w.heap.size, 0, none⟩ = some (.bool plus) ∧ W.cell? ⟨w.heap.size, 1, none⟩ = some (.slice sA sn sc) ∧ W.cell? ⟨w.heap.size, 2, none⟩ = some (.slice fA fn fc) ∧ W.cell? ⟨w.heap.size, 4, none⟩ = some (.slice oA on oc) ∧ W.cell? ⟨w.heap.size, 5, none⟩ = some (.slice hA hn hc)) ∧ Below W0.heap.size W0 W) :=
    fun W h => ⟨⟨kp_cell h x0, kp_cell h x1, kp_cell h x2, kp_cell h x4, kp_cell h x5⟩, h⟩
  have K0 := Lib.hid (And.intro k0 (And.intro k1 hb0))
  clear k0 k1 hb0
  refine wp_region_inv (by kernel_rfl) (by kernel_rfl) (IB W0.drew (w.heap.size + 2) #[.bool plus, .slice sA ms sc, .slice fA mf fc, .slice none 0 0, .slice oA mo oc, .slice hA mh hc, .slice none 0 0] (TB plus sA sn sc fA fn fc bA bn bc oA on oc hA hn hc gA gn gc ms mf mh mo w.heap.size)) ?_ ?_ ?_
  · exact ⟨by rfl, by rfl, fun h9 => by cases h9⟩
  · rintro L a W i ⟨rfl, HWW⟩ hC
    have hsz := hC.size
    have hlt := hC.lt
    simp only [List.size_toArray, List.length_cons, List.length_nil] at hsz hlt
    have hi : i < L.size := by omega
    have hnot := hC.not
    have HBW : Hid (Below W0.heap.size W0 W) := by rw [HWW.1]; exact kp_call (kp_drew (Below.refl _ _)) (by have h9 := wB_below (w0 := W0.drew) (y := w.heap.size + 2) (vs := #[.bool plus, .slice sA ms sc, .slice fA mf fc, .slice none 0 0, .slice oA mo oc, .slice hA mh hc, .slice none 0 0]) L (by show W0.heap.size ≤ _; rw [HS0.out]; exact Nat.le_refl _); exact h9)
    have HW := Lib.hid HWW
    clear HWW
    rcases (show i = 0 ∨ i = 1 ∨ i = 2 ∨ i = 3 ∨ i = 4 ∨ i = 5 ∨ i = 6 ∨ i = 7 ∨ i = 8 ∨ i = 9 ∨ i = 10 ∨ i = 11 ∨ i = 12 ∨ i = 13 ∨ i = 14 ∨ i = 15 ∨ i = 16 ∨ i = 17 ∨ i = 18 ∨ i = 19 ∨ i = 20 ∨ i = 21 ∨ i = 22 ∨ i = 23 ∨ i = 24 ∨ i = 25 ∨ i = 26 ∨ i = 27 ∨ i = 28 ∨ i = 29 ∨ i = 30 ∨ i = 31 ∨ i = 32 by omega) with rfl | rfl | rfl | rfl | rfl | rfl | rfl | rfl | rfl | rfl | rfl | rfl | rfl | rfl | rfl | rfl | rfl | rfl | rfl | rfl | rfl | rfl | rfl | rfl | rfl | rfl | rfl | rfl | rfl | rfl | rfl | rfl | rfl
    · -- 0
      refine wpOp_step rfl (fun K' hK => ?_)
      have HK := Lib.hid hK
      clear hK
      rw [if_pos (by rfl)]
      simp only [TB]
      go_wp2_with fail
      refine HK.out _ _ (IB.next HW.out hi (by decide) (by decide) ?_)
      simp +decide only [TB, Act.put, List.setIfInBounds_toArray, List.set_cons_zero, List.set_cons_succ, gd_same _ _ _ hi, gd_set _ _ _ _ hi]
    · -- 1
      have d0 := hC.dep (j := 0) (by kernel_rfl)
      have kk := ((KEEP.out W HBW.out).1)
      obtain ⟨k1, _, _, _, _⟩ := kk
      refine wpOp_step rfl (fun K' hK => ?_)
      have HK := Lib.hid hK
      clear hK
      rw [if_pos (by rfl)]
      simp only [TB, gd_yes _ d0]
      go_wp2_with fail
      refine HK.out _ _ (IB.next HW.out hi (by decide) (by decide) ?_)
      simp +decide only [TB, Act.put, List.setIfInBounds_toArray, List.set_cons_zero, List.set_cons_succ, gd_same _ _ _ hi, gd_set _ _ _ _ hi]
      try simp only [gd_yes _ d0]
    · -- 2
      refine wpOp_step rfl (fun K' hK => ?_)
      have HK := Lib.hid hK
      clear hK
      rw [if_pos (by rfl)]
      simp only [TB]
      go_wp2_with fail
      refine HK.out _ _ (IB.next HW.out hi (by decide) (by decide) ?_)
      simp +decide only [TB, Act.put, List.setIfInBounds_toArray, List.set_cons_zero, List.set_cons_succ, gd_same _ _ _ hi, gd_set _ _ _ _ hi]
    · -- 3
      have d2 := hC.dep (j := 2) (by kernel_rfl)
      have kk := ((KEEP.out W HBW.out).1)
      obtain ⟨_, k1, _, _, _⟩ := kk
      refine wpOp_step rfl (fun K' hK => ?_)
      have HK := Lib.hid hK
      clear hK
      rw [if_pos (by rfl)]
      simp only [TB, gd_yes _ d2]
      go_wp2_with fail
      refine HK.out _ _ (IB.next HW.out hi (by decide) (by decide) ?_)
      simp +decide only [TB, Act.put, List.setIfInBounds_toArray, List.set_cons_zero, List.set_cons_succ, gd_same _ _ _ hi, gd_set _ _ _ _ hi]
      try simp only [gd_yes _ d2]
    · -- 4
      refine wpOp_step rfl (fun K' hK => ?_)
      have HK := Lib.hid hK
      clear hK
      rw [if_pos (by rfl)]
      simp only [TB]
      go_wp2_with fail
      refine HK.out _ _ (IB.next HW.out hi (by decide) (by decide) ?_)
      simp +decide only [TB, Act.put, List.setIfInBounds_toArray, List.set_cons_zero, List.set_cons_succ, gd_same _ _ _ hi, gd_set _ _ _ _ hi]
    · -- 5
      have d4 := hC.dep (j := 4) (by kernel_rfl)
      have kk := ((KEEP.out W HBW.out).1)
      obtain ⟨_, k1, _, _, _⟩ := kk
      refine wpOp_step rfl (fun K' hK => ?_)
      have HK := Lib.hid hK
      clear hK
      rw [if_pos (by rfl)]
      simp only [TB, gd_yes _ d4]
      go_wp2_with fail
      refine HK.out _ _ (IB.next HW.out hi (by decide) (by decide) ?_)
      simp +decide only [TB, Act.put, List.setIfInBounds_toArray, List.set_cons_zero, List.set_cons_succ, gd_same _ _ _ hi, gd_set _ _ _ _ hi]
      try simp only [gd_yes _ d4]
    · -- 6
      have d5 := hC.dep (j := 5) (by kernel_rfl)
      refine wpOp_step rfl (fun K' hK => ?_)
      have HK := Lib.hid hK
      clear hK
      rw [if_pos (by rfl)]
      simp only [TB, gd_yes _ d5]
      go_wp2_with fail
      refine HK.out _ _ (IB.next HW.out hi (by decide) (by decide) ?_)
      simp +decide only [TB, Act.put, List.setIfInBounds_toArray, List.set_cons_zero, List.set_cons_succ, gd_same _ _ _ hi, gd_set _ _ _ _ hi]
      try simp only [gd_yes _ d5]
    · -- 7
      have d6 := hC.dep (j := 6) (by kernel_rfl)
      have e1 := ems
      refine wpOp_step rfl (fun K' hK => ?_)
      have HK := Lib.hid hK
      clear hK
      rw [if_pos (by rfl)]
      simp only [TB, gd_yes _ d6]
      go_wp2_with fail
      refine HK.out _ _ (IB.next HW.out hi (by decide) (by decide) ?_)
      simp +decide only [TB, Act.put, List.setIfInBounds_toArray, List.set_cons_zero, List.set_cons_succ, gd_same _ _ _ hi, gd_set _ _ _ _ hi]
      try simp only [gd_yes _ d6]
    · -- 8
      have d3 := hC.dep (j := 3) (by kernel_rfl)
      have d7 := hC.dep (j := 7) (by kernel_rfl)
      refine wpOp_step rfl (fun K' hK => ?_)
      have HK := Lib.hid hK
      clear hK
      rw [if_pos (by rfl)]
      simp only [TB, gd_yes _ d3, gd_yes _ d7]
      go_wp2_with fail
      refine HK.out _ _ (IB.next HW.out hi (by decide) (by decide) ?_)
      simp +decide only [TB, Act.put, List.setIfInBounds_toArray, List.set_cons_zero, List.set_cons_succ, gd_same _ _ _ hi, gd_set _ _ _ _ hi]
      try simp only [gd_yes _ d3, gd_yes _ d7]
    · -- 9
      refine wpOp_step rfl (fun K' hK => ?_)
      have HK := Lib.hid hK
      clear hK
      rw [if_pos (by rfl)]
      simp only [TB]
      go_wp2_with fail
      refine HK.out _ _ (IB.next HW.out hi (by decide) (by decide) ?_)
      simp +decide only [TB, Act.put, List.setIfInBounds_toArray, List.set_cons_zero, List.set_cons_succ, gd_same _ _ _ hi, gd_set _ _ _ _ hi]
    · -- 10
      have d9 := hC.dep (j := 9) (by kernel_rfl)
      have kk := ((KEEP.out W HBW.out).1)
      obtain ⟨_, _, k1, _, _⟩ := kk
      refine wpOp_step rfl (fun K' hK => ?_)
      have HK := Lib.hid hK
      clear hK
      rw [if_pos (by rfl)]
      simp only [TB, gd_yes _ d9]
      go_wp2_with fail
      refine HK.out _ _ (IB.next HW.out hi (by decide) (by decide) ?_)
      simp +decide only [TB, Act.put, List.setIfInBounds_toArray, List.set_cons_zero, List.set_cons_succ, gd_same _ _ _ hi, gd_set _ _ _ _ hi]
      try simp only [gd_yes _ d9]
    · -- 11
      refine wpOp_step rfl (fun K' hK => ?_)
      have HK := Lib.hid hK
      clear hK
      rw [if_pos (by rfl)]
      simp only [TB]
      go_wp2_with fail
      refine HK.out _ _ (IB.next HW.out hi (by decide) (by decide) ?_)
      simp +decide only [TB, Act.put, List.setIfInBounds_toArray, List.set_cons_zero, List.set_cons_succ, gd_same _ _ _ hi, gd_set _ _ _ _ hi]
    · -- 12
      have d11 := hC.dep (j := 11) (by kernel_rfl)
      have kk := ((KEEP.out W HBW.out).1)
      obtain ⟨_, _, k1, _, _⟩ := kk
      refine wpOp_step rfl (fun K' hK => ?_)
      have HK := Lib.hid hK
      clear hK
      rw [if_pos (by rfl)]
      simp only [TB, gd_yes _ d11]
      go_wp2_with fail
      refine HK.out _ _ (IB.next HW.out hi (by decide) (by decide) ?_)
      simp +decide only [TB, Act.put, List.setIfInBounds_toArray, List.set_cons_zero, List.set_cons_succ, gd_same _ _ _ hi, gd_set _ _ _ _ hi]
      try simp only [gd_yes _ d11]
    · -- 13
      have d12 := hC.dep (j := 12) (by kernel_rfl)
      refine wpOp_step rfl (fun K' hK => ?_)
      have HK := Lib.hid hK
      clear hK
      rw [if_pos (by rfl)]
      simp only [TB, gd_yes _ d12]
      go_wp2_with fail
      refine HK.out _ _ (IB.next HW.out hi (by decide) (by decide) ?_)
      simp +decide only [TB, Act.put, List.setIfInBounds_toArray, List.set_cons_zero, List.set_cons_succ, gd_same _ _ _ hi, gd_set _ _ _ _ hi]
      try simp only [gd_yes _ d12]
    · -- 14
      have d13 := hC.dep (j := 13) (by kernel_rfl)
      have e1 := emf
      refine wpOp_step rfl (fun K' hK => ?_)
      have HK := Lib.hid hK
      clear hK
      rw [if_pos (by rfl)]
      simp only [TB, gd_yes _ d13]
      go_wp2_with fail
      refine HK.out _ _ (IB.next HW.out hi (by decide) (by decide) ?_)
      simp +decide only [TB, Act.put, List.setIfInBounds_toArray, List.set_cons_zero, List.set_cons_succ, gd_same _ _ _ hi, gd_set _ _ _ _ hi]
      try simp only [gd_yes _ d13]
    · -- 15
      have d10 := hC.dep (j := 10) (by kernel_rfl)
      have d14 := hC.dep (j := 14) (by kernel_rfl)
      refine wpOp_step rfl (fun K' hK => ?_)
      have HK := Lib.hid hK
      clear hK
      rw [if_pos (by rfl)]
      simp only [TB, gd_yes _ d10, gd_yes _ d14]
      go_wp2_with fail
      refine HK.out _ _ (IB.next HW.out hi (by decide) (by decide) ?_)
      simp +decide only [TB, Act.put, List.setIfInBounds_toArray, List.set_cons_zero, List.set_cons_succ, gd_same _ _ _ hi, gd_set _ _ _ _ hi]
      try simp only [gd_yes _ d10, gd_yes _ d14]
    · -- 16
      refine wpOp_step rfl (fun K' hK => ?_)
      have HK := Lib.hid hK
      clear hK
      rw [if_pos (by rfl)]
      simp only [TB]
      go_wp2_with fail
      refine HK.out _ _ (IB.next HW.out hi (by decide) (by decide) ?_)
      simp +decide only [TB, Act.put, List.setIfInBounds_toArray, List.set_cons_zero, List.set_cons_succ, gd_same _ _ _ hi, gd_set _ _ _ _ hi]
    · -- 17
      have d16 := hC.dep (j := 16) (by kernel_rfl)
      have kk := ((KEEP.out W HBW.out).1)
      obtain ⟨_, _, _, _, k1⟩ := kk
      refine wpOp_step rfl (fun K' hK => ?_)
      have HK := Lib.hid hK
      clear hK
      rw [if_pos (by rfl)]
      simp only [TB, gd_yes _ d16]
      go_wp2_with fail
      refine HK.out _ _ (IB.next HW.out hi (by decide) (by decide) ?_)
      simp +decide only [TB, Act.put, List.setIfInBounds_toArray, List.set_cons_zero, List.set_cons_succ, gd_same _ _ _ hi, gd_set _ _ _ _ hi]
      try simp only [gd_yes _ d16]
    · -- 18
      refine wpOp_step rfl (fun K' hK => ?_)
      have HK := Lib.hid hK
      clear hK
      rw [if_pos (by rfl)]
      simp only [TB]
      go_wp2_with fail
      refine HK.out _ _ (IB.next HW.out hi (by decide) (by decide) ?_)
      simp +decide only [TB, Act.put, List.setIfInBounds_toArray, List.set_cons_zero, List.set_cons_succ, gd_same _ _ _ hi, gd_set _ _ _ _ hi]
    · -- 19
      have d18 := hC.dep (j := 18) (by kernel_rfl)
      have kk := ((KEEP.out W HBW.out).1)
      obtain ⟨_, _, _, _, k1⟩ := kk
      refine wpOp_step rfl (fun K' hK => ?_)
      have HK := Lib.hid hK
      clear hK
      rw [if_pos (by rfl)]
      simp only [TB, gd_yes _ d18]
      go_wp2_with fail
      refine HK.out _ _ (IB.next HW.out hi (by decide) (by decide) ?_)
      simp +decide only [TB, Act.put, List.setIfInBounds_toArray, List.set_cons_zero, List.set_cons_succ, gd_same _ _ _ hi, gd_set _ _ _ _ hi]
      try simp only [gd_yes _ d18]
    · -- 20
      have d19 := hC.dep (j := 19) (by kernel_rfl)
      refine wpOp_step rfl (fun K' hK => ?_)
      have HK := Lib.hid hK
      clear hK
      rw [if_pos (by rfl)]
      simp only [TB, gd_yes _ d19]
      go_wp2_with fail
      refine HK.out _ _ (IB.next HW.out hi (by decide) (by decide) ?_)
      simp +decide only [TB, Act.put, List.setIfInBounds_toArray, List.set_cons_zero, List.set_cons_succ, gd_same _ _ _ hi, gd_set _ _ _ _ hi]
      try simp only [gd_yes _ d19]
    · -- 21
      have d20 := hC.dep (j := 20) (by kernel_rfl)
      have e1 := emh
      refine wpOp_step rfl (fun K' hK => ?_)
      have HK := Lib.hid hK
      clear hK
      rw [if_pos (by rfl)]
      simp only [TB, gd_yes _ d20]
      go_wp2_with fail
      refine HK.out _ _ (IB.next HW.out hi (by decide) (by decide) ?_)
      simp +decide only [TB, Act.put, List.setIfInBounds_toArray, List.set_cons_zero, List.set_cons_succ, gd_same _ _ _ hi, gd_set _ _ _ _ hi]
      try simp only [gd_yes _ d20]
    · -- 22
      have d17 := hC.dep (j := 17) (by kernel_rfl)
      have d21 := hC.dep (j := 21) (by kernel_rfl)
      refine wpOp_step rfl (fun K' hK => ?_)
      have HK := Lib.hid hK
      clear hK
      rw [if_pos (by rfl)]
      simp only [TB, gd_yes _ d17, gd_yes _ d21]
      go_wp2_with fail
      refine HK.out _ _ (IB.next HW.out hi (by decide) (by decide) ?_)
      simp +decide only [TB, Act.put, List.setIfInBounds_toArray, List.set_cons_zero, List.set_cons_succ, gd_same _ _ _ hi, gd_set _ _ _ _ hi]
      try simp only [gd_yes _ d17, gd_yes _ d21]
    · -- 23
      refine wpOp_step rfl (fun K' hK => ?_)
      have HK := Lib.hid hK
      clear hK
      rw [if_pos (by rfl)]
      simp only [TB]
      go_wp2_with fail
      refine HK.out _ _ (IB.next HW.out hi (by decide) (by decide) ?_)
      simp +decide only [TB, Act.put, List.setIfInBounds_toArray, List.set_cons_zero, List.set_cons_succ, gd_same _ _ _ hi, gd_set _ _ _ _ hi]
    · -- 24
      have d23 := hC.dep (j := 23) (by kernel_rfl)
      have kk := ((KEEP.out W HBW.out).1)
      obtain ⟨_, _, _, k1, _⟩ := kk
      refine wpOp_step rfl (fun K' hK => ?_)
      have HK := Lib.hid hK
      clear hK
      rw [if_pos (by rfl)]
      simp only [TB, gd_yes _ d23]
      go_wp2_with fail
      refine HK.out _ _ (IB.next HW.out hi (by decide) (by decide) ?_)
      simp +decide only [TB, Act.put, List.setIfInBounds_toArray, List.set_cons_zero, List.set_cons_succ, gd_same _ _ _ hi, gd_set _ _ _ _ hi]
      try simp only [gd_yes _ d23]
    · -- 25
      refine wpOp_step rfl (fun K' hK => ?_)
      have HK := Lib.hid hK
      clear hK
      rw [if_pos (by rfl)]
      simp only [TB]
      go_wp2_with fail
      refine HK.out _ _ (IB.next HW.out hi (by decide) (by decide) ?_)
      simp +decide only [TB, Act.put, List.setIfInBounds_toArray, List.set_cons_zero, List.set_cons_succ, gd_same _ _ _ hi, gd_set _ _ _ _ hi]
    · -- 26
      have d25 := hC.dep (j := 25) (by kernel_rfl)
      have kk := ((KEEP.out W HBW.out).1)
      obtain ⟨_, _, _, k1, _⟩ := kk
      refine wpOp_step rfl (fun K' hK => ?_)
      have HK := Lib.hid hK
      clear hK
      rw [if_pos (by rfl)]
      simp only [TB, gd_yes _ d25]
      go_wp2_with fail
      refine HK.out _ _ (IB.next HW.out hi (by decide) (by decide) ?_)
      simp +decide only [TB, Act.put, List.setIfInBounds_toArray, List.set_cons_zero, List.set_cons_succ, gd_same _ _ _ hi, gd_set _ _ _ _ hi]
      try simp only [gd_yes _ d25]
    · -- 27
      have d26 := hC.dep (j := 26) (by kernel_rfl)
      refine wpOp_step rfl (fun K' hK => ?_)
      have HK := Lib.hid hK
      clear hK
      rw [if_pos (by rfl)]
      simp only [TB, gd_yes _ d26]
      go_wp2_with fail
      refine HK.out _ _ (IB.next HW.out hi (by decide) (by decide) ?_)
      simp +decide only [TB, Act.put, List.setIfInBounds_toArray, List.set_cons_zero, List.set_cons_succ, gd_same _ _ _ hi, gd_set _ _ _ _ hi]
      try simp only [gd_yes _ d26]
    · -- 28
      have d27 := hC.dep (j := 27) (by kernel_rfl)
      have e1 := emo
      refine wpOp_step rfl (fun K' hK => ?_)
      have HK := Lib.hid hK
      clear hK
      rw [if_pos (by rfl)]
      simp only [TB, gd_yes _ d27]
      go_wp2_with fail
      refine HK.out _ _ (IB.next HW.out hi (by decide) (by decide) ?_)
      simp +decide only [TB, Act.put, List.setIfInBounds_toArray, List.set_cons_zero, List.set_cons_succ, gd_same _ _ _ hi, gd_set _ _ _ _ hi]
      try simp only [gd_yes _ d27]
    · -- 29
      have d24 := hC.dep (j := 24) (by kernel_rfl)
      have d28 := hC.dep (j := 28) (by kernel_rfl)
      refine wpOp_step rfl (fun K' hK => ?_)
      have HK := Lib.hid hK
      clear hK
      rw [if_pos (by rfl)]
      simp only [TB, gd_yes _ d24, gd_yes _ d28]
      go_wp2_with fail
      refine HK.out _ _ (IB.next HW.out hi (by decide) (by decide) ?_)
      simp +decide only [TB, Act.put, List.setIfInBounds_toArray, List.set_cons_zero, List.set_cons_succ, gd_same _ _ _ hi, gd_set _ _ _ _ hi]
      try simp only [gd_yes _ d24, gd_yes _ d28]
    · -- 30
      have d1 := hC.dep (j := 1) (by kernel_rfl)
      have d8 := hC.dep (j := 8) (by kernel_rfl)
      have d15 := hC.dep (j := 15) (by kernel_rfl)
      have d22 := hC.dep (j := 22) (by kernel_rfl)
      have d29 := hC.dep (j := 29) (by kernel_rfl)
      refine wpOp_step rfl (fun K' hK => ?_)
      have HK := Lib.hid hK
      clear hK
      rw [if_pos (by rfl)]
      simp only [TB, gd_yes _ d1, gd_yes _ d8, gd_yes _ d15, gd_yes _ d22, gd_yes _ d29]
      go_wp2_with fail
      refine HK.out _ _ (IB.next HW.out hi (by decide) (by decide) ?_)
      simp +decide only [TB, Act.put, List.setIfInBounds_toArray, List.set_cons_zero, List.set_cons_succ, gd_same _ _ _ hi, gd_set _ _ _ _ hi]
      try simp only [gd_yes _ d1, gd_yes _ d8, gd_yes _ d15, gd_yes _ d22, gd_yes _ d29]
    · -- 31
      refine wpOp_step rfl (fun K' hK => ?_)
      have HK := Lib.hid hK
      clear hK
      rw [if_pos (by rfl)]
      simp only [TB]
      have hst : W = W0.drew := by rw [HW.out.1]; unfold wB; rw [if_neg (by rw [hnot]; decide)]
      have h32 : L.getD 32 false = false := by cases h9 : L.getD 32 false with | true => (have := HW.out.2 h9; rw [hnot] at this; cases this) | false => rfl
      subst hst
      go_wp2_with fail
      refine HK.out _ _ ⟨?_, ?_, ?_⟩
      · rw [HS0.out]
        simp +decide only [TB, Act.put, List.setIfInBounds_toArray, List.set_cons_zero, List.set_cons_succ, gd_same _ _ _ hi, gd_set _ _ _ _ hi]
      · unfold wB; rw [lset L _ _ hi, lset L _ _ hi, h32]; simp [zB]; rfl
      · rw [lset L _ _ hi, lset L _ _ hi]; simp
    · -- 32
      have d30 := hC.dep (j := 30) (by kernel_rfl)
      have d31 := hC.dep (j := 31) (by kernel_rfl)
      refine wpOp_step rfl (fun K' hK => ?_)
      have HK := Lib.hid hK
      clear hK
      rw [if_pos (by rfl)]
      simp only [TB, gd_yes _ d30, gd_yes _ d31]
      have hst : W = W0.drew.alloc zB := by rw [HW.out.1]; unfold wB; rw [if_pos d31, if_neg (by rw [hnot]; decide)]
      have hhe : (W0.drew.alloc zB).heap[w.heap.size + 2]? = some zB := by have := has_new W0.drew zB; rw [show W0.drew.heap.size = W0.heap.size from rfl, HS0.out] at this; exact this
      subst hst
      refine wp_store_mid _ _ _ rfl (w.heap.size + 2) 0 #[.bool plus, .slice sA ms sc, .slice fA mf fc, .slice none 0 0, .slice oA mo oc, .slice hA mh hc, .slice none 0 0] rfl rfl ?_ (by kernel_rfl) (by simp [Value.oneCell']) ?_
      · intro j hj
        refine ⟨?_, Lib.frozen_of_heap hhe (0 + j)⟩
        rw [show ((W0.drew.alloc zB).cell? ⟨w.heap.size + 2, 0 + j, none⟩) = _ from Lib.cell_of_heap hhe (0 + j)]
        simp at hj ⊢; omega
      show K' ⟨_, _⟩ _
      refine HK.out _ _ ⟨?_, ?_, ?_⟩
      · simp +decide only [TB, gd_set _ _ _ _ hi]
        simp only [gd_yes _ d30, gd_yes _ d31]
      · unfold wB; rw [lset L _ _ hi, lset L _ _ hi, d31]; simp
      · intro _; rw [lset L _ _ hi, d31]; simp
  · rintro L a W ⟨rfl, hW, _⟩ hsz hall
    rw [show wB W0.drew (w.heap.size + 2) #[.bool plus, .slice sA ms sc, .slice fA mf fc, .slice none 0 0, .slice oA mo oc, .slice hA mh hc, .slice none 0 0] L = (W0.drew.alloc zB).setCells (w.heap.size + 2) 0 _ from by unfold wB; rw [if_pos (hall 31 (by decide)), if_pos (hall 32 (by decide))]] at hW
    have d0 := hall 0 (by decide)
    have d1 := hall 1 (by decide)
    have d2 := hall 2 (by decide)
    have d3 := hall 3 (by decide)
    have d4 := hall 4 (by decide)
    have d5 := hall 5 (by decide)
    have d6 := hall 6 (by decide)
    have d7 := hall 7 (by decide)
    have d8 := hall 8 (by decide)
    have d9 := hall 9 (by decide)
    have d10 := hall 10 (by decide)
    have d11 := hall 11 (by decide)
    have d12 := hall 12 (by decide)
    have d13 := hall 13 (by decide)
    have d14 := hall 14 (by decide)
    have d15 := hall 15 (by decide)
    have d16 := hall 16 (by decide)
    have d17 := hall 17 (by decide)
    have d18 := hall 18 (by decide)
    have d19 := hall 19 (by decide)
    have d20 := hall 20 (by decide)
    have d21 := hall 21 (by decide)
    have d22 := hall 22 (by decide)
    have d23 := hall 23 (by decide)
    have d24 := hall 24 (by decide)
    have d25 := hall 25 (by decide)
    have d26 := hall 26 (by decide)
    have d27 := hall 27 (by decide)
    have d28 := hall 28 (by decide)
    have d29 := hall 29 (by decide)
    have d30 := hall 30 (by decide)
    have d31 := hall 31 (by decide)
    simp only [TB, gd_yes _ d0, gd_yes _ d1, gd_yes _ d2, gd_yes _ d3, gd_yes _ d4, gd_yes _ d5, gd_yes _ d6, gd_yes _ d7, gd_yes _ d8, gd_yes _ d9, gd_yes _ d10, gd_yes _ d11, gd_yes _ d12, gd_yes _ d13, gd_yes _ d14, gd_yes _ d15, gd_yes _ d16, gd_yes _ d17, gd_yes _ d18, gd_yes _ d19, gd_yes _ d20, gd_yes _ d21, gd_yes _ d22, gd_yes _ d23, gd_yes _ d24, gd_yes _ d25, gd_yes _ d26, gd_yes _ d27, gd_yes _ d28, gd_yes _ d29, gd_yes _ d30, gd_yes _ d31]
    clear d0 d1 d2 d3 d4 d5 d6 d7 d8 d9 d10 d11 d12 d13 d14 d15 d16 d17 d18 d19 d20 d21 d22 d23 d24 d25 d26 d27 d28 d29 d30 d31 hall hsz
    have hhe : (W0.drew.alloc zB).heap[w.heap.size + 2]? = some zB := by have := has_new W0.drew zB; rw [show W0.drew.heap.size = W0.heap.size from rfl, HS0.out] at this; exact this
    have y0 : W.heap[w.heap.size + 2]? = some (.cells #[.bool plus, .slice sA ms sc, .slice fA mf fc, .slice none 0 0, .slice oA mo oc, .slice hA mh hc, .slice none 0 0] 44) := by rw [hW]; exact has_setc7 hhe _ _ _ _ _ _ _
    have hb1 : Below W0.heap.size W0 W := by rw [hW]; exact below_setc (kp_alloc (kp_drew (Below.refl _ _)) _) (by rw [HS0.out]; exact Nat.le_refl _)
    have z0 : W.heap[w.heap.size]? = some (.cells #[.bool plus, .slice sA sn sc, .slice fA fn fc, .slice bA bn bc, .slice oA on oc, .slice hA hn hc, .slice gA gn gc] 44) := has_below K0.out.1 hb1
    have z1 : W.heap[w.heap.size + 1]? = some (.cells #[.bool false, .slice none 0 0, .slice none 0 0, .slice none 0 0, .slice none 0 0, .slice none 0 0, .slice none 0 0] 44) := has_below K0.out.2.1 hb1
    have zb : Below w.heap.size w W := kp_call K0.out.2.2 hb1
    have H1 := Lib.hid (And.intro y0 (And.intro z0 (And.intro z1 zb)))
    clear hW y0 hb1 z0 z1 zb hhe KEEP K0 HS0 x0 x1 x2 x3 x4 x5 x6
    go_upto_block 0 with (fail)
    go_cut [4] (fun s wx => LPost1 w #[.bool plus, .slice sA sn sc, .slice fA fn fc, .slice bA bn bc, .slice oA on oc, .slice hA hn hc, .slice gA gn gc] #[.bool false, .slice none 0 0, .slice none 0 0, .slice none 0 0, .slice none 0 0, .slice none 0 0, .slice none 0 0] (fun V m c => #[.bool plus, .slice sA ms sc, .slice fA mf fc, .slice V m c, .slice oA mo oc, .slice hA mh hc, .slice none 0 0]) bn bod wx)
    case first => as_aux_lemma =>
      go_wp2_with (fail)
      go_loopw [4] (fun vi wl => ∃ (i m c : Nat) (V : Option Addr), vi = .int .i64 (i : Int) ∧ i ≤ bn ∧ i ≤ 10 ∧ Hid (m = i) ∧ Hid (wl.heap[w.heap.size + 2]? = some (.cells #[.bool plus, .slice sA ms sc, .slice fA mf fc, .slice V m c, .slice oA mo oc, .slice hA mh hc, .slice none 0 0] 44)) ∧ Hid (wl.heap[w.heap.size]? = some (.cells #[.bool plus, .slice sA sn sc, .slice fA fn fc, .slice bA bn bc, .slice oA on oc, .slice hA hn hc, .slice gA gn gc] 44)) ∧ Hid (wl.heap[w.heap.size + 1]? = some (.cells #[.bool false, .slice none 0 0, .slice none 0 0, .slice none 0 0, .slice none 0 0, .slice none 0 0, .slice none 0 0] 44)) ∧ Hid (Below w.heap.size w wl) ∧
        Hid (OwnR wl (w.heap.size + 3) 22 1 V m c (((bod.take i).map (cut1 300)).map Own1.val))) (fun vi _ => 10 - (intOf vi).toNat)
      case atStart => exact ⟨0, 0, 0, none, rfl, Nat.zero_le _, Nat.zero_le _, rfl, H1.out.1, H1.out.2.1, H1.out.2.2.1, H1.out.2.2.2, OwnR.nil _ _ _ _⟩
      case round =>
        obtain ⟨i, m, c, V, rfl, hi, hi10, HM, HY, HX, HZ, HB, HO⟩ := hrel
        obtain ⟨x0, x1, x2, x3, x4, x5, x6⟩ := cells_7 HX.out
        by_cases hlt : i < bn
        · have t1 : decide ((i : Int) < (bn : Int)) = true := by simp; omega
          by_cases hlt10 : i < 10
          · have t2 : decide ((i : Int) < 10) = true := by simp; omega
            obtain ⟨⟨A2, n2, c2, b2⟩, hy⟩ : ∃ y, bod[i]? = some y := ⟨_, List.getElem?_eq_getElem (by have := HR.out.b.l; simp only at this; omega)⟩
            obtain ⟨bk, bo, hoA, hbw, ck⟩ := HR.out.b.at_ hy
            have CK := Lib.hid ck
            obtain ⟨hnc, hcm⟩ := HBC.out _ (List.mem_of_getElem? hy)
            simp only at hoA hnc hcm
            subst hoA
            obtain ⟨mi, hmi⟩ : ∃ z, min n2 300 = z := ⟨_, rfl⟩
            have emi : (if (300 : Int) < (n2 : Int) then (300 : Int) else (n2 : Int)) = (mi : Int) := by split <;> omega
            have bmi : (0 : Int) ≤ (mi : Int) := by omega
            have dmi : (mi : Int) ≤ (c2 : Int) := by omega
            have VV : Hid (((((bod.take (i + 1)).map (cut1 300)).map Own1.val)) = (((bod.take i).map (cut1 300)).map Own1.val) ++ [Value.slice A2 mi c2]) := by
              rw [← hmi]; refine Lib.hid ?_; rw [List.take_add_one, hy]; simp [cut1, Own1.val]
            have JJ : Hid (J5 w #[.bool plus, .slice sA sn sc, .slice fA fn fc, .slice (some ⟨bk, bo, none⟩) bn bc, .slice oA on oc, .slice hA hn hc, .slice gA gn gc] #[.bool false, .slice none 0 0, .slice none 0 0, .slice none 0 0, .slice none 0 0, .slice none 0 0, .slice none 0 0] (fun V m c => #[.bool plus, .slice sA ms sc, .slice fA mf fc, .slice V m c, .slice oA mo oc, .slice hA mh hc, .slice none 0 0]) V m c (((bod.take i).map (cut1 300)).map Own1.val) (.slice A2 mi c2) 0 0 0 (Array.replicate 19 false) wr.drew) :=
              ⟨kp_drew HB.out, has_drew HX.out, has_drew HZ.out, fun _ => has_drew HY.out, (fun h9 => by cases h9), fun _ => HO.out.drew, (fun h9 => by cases h9), (fun h9 => by cases h9), (fun h9 => by cases h9), (fun h9 => by cases h9), (fun h9 => by cases h9), block_lt HY.out⟩
            have HMI := Lib.hid hmi
            clear hmi ck hy hbw
            go_upto_region 5 with (fail)
            clear x0 x1 x2 x3 x4 x5 x6 HY HX HZ HB HO
            refine wp_region_inv (by kernel_rfl) (by kernel_rfl) (fun L a W => ∃ B g5 c5, a = ⟨T5 plus sA sn sc fA fn fc (some ⟨bk, bo, none⟩) bn bc oA on oc hA hn hc gA gn gc ms mf mh mo w.heap.size i bk bo V m c A2 n2 c2 mi u47 u48 u49 u50 u51 u52 u53 u54 u55 u56 u57 u58 u59 u60 u61 u62 u63 u64 u65 u66 B g5 c5 L, []⟩ ∧ Hid (J5 w #[.bool plus, .slice sA sn sc, .slice fA fn fc, .slice (some ⟨bk, bo, none⟩) bn bc, .slice oA on oc, .slice hA hn hc, .slice gA gn gc] #[.bool false, .slice none 0 0, .slice none 0 0, .slice none 0 0, .slice none 0 0, .slice none 0 0, .slice none 0 0] (fun V m c => #[.bool plus, .slice sA ms sc, .slice fA mf fc, .slice V m c, .slice oA mo oc, .slice hA mh hc, .slice none 0 0]) V m c (((bod.take i).map (cut1 300)).map Own1.val) (.slice A2 mi c2) B g5 c5 L W)) ?_ ?_ ?_
            · exact ⟨0, 0, 0, by rfl, JJ.out⟩
            · rintro L a W k ⟨B, g5, c5, rfl, HJ⟩ hC
              have hsz := hC.size
              have hlt := hC.lt
              simp only [List.size_toArray, List.length_cons, List.length_nil] at hsz hlt
              have hi : k < L.size := by omega
              have hnot := hC.not
              rcases (show k = 0 ∨ k = 1 ∨ k = 2 ∨ k = 3 ∨ k = 4 ∨ k = 5 ∨ k = 6 ∨ k = 7 ∨ k = 8 ∨ k = 9 ∨ k = 10 ∨ k = 11 ∨ k = 12 ∨ k = 13 ∨ k = 14 ∨ k = 15 ∨ k = 16 ∨ k = 17 ∨ k = 18 by omega) with rfl | rfl | rfl | rfl | rfl | rfl | rfl | rfl | rfl | rfl | rfl | rfl | rfl | rfl | rfl | rfl | rfl | rfl | rfl
              · -- 0
                refine wpOp_step rfl (fun K' hK => ?_)
                have HK := Lib.hid hK
                clear hK
                rw [if_pos (by rfl)]
                simp only [T5]
                go_wp2_with fail
                refine HK.out _ _ ⟨B, g5, c5, ?_, HJ.out.next hi (by decide) (by decide) (by decide)⟩
                simp +decide only [T5, Act.put, List.setIfInBounds_toArray, List.set_cons_zero, List.set_cons_succ, gx_same _ _ _ _ hi, gx_set _ _ _ _ _ hi]
              · -- 1
                have d0 := hC.dep (j := 0) (by kernel_rfl)
                have h18 : L.getD 18 false = false := by cases h9 : L.getD 18 false with | true => (have := HJ.out.q (HJ.out.e h9); rw [hnot] at this; cases this) | false => rfl
                obtain ⟨_, _, _, k1, _, _, _⟩ := cells_7 (HJ.out.y0 h18)
                refine wpOp_step rfl (fun K' hK => ?_)
                have HK := Lib.hid hK
                clear hK
                rw [if_pos (by rfl)]
                simp only [T5, gx_yes _ _ d0]
                go_wp2_with fail
                refine HK.out _ _ ⟨B, g5, c5, ?_, HJ.out.next hi (by decide) (by decide) (by decide)⟩
                simp +decide only [T5, Act.put, List.setIfInBounds_toArray, List.set_cons_zero, List.set_cons_succ, gx_same _ _ _ _ hi, gx_set _ _ _ _ _ hi]
                try simp only [gx_yes _ _ d0]
              · -- 2
                refine wpOp_step rfl (fun K' hK => ?_)
                have HK := Lib.hid hK
                clear hK
                rw [if_pos (by rfl)]
                simp only [T5]
                go_wp2_with fail
                refine HK.out _ _ ⟨B, g5, c5, ?_, HJ.out.next hi (by decide) (by decide) (by decide)⟩
                simp +decide only [T5, Act.put, List.setIfInBounds_toArray, List.set_cons_zero, List.set_cons_succ, gx_same _ _ _ _ hi, gx_set _ _ _ _ _ hi]
              · -- 3
                have d2 := hC.dep (j := 2) (by kernel_rfl)
                obtain ⟨_, _, _, k1, _, _, _⟩ := cells_7 HJ.out.x
                refine wpOp_step rfl (fun K' hK => ?_)
                have HK := Lib.hid hK
                clear hK
                rw [if_pos (by rfl)]
                simp only [T5, gx_yes _ _ d2]
                go_wp2_with fail
                refine HK.out _ _ ⟨B, g5, c5, ?_, HJ.out.next hi (by decide) (by decide) (by decide)⟩
                simp +decide only [T5, Act.put, List.setIfInBounds_toArray, List.set_cons_zero, List.set_cons_succ, gx_same _ _ _ _ hi, gx_set _ _ _ _ _ hi]
                try simp only [gx_yes _ _ d2]
              · -- 4
                refine wpOp_step rfl (fun K' hK => ?_)
                have HK := Lib.hid hK
                clear hK
                rw [if_pos (by rfl)]
                simp only [T5]
                go_wp2_with fail
                refine HK.out _ _ ⟨B, g5, c5, ?_, HJ.out.next hi (by decide) (by decide) (by decide)⟩
                simp +decide only [T5, Act.put, List.setIfInBounds_toArray, List.set_cons_zero, List.set_cons_succ, gx_same _ _ _ _ hi, gx_set _ _ _ _ _ hi]
              · -- 5
                have d3 := hC.dep (j := 3) (by kernel_rfl)
                have d4 := hC.dep (j := 4) (by kernel_rfl)
                have e1 : (i : Int) < (bn : Int) := by omega
                refine wpOp_step rfl (fun K' hK => ?_)
                have HK := Lib.hid hK
                clear hK
                rw [if_pos (by rfl)]
                simp only [T5, gx_yes _ _ d3, gx_yes _ _ d4]
                go_wp2_with fail
                refine HK.out _ _ ⟨B, g5, c5, ?_, HJ.out.next hi (by decide) (by decide) (by decide)⟩
                simp +decide only [T5, Act.put, List.setIfInBounds_toArray, List.set_cons_zero, List.set_cons_succ, gx_same _ _ _ _ hi, gx_set _ _ _ _ _ hi]
                try simp only [gx_yes _ _ d3, gx_yes _ _ d4]
              · -- 6
                have d5 := hC.dep (j := 5) (by kernel_rfl)
                have k1 : W.cell? ⟨bk, bo + i, none⟩ = some (.slice A2 n2 c2) := kp_cell HJ.out.b CK.out
                refine wpOp_step rfl (fun K' hK => ?_)
                have HK := Lib.hid hK
                clear hK
                rw [if_pos (by rfl)]
                simp only [T5, gx_yes _ _ d5]
                go_wp2_with fail
                refine HK.out _ _ ⟨B, g5, c5, ?_, HJ.out.next hi (by decide) (by decide) (by decide)⟩
                simp +decide only [T5, Act.put, List.setIfInBounds_toArray, List.set_cons_zero, List.set_cons_succ, gx_same _ _ _ _ hi, gx_set _ _ _ _ _ hi]
                try simp only [gx_yes _ _ d5]
              · -- 7
                refine wpOp_step rfl (fun K' hK => ?_)
                have HK := Lib.hid hK
                clear hK
                rw [if_pos (by rfl)]
                simp only [T5]
                go_wp2_with fail
                refine HK.out _ _ ⟨B, g5, c5, ?_, HJ.out.next hi (by decide) (by decide) (by decide)⟩
                simp +decide only [T5, Act.put, List.setIfInBounds_toArray, List.set_cons_zero, List.set_cons_succ, gx_same _ _ _ _ hi, gx_set _ _ _ _ _ hi]
              · -- 8
                have d7 := hC.dep (j := 7) (by kernel_rfl)
                obtain ⟨_, _, _, k1, _, _, _⟩ := cells_7 HJ.out.x
                refine wpOp_step rfl (fun K' hK => ?_)
                have HK := Lib.hid hK
                clear hK
                rw [if_pos (by rfl)]
                simp only [T5, gx_yes _ _ d7]
                go_wp2_with fail
                refine HK.out _ _ ⟨B, g5, c5, ?_, HJ.out.next hi (by decide) (by decide) (by decide)⟩
                simp +decide only [T5, Act.put, List.setIfInBounds_toArray, List.set_cons_zero, List.set_cons_succ, gx_same _ _ _ _ hi, gx_set _ _ _ _ _ hi]
                try simp only [gx_yes _ _ d7]
              · -- 9
                refine wpOp_step rfl (fun K' hK => ?_)
                have HK := Lib.hid hK
                clear hK
                rw [if_pos (by rfl)]
                simp only [T5]
                go_wp2_with fail
                refine HK.out _ _ ⟨B, g5, c5, ?_, HJ.out.next hi (by decide) (by decide) (by decide)⟩
                simp +decide only [T5, Act.put, List.setIfInBounds_toArray, List.set_cons_zero, List.set_cons_succ, gx_same _ _ _ _ hi, gx_set _ _ _ _ _ hi]
              · -- 10
                have d8 := hC.dep (j := 8) (by kernel_rfl)
                have d9 := hC.dep (j := 9) (by kernel_rfl)
                have e1 : (i : Int) < (bn : Int) := by omega
                refine wpOp_step rfl (fun K' hK => ?_)
                have HK := Lib.hid hK
                clear hK
                rw [if_pos (by rfl)]
                simp only [T5, gx_yes _ _ d8, gx_yes _ _ d9]
                go_wp2_with fail
                refine HK.out _ _ ⟨B, g5, c5, ?_, HJ.out.next hi (by decide) (by decide) (by decide)⟩
                simp +decide only [T5, Act.put, List.setIfInBounds_toArray, List.set_cons_zero, List.set_cons_succ, gx_same _ _ _ _ hi, gx_set _ _ _ _ _ hi]
                try simp only [gx_yes _ _ d8, gx_yes _ _ d9]
              · -- 11
                have d10 := hC.dep (j := 10) (by kernel_rfl)
                have k1 : W.cell? ⟨bk, bo + i, none⟩ = some (.slice A2 n2 c2) := kp_cell HJ.out.b CK.out
                refine wpOp_step rfl (fun K' hK => ?_)
                have HK := Lib.hid hK
                clear hK
                rw [if_pos (by rfl)]
                simp only [T5, gx_yes _ _ d10]
                go_wp2_with fail
                refine HK.out _ _ ⟨B, g5, c5, ?_, HJ.out.next hi (by decide) (by decide) (by decide)⟩
                simp +decide only [T5, Act.put, List.setIfInBounds_toArray, List.set_cons_zero, List.set_cons_succ, gx_same _ _ _ _ hi, gx_set _ _ _ _ _ hi]
                try simp only [gx_yes _ _ d10]
              · -- 12
                have d11 := hC.dep (j := 11) (by kernel_rfl)
                refine wpOp_step rfl (fun K' hK => ?_)
                have HK := Lib.hid hK
                clear hK
                rw [if_pos (by rfl)]
                simp only [T5, gx_yes _ _ d11]
                go_wp2_with fail
                refine HK.out _ _ ⟨B, g5, c5, ?_, HJ.out.next hi (by decide) (by decide) (by decide)⟩
                simp +decide only [T5, Act.put, List.setIfInBounds_toArray, List.set_cons_zero, List.set_cons_succ, gx_same _ _ _ _ hi, gx_set _ _ _ _ _ hi]
                try simp only [gx_yes _ _ d11]
              · -- 13
                have d12 := hC.dep (j := 12) (by kernel_rfl)
                have e1 := emi
                refine wpOp_step rfl (fun K' hK => ?_)
                have HK := Lib.hid hK
                clear hK
                rw [if_pos (by rfl)]
                simp only [T5, gx_yes _ _ d12]
                go_wp2_with fail
                refine HK.out _ _ ⟨B, g5, c5, ?_, HJ.out.next hi (by decide) (by decide) (by decide)⟩
                simp +decide only [T5, Act.put, List.setIfInBounds_toArray, List.set_cons_zero, List.set_cons_succ, gx_same _ _ _ _ hi, gx_set _ _ _ _ _ hi]
                try simp only [gx_yes _ _ d12]
              · -- 14
                have d6 := hC.dep (j := 6) (by kernel_rfl)
                have d13 := hC.dep (j := 13) (by kernel_rfl)
                refine wpOp_step rfl (fun K' hK => ?_)
                have HK := Lib.hid hK
                clear hK
                rw [if_pos (by rfl)]
                simp only [T5, gx_yes _ _ d6, gx_yes _ _ d13]
                go_wp2_with fail
                refine HK.out _ _ ⟨B, g5, c5, ?_, HJ.out.next hi (by decide) (by decide) (by decide)⟩
                simp +decide only [T5, Act.put, List.setIfInBounds_toArray, List.set_cons_zero, List.set_cons_succ, gx_same _ _ _ _ hi, gx_set _ _ _ _ _ hi]
                try simp only [gx_yes _ _ d6, gx_yes _ _ d13]
              · -- 15
                have d14 := hC.dep (j := 14) (by kernel_rfl)
                refine wpOp_step rfl (fun K' hK => ?_)
                have HK := Lib.hid hK
                clear hK
                rw [if_pos (by rfl)]
                simp only [T5, gx_yes _ _ d14]
                go_wp2_with fail
                refine HK.out _ _ ⟨W.heap.size, g5, c5, ?_, HJ.out.build hi hnot⟩
                simp +decide only [T5, Act.put, List.setIfInBounds_toArray, List.set_cons_zero, List.set_cons_succ, gx_same _ _ _ _ hi, gx_set _ _ _ _ _ hi]
                try simp only [gx_yes _ _ d14]
              · -- 16
                have d1 := hC.dep (j := 1) (by kernel_rfl)
                have d15 := hC.dep (j := 15) (by kernel_rfl)
                refine wpOp_step rfl (fun K' hK => ?_)
                have HK := Lib.hid hK
                clear hK
                have hb := HJ.out.s d15 hnot
                have ho := HJ.out.o0 hnot
                have hmi := HM.out
                refine step_appR bss_rowP (by rfl) (.tmp 50) (.tmp 64) (by rfl) (w.heap.size + 3) V m c (((bod.take i).map (cut1 300)).map Own1.val) (by simp only [T5, gx_yes _ _ d1]; rfl) ho ⟨B, 0, none⟩ 1 1 [.slice A2 mi c2] (by simp only [T5, gx_yes _ _ d15]; rfl) (by rfl) ?_ ?_ (by decide) (by unfold maxLen; omega) (by omega) HJ.out.n ?_
                · intro j u hu
                  cases j with
                  | zero => (obtain rfl : Value.slice A2 mi c2 = u := by injection hu); exact (cells_1 hb)
                  | succ j => cases j <;> cases hu
                · intro u hu; simp at hu; subst hu; rfl
                · intro g c9 W9 h1 h2 h3
                  show K' (Act.put _ (some 65) _) _
                  refine HK.out _ _ ⟨B, g, c9, ?_, HJ.out.app hi d1 d15 hnot h1 h2⟩
                  simp +decide only [T5, Act.put, List.setIfInBounds_toArray, List.set_cons_zero, List.set_cons_succ, gx_same _ _ _ _ hi, gx_set _ _ _ _ _ hi]
                  try simp only [gx_yes _ _ d1, gx_yes _ _ d15]
              · -- 17
                refine wpOp_step rfl (fun K' hK => ?_)
                have HK := Lib.hid hK
                clear hK
                rw [if_pos (by rfl)]
                simp only [T5]
                go_wp2_with fail
                refine HK.out _ _ ⟨B, g5, c5, ?_, HJ.out.next hi (by decide) (by decide) (by decide)⟩
                simp +decide only [T5, Act.put, List.setIfInBounds_toArray, List.set_cons_zero, List.set_cons_succ, gx_same _ _ _ _ hi, gx_set _ _ _ _ _ hi]
              · -- 18
                have d16 := hC.dep (j := 16) (by kernel_rfl)
                have d17 := hC.dep (j := 17) (by kernel_rfl)
                refine wpOp_step rfl (fun K' hK => ?_)
                have HK := Lib.hid hK
                clear hK
                rw [if_pos (by rfl)]
                simp only [T5, gx_yes _ _ d16, gx_yes _ _ d17]
                have hy := HJ.out.y0 hnot
                obtain ⟨_, _, _, k1, _, _, _⟩ := cells_7 hy
                have k2 := Lib.frozen_of_heap hy 3
                go_wp2_with fail
                refine HK.out _ _ ⟨B, g5, c5, ?_, HJ.out.store hi d16 hnot rfl⟩
                simp +decide only [T5, Act.put, List.setIfInBounds_toArray, List.set_cons_zero, List.set_cons_succ, gx_same _ _ _ _ hi, gx_set _ _ _ _ _ hi]
                try simp only [gx_yes _ _ d16, gx_yes _ _ d17]
            · rintro L a W ⟨B, g5, c5, rfl, HJ⟩ hsz hall
              have d0 := hall 0 (by decide)
              have d1 := hall 1 (by decide)
              have d2 := hall 2 (by decide)
              have d3 := hall 3 (by decide)
              have d4 := hall 4 (by decide)
              have d5 := hall 5 (by decide)
              have d6 := hall 6 (by decide)
              have d7 := hall 7 (by decide)
              have d8 := hall 8 (by decide)
              have d9 := hall 9 (by decide)
              have d10 := hall 10 (by decide)
              have d11 := hall 11 (by decide)
              have d12 := hall 12 (by decide)
              have d13 := hall 13 (by decide)
              have d14 := hall 14 (by decide)
              have d15 := hall 15 (by decide)
              have d16 := hall 16 (by decide)
              have d17 := hall 17 (by decide)
              have d18 := hall 18 (by decide)
              have HJ2 := Lib.hid (And.intro HJ.out.b (And.intro HJ.out.x (And.intro HJ.out.z (And.intro (HJ.out.y1 d18) (HJ.out.o1 d16)))))
              simp only [T5, gx_yes _ _ d0, gx_yes _ _ d1, gx_yes _ _ d2, gx_yes _ _ d3, gx_yes _ _ d4, gx_yes _ _ d5, gx_yes _ _ d6, gx_yes _ _ d7, gx_yes _ _ d8, gx_yes _ _ d9, gx_yes _ _ d10, gx_yes _ _ d11, gx_yes _ _ d12, gx_yes _ _ d13, gx_yes _ _ d14, gx_yes _ _ d15, gx_yes _ _ d16, gx_yes _ _ d17]
              clear HJ hall hsz JJ d0 d1 d2 d3 d4 d5 d6 d7 d8 d9 d10 d11 d12 d13 d14 d15 d16 d17 d18
              go_wp2_with (fail)
              go_roundw
              case rel => exact ⟨i + 1, m + 1, c5, some ⟨g5, 0, none⟩, by go_num, by omega, by omega, by have := HM.out; unfold Hid; omega, HJ2.out.2.2.2.1, HJ2.out.2.1, HJ2.out.2.2.1, HJ2.out.1, by rw [VV.out]; exact HJ2.out.2.2.2.2⟩
              case measure => simp [intOf]; omega
          · have t2 : decide ((i : Int) < 10) = false := by simp; omega
            go_wp2_with (fail)
            go_meet
            exact ⟨m, c, V, by have := HM.out; unfold Hid at *; omega, HX.out, HZ.out, HB.out, HY.out, by rw [show min bn 10 = i by omega]; exact HO.out⟩
        · have t1 : decide ((i : Int) < (bn : Int)) = false := by simp; omega
          go_wp2_with (fail)
          go_meet
          exact ⟨m, c, V, by have := HM.out; unfold Hid at *; omega, HX.out, HZ.out, HB.out, HY.out, by rw [show min bn 10 = i by omega]; exact HO.out⟩
    case rest => as_aux_lemma =>
    obtain ⟨m, c, V, hm, hx, hz, hb, hy, ho⟩ := hcut
    generalize wc = W2 at *
    have hbl : bod.length = bn := HR.out.b.l
    have HBL := Lib.hid hbl
    obtain ⟨y0, y1, y2, y3, y4, y5, y6⟩ := cells_7 hy
    have HM := Lib.hid hm
    have H2 := Lib.hid (And.intro hx (And.intro hz (And.intro hb (And.intro hy ho))))
    clear hx hz hb hy ho H1 hm hbl
    go_upto_if 70 with (fail)
    go_cut [4] (fun s wx => LPost2 w #[.bool plus, .slice sA sn sc, .slice fA fn fc, .slice bA bn bc, .slice oA on oc, .slice hA hn hc, .slice gA gn gc] #[.bool false, .slice none 0 0, .slice none 0 0, .slice none 0 0, .slice none 0 0, .slice none 0 0, .slice none 0 0] (fun V m c => #[.bool plus, .slice sA ms sc, .slice fA mf fc, .slice V m c, .slice oA mo oc, .slice hA mh hc, .slice none 0 0]) bod wx)
    case first => as_aux_lemma =>
      by_cases hbz : bn = 0
      · have hm0 : m = 0 := by have := HM.out; omega
        have hbo : bod = [] := List.eq_nil_of_length_eq_zero (by have := HBL.out; omega)
        have HBO := Lib.hid hbo
        clear hbo
        have t1 : ((m : Int) == 0) = true := by simp; omega
        obtain ⟨_, _, _, d1, _, _, _⟩ := cells_7 (has_alloc H2.out.2.2.2.1 (.cells #[.slice none 0 0] 22))
        have d2 := Lib.frozen_of_heap (has_alloc H2.out.2.2.2.1 (.cells #[.slice none 0 0] 22)) 3
        have hsz2 : w.heap.size + 3 ≤ W2.heap.size := block_lt H2.out.2.2.2.1
        have FIN : Hid (LPost2 w #[.bool plus, .slice sA sn sc, .slice fA fn fc, .slice bA bn bc, .slice oA on oc, .slice hA hn hc, .slice gA gn gc] #[.bool false, .slice none 0 0, .slice none 0 0, .slice none 0 0, .slice none 0 0, .slice none 0 0, .slice none 0 0] (fun V m c => #[.bool plus, .slice sA ms sc, .slice fA mf fc, .slice V m c, .slice oA mo oc, .slice hA mh hc, .slice none 0 0]) bod ((W2.alloc (.cells #[.slice none 0 0] 22)).setCell ⟨w.heap.size + 2, 3, none⟩ (.slice (some ⟨W2.heap.size, 0, none⟩) 1 1))) := by
          obtain ⟨hx, hz, hb, hy, ho⟩ := H2.out
          refine ⟨1, 1, some ⟨W2.heap.size, 0, none⟩, has_set (has_alloc hx _) (by omega), has_set (has_alloc hz _) (by omega), kp_set (kp_alloc hb _) (by omega), ?_, ?_, by rw [HBO.out]; rfl⟩
          · have h9 := heap_set_at _ _ 3 _ _ _ (.slice (some ⟨W2.heap.size, 0, none⟩) 1 1) (has_alloc hy (.cells #[.slice none 0 0] 22))
            simpa only [List.setIfInBounds_toArray, List.set_cons_zero, List.set_cons_succ] using h9
          · rw [HBO.out]
            exact ((OwnR.lit W2 22 1 #[.slice none 0 0] 1 (by decide) rfl).lower hsz2).kept (grown_one _ (w.heap.size + 2) 3 _) (.inr (fun e => by have h8 : W2.heap.size = w.heap.size + 2 := (by injection e); omega))
        clear hbz hm0 y3
        go_wp2_with (fail)
        go_meet
        exact FIN.out
      · have t1 : ((m : Int) == 0) = false := by have := HM.out; simp; omega
        have FIN : Hid (LPost2 w #[.bool plus, .slice sA sn sc, .slice fA fn fc, .slice bA bn bc, .slice oA on oc, .slice hA hn hc, .slice gA gn gc] #[.bool false, .slice none 0 0, .slice none 0 0, .slice none 0 0, .slice none 0 0, .slice none 0 0, .slice none 0 0] (fun V m c => #[.bool plus, .slice sA ms sc, .slice fA mf fc, .slice V m c, .slice oA mo oc, .slice hA mh hc, .slice none 0 0]) bod W2) := by
          obtain ⟨hx, hz, hb, hy, ho⟩ := H2.out
          have h1 : ¬ bod = [] := fun h => by have := HBL.out; rw [h] at this; exact hbz this.symm
          have h2 : (bod.take (min bn 10)) = bod.take 10 := by
            rw [← HBL.out, Nat.min_comm]
            exact (List.take_eq_take_min ..).symm
          refine ⟨m, c, V, hx, hz, hb, hy, ?_, ?_⟩
          · unfold ybod; rw [if_neg h1, ← h2]; exact ho
          · unfold ybod; rw [if_neg h1]; have := HM.out; have := HBL.out; simp; omega
        clear hbz
        go_wp2_with (fail)
        go_meet
        exact FIN.out
    case rest => as_aux_lemma =>
    obtain ⟨mb, cb, Vb, hx, hz, hb, hy, ho, hm⟩ := hcut
    generalize wc = W3 at *
    have hgl : sig.length = gn := HR.out.g.l
    have HGL := Lib.hid hgl
    have S0 : Hid (SPost w #[.bool plus, .slice sA sn sc, .slice fA fn fc, .slice bA bn bc, .slice oA on oc, .slice hA hn hc, .slice gA gn gc] #[.bool false, .slice none 0 0, .slice none 0 0, .slice none 0 0, .slice none 0 0, .slice none 0 0, .slice none 0 0] (fun Vb mb cb V m c => #[.bool plus, .slice sA ms sc, .slice fA mf fc, .slice Vb mb cb, .slice oA mo oc, .slice hA mh hc, .slice V m c]) bod sig 0 W3) := ⟨mb, cb, Vb, 0, 0, none, [], hx, hz, hb, hy, ho, hm, OwnR.nil _ _ _ _, rfl, (by cases h : blk Vb with | none => exact .inl rfl | some k => exact .inr (by simp [blk])), ⟨(fun x hx => by cases hx), List.Pairwise.nil⟩, (fun x hx => by cases hx), rfl⟩
    clear hx hz hb hy ho hm H2 HM HBL hgl HBC y0 y1 y2 y3 y4 y5 y6
    go_upto_block 2 with (fail)
    go_cut [5, 6] (fun s s2 wx => SPost w #[.bool plus, .slice sA sn sc, .slice fA fn fc, .slice bA bn bc, .slice oA on oc, .slice hA hn hc, .slice gA gn gc] #[.bool false, .slice none 0 0, .slice none 0 0, .slice none 0 0, .slice none 0 0, .slice none 0 0, .slice none 0 0] (fun Vb mb cb V m c => #[.bool plus, .slice sA ms sc, .slice fA mf fc, .slice Vb mb cb, .slice oA mo oc, .slice hA mh hc, .slice V m c]) bod sig (min gn 8) wx)
    case first => as_aux_lemma =>
      go_wp2_with (fail)
      go_loopw [5, 6] (fun vi vs wl => ∃ (i : Nat), vi = .int .i64 (i : Int) ∧ i ≤ gn ∧ i ≤ 8 ∧ Hid (SPost w #[.bool plus, .slice sA sn sc, .slice fA fn fc, .slice bA bn bc, .slice oA on oc, .slice hA hn hc, .slice gA gn gc] #[.bool false, .slice none 0 0, .slice none 0 0, .slice none 0 0, .slice none 0 0, .slice none 0 0, .slice none 0 0] (fun Vb mb cb V m c => #[.bool plus, .slice sA ms sc, .slice fA mf fc, .slice Vb mb cb, .slice oA mo oc, .slice hA mh hc, .slice V m c]) bod sig i wl)) (fun vi _ _ => 8 - (intOf vi).toNat)
      case atStart => exact ⟨0, rfl, Nat.zero_le _, Nat.zero_le _, S0⟩
      case round =>
        obtain ⟨i, rfl, hi, hi8, HS⟩ := hrel
        obtain ⟨mb, cb, Vb, m, c, V, xs, hx, hz, hb, hy, hob, hmb, ho, hm, hne, hso, hxl, hxs⟩ := HS.out
        obtain ⟨x0, x1, x2, x3, x4, x5, x6⟩ := cells_7 hx
        by_cases hlt : i < gn
        · have t1 : decide ((i : Int) < (gn : Int)) = true := by simp; omega
          by_cases hlt8 : i < 8
          · have t2 : decide ((i : Int) < 8) = true := by simp; omega
            obtain ⟨⟨A2, n2, c2, b2⟩, hsg⟩ : ∃ y, sig[i]? = some y := ⟨_, List.getElem?_eq_getElem (by have := HGL.out; omega)⟩
            obtain ⟨bk, bo, hoA, hbw, ck⟩ := HR.out.g.at_ hsg
            have hrb := HR.out.g.rb _ (List.mem_of_getElem? hsg)
            obtain ⟨hnc, hcm⟩ := HGC.out _ (List.mem_of_getElem? hsg)
            simp only at hoA hnc hcm hrb
            subst hoA
            have HIN := Lib.hid (And.intro hrb ck)
            have hn2 : b2.length = n2 := hrb.1
            have HN2 := Lib.hid hn2
            obtain ⟨mi, hmi⟩ : ∃ z, min n2 300 = z := ⟨_, rfl⟩
            have emi : (if (300 : Int) < (n2 : Int) then (300 : Int) else (n2 : Int)) = (mi : Int) := by split <;> omega
            have bmi : (0 : Int) ≤ (mi : Int) := by omega
            have dmi : (mi : Int) ≤ (c2 : Int) := by omega
            have hmi300 : mi ≤ 300 := by omega
            have HSG := Lib.hid hsg
            have HMI := Lib.hid hmi
            have HB1 := Lib.hid (And.intro hb (And.intro hx (And.intro hz (And.intro hy (And.intro hob (And.intro ho (And.intro hne (And.intro hso (And.intro hxl (And.intro hxs (And.intro hmb hm)))))))))))
            have hysz : w.heap.size + 3 ≤ wr.heap.size := block_lt hy
            clear hx hz hb hy hob ho hne hso hxl hxs hrb hbw hsg ck hn2 hmi hmb hm
            go_upto_region 12 with (fail)
            refine wp_nm fun wB hWB => ?_
            have hnB : Below wr.heap.size wr wB := by rw [← hWB]; exact kp_alloc (Below.refl _ _) _
            have hO1 : OwnB wB (w.heap.size + 3) (some ⟨wr.heap.size, 0, none⟩) 1 1 [48] := by rw [← hWB]; exact (OwnR.lit wr 5 1 #[.int .u8 48] 1 (by decide) rfl).lower hysz
            have HO1 := Lib.hid hO1.drew
            have hbB := kp_call HB1.out.1 hnB
            have HRT : Hid (RB wB.drew A2 (min n2 300) (b2.take 300)) := rb_min ((HIN.out.1.below hbB).below (kp_drew (Below.refl _ _)))
            rw [HMI.out] at HRT
            clear x0 x1 x2 x3 x4 x5 x6
            obtain ⟨x0, x1, x2, x3, x4, x5, x6⟩ := cells_7 (has_below HB1.out.2.1 hnB)
            have k1 : wB.cell? ⟨bk, bo + i, none⟩ = some (.slice A2 n2 c2) := kp_cell hbB HIN.out.2
            have HNB := Lib.hid hnB
            have hzB : wr.heap.size ≤ wB.heap.size := hnB.size
            clear hnB hO1 hbB hWB
            refine wp_region_still_tail 14 (by kernel_rfl) (by kernel_rfl) ?_
            simp only [List.take_succ_cons, List.take_zero, List.drop_succ_cons, List.drop_zero]
            iterate 14 ((with_reducible refine wpStill_step (fun K hK => ?_)); go_simp; (with_reducible refine hK _ ?_); clear hK K)
            with_reducible refine wpStill_nil ?_
            change wpList _ _ _ _ _ wB.drew
            go_wp2_with (at_builtin; refine wpList_apt _ _ rfl rfl rfl (w.heap.size + 3) (some ⟨wr.heap.size, 0, none⟩) 1 1 [48] rfl HO1.out A2 mi c2 _ rfl HRT.out (by omega) (by show w.heap.size + 3 ≤ wB.heap.size; omega) ?_)
            intro A9 c9 we ho9 hg9 hl9
            have hbn9 : Below wr.heap.size wr we := (kp_drew HNB.out).grown hg9 hzB (fun q hq => by have h8 : wr.heap.size = q := (by injection hq); omega)
            have HB2 : Hid (SQ w #[.bool plus, .slice sA sn sc, .slice fA fn fc, .slice bA bn bc, .slice oA on oc, .slice hA hn hc, .slice (some ⟨bk, bo, none⟩) gn gc] #[.bool false, .slice none 0 0, .slice none 0 0, .slice none 0 0, .slice none 0 0, .slice none 0 0, .slice none 0 0] (fun Vb mb cb V m c => #[.bool plus, .slice sA ms sc, .slice fA mf fc, .slice Vb mb cb, .slice oA mo oc, .slice hA mh hc, .slice V m c]) bod sig i mb cb Vb m c V xs we) := by
              obtain ⟨hb, hx, hz, hy, hob, ho, hne, hso, hxl, hxs, hmb, hm⟩ := HB1.out
              exact ⟨has_below hx hbn9, has_below hz hbn9, kp_call hb hbn9, has_below hy hbn9, hob.below hbn9 (Nat.le_refl _), hmb, ho.below hbn9 (Nat.le_refl _), hm, hne, hso.below hbn9, hxl, hxs⟩
            have HO9 := Lib.hid ho9
            have HF9 : Hid (∀ x ∈ xs, ∀ g, blk x.1 = some g → g < wr.heap.size) := fun x hx g hg => ((HB1.out.2.2.2.2.2.2.2.1.own x hx).1.blk_lt hg).2
            have HS9 : Hid (((sig.take (i + 1)).map fun s => 48 :: s.2.2.2.take 300) = ((sig.take i).map fun s => 48 :: s.2.2.2.take 300) ++ [[48] ++ b2.take 300]) := by
              refine Lib.hid ?_
              rw [List.take_add_one, HSG.out]; simp
            have HV9 : Hid (∀ g, blk A9 = some g → wr.heap.size ≤ g) := fun g hg => by
              rcases hl9 with e | e <;> rw [hg] at e
              · have h8 : g = wr.heap.size := (by injection e); omega
              · have h8 : g = wB.drew.heap.size := (by injection e); have h9 : wB.drew.heap.size = wB.heap.size := rfl; omega
            clear ho9 hg9 hl9 HB1 HO1 HIN HRT HNB hbn9 x0 x1 x2 x3 x4 x5 x6 k1
            have hwe : w.heap.size + 3 ≤ we.heap.size := block_lt HB2.out.2.2.2.1
            obtain ⟨_, _, _, _, _, _, y6⟩ := cells_7 HB2.out.2.2.2.1
            have hm8 : m = i := by have h1 := HB2.out.2.2.2.2.2.2.2.1; have h2 := congrArg List.length HB2.out.2.2.2.2.2.2.2.2.2.2.2; have := HGL.out; simp at h2; omega
            have HM8 := Lib.hid hm8
            have hm8l : m ≤ 8 := by omega
            clear hm8
            go_wp2_with (at_builtin; refine wpList_appLt bss_rowP _ _ rfl rfl rfl (w.heap.size + 3) V m c _ rfl (HB2.out.2.2.2.2.2.2.1.alloc _) _ 1 1 #[.slice A9 (1 + mi) c9] (0, 0) rfl (has_new _ _) rfl (by intro u hu; simp at hu; subst hu; rfl) (by unfold maxLen; omega) (by omega) (by simp; omega) ?_)
            intro V' c' w4 ho4 hg4 hl4
            have HQ := Lib.hid (HB2.out.step (c' := c') rfl HO9.out (by omega) (fun x hx g hg g' hg' => Nat.lt_of_lt_of_le (HF9.out x hx g hg) (HV9.out g' hg')) HS9.out ho4 hg4 (by simpa using hl4))
            have hy4 := HB2.out.y4 hg4
            obtain ⟨_, _, _, _, _, _, y7⟩ := cells_7 hy4
            have f7 := Lib.frozen_of_heap hy4 6
            clear ho4 hg4 hl4 hy4 y6
            go_wp2_with (fail)
            go_roundw
            case rel => exact ⟨i + 1, by go_num, by omega, by omega, mb, cb, Vb, m + 1, c', V', _, HQ.out⟩
            case measure => simp [intOf]; omega
          · have t2 : decide ((i : Int) < 8) = false := by simp; omega
            go_wp2_with (fail)
            go_meet
            rw [show min gn 8 = i by omega]
            exact HS.out
        · have t1 : decide ((i : Int) < (gn : Int)) = false := by simp; omega
          go_wp2_with (fail)
          go_meet
          rw [show min gn 8 = i by omega]
          exact HS.out
    case rest => as_aux_lemma =>
    generalize wc = W4 at *
    obtain ⟨mb, cb, Vb, m, c, V, xs, hq⟩ := hcut
    have HSV := Lib.hid hq
    obtain ⟨hx, hz, hb, hy, hob, hmb, ho, hm, hne, hso, hxl, hxs⟩ := hq
    have HZ := Lib.hid hz
    have HY := Lib.hid hy
    clear hx hz hb hy hob hmb ho hm hne hso hxl hxs
    go_wp2_with (first | (refine wpList_load_row rfl _ _ rfl (w.heap.size + 2) rfl _ _ _ _ HY.out Tryz.underlying44 rfl (by kernel_rfl) ?_) | (refine wpList_store_row rfl _ _ _ rfl (w.heap.size + 1) #[.bool plus, .slice sA ms sc, .slice fA mf fc, .slice Vb mb cb, .slice oA mo oc, .slice hA mh hc, .slice V m c] rfl rfl _ _ HZ.out (by kernel_rfl) rfl (by simp [Value.oneCell']) ?_))
    refine bodyPost_ret (results_c Tryz.results13 _ (LV.agg (setRow_heap _ _ _ _ _ _ HZ.out) Tryz.underlying44 rfl (by kernel_rfl))) rfl ?_
    obtain ⟨hx, hz, hb, hy, hob, hmb, ho, hm, hne, hso, hxl, hxs⟩ := HSV.out
    obtain ⟨e1, e2, e3, e4⟩ := HMN.out
    have hg7 : W4.grownBy (W4.setRow (w.heap.size + 1) #[.bool plus, .slice sA ms sc, .slice fA mf fc, .slice Vb mb cb, .slice oA mo oc, .slice hA mh hc, .slice V m c]) (some (w.heap.size + 1)) := ⟨rfl, rfl, rfl, Nat.le_of_eq (setRow_size _ _ _).symm, fun k hk hne => setRow_other _ _ _ _ (fun e => hne (by rw [e]))⟩
    exact bring_end ⟨plus, sA, sn, sc, stub, fA, fn, fc, fill, bA, bn, bc, bod, oA, on, oc, ord, hA, hn, hc, beh, gA, gn, gc, sig⟩ w _ ms mf mh mo HR.out (hb.grown hg7 hb.size (fun q hq => by have h8 : w.heap.size + 1 = q := (by injection hq); omega)) e1 e2 e3 e4 Vb mb cb V m c xs
      (hob.kept hg7 (.inr (fun e => by have := (hob.blk_lt e).1; omega))).reads hmb (ho.kept hg7 (.inr (fun e => by have := (ho.blk_lt e).1; omega))).reads hm (fun y hy => ((hso.keep hg7 (fun q hq => by have h8 : w.heap.size + 1 = q := (by injection hq); omega)).own y hy).1.rb) hxs ho.cap.1
end Go.Proofs.YtcedojmhgmgcgaaGreatDoor
