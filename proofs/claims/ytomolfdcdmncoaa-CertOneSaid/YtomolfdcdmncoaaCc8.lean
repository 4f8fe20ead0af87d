/-
  cert: the statements' certificates: what a case is, and what stands while one is made.
-/
import Derived.Test.YtomolfdcdmncoaaCfH
import Derived.Test.YtomolfdcdmncoaaCb9
import Derived.Deep.DeepCutAuto
import Derived.Test.YtomolfdcdmncoaaCc5
import Derived.Test.YtomolfdcdmncoaaCc3
namespace Go.Proofs.Ytomolfdcdmncoaa
open Go.RowKit Go
set_option linter.unusedVariables false
set_option linter.unusedSimpArgs false
set_option maxRecDepth 100000
/-- A case's cells. -/
def caseC (s n g : S3) (is ss : ByteArray) (f t : Tm) (e : Nat) (ca code : Bool) (pa us : UInt8) : Array Value := #[sv s, sv n, sv g, .string is, .string ss,
  .int .u16 (f.y : Int), .int .u8 (f.mo.toNat : Int), .int .u8 (f.d.toNat : Int), .int .u8 (f.h.toNat : Int), .int .u8 (f.mi.toNat : Int), .int .u8 (f.s.toNat : Int),
  .int .u16 (t.y : Int), .int .u8 (t.mo.toNat : Int), .int .u8 (t.d.toNat : Int), .int .u8 (t.h.toNat : Int), .int .u8 (t.mi.toNat : Int), .int .u8 (t.s.toNat : Int),
  .int .u64 (e : Int), .bool ca, .bool code, .int .u8 (pa.toNat : Int), .int .u8 (us.toNat : Int)]
/-- At most so many bytes of bytes of any length, in new memory. -/
theorem short9_any (A : Option Addr) (n c : Nat) (bs : List UInt8) (k : Int) (kn : Nat) (hk : k = (kn : Int)) (w : World) (hA : RB w A n bs) (hnc : n ≤ c) (hkn : kn ≤ 1000000) :
    Calls Try.prog 32 #[.slice A n c, .int .i64 k] w (Fresh w (bs.take kn)) := by
  by_cases h : n ≤ kn
  · exact short_any A n c bs k kn hk w hA hnc (by omega)
  · subst hk
    have hl := hA.1
    have p1 : ¬ (n : Int) ≤ (kn : Int) := by omega
    have hkn : kn ≤ n := by omega
    have C := Lib.hid (copy_any A kn c (bs.take kn) w (rb_take hA hkn) (by omega))
    go_enter Try.func32, Try.ntmps32
    go_wp2_with fail
    refine C.out.mono ?_
    rintro e w' ⟨A', n', c', rfl, ho, hb⟩
    have HO := Lib.hid ho
    have HB := Lib.hid hb
    clear ho hb
    go_wp2
    go_ret
    exact ⟨A', n', c', rfl, HO.out, HB.out⟩
def t2020 : Tm := ⟨2020, 1, 1, 0, 0, 0⟩
def fM (f : Tm) : Tm := if rightB f then f else t2020
def tM (f t : Tm) : Tm := if rightB t = true ∧ lessB t (fM f) = false then t else fM f
def pathM (ca : Bool) (pa : UInt8) : Option UInt8 := if ca = true ∧ 0 < pa.toNat then some (pa - 1) else none
def usM (us : UInt8) : Option Nat := if 0 < us.toNat then some (2 * us.toNat + us.toNat % 2) else none
theorem pathM_int (pa : UInt8) (h : 0 < pa.toNat) : (((pa - 1).toNat : Nat) : Int) = (pa.toNat : Int) - 1 := by
  have h1 : (1 : UInt8).toNat = 1 := rfl
  have hb := pa.toNat_lt
  rw [UInt8.toNat_sub, h1]
  omega
theorem usM_fit (us : UInt8) : ∀ v, usM us = some v → 0 < v ∧ v < 512 := by
  intro v h
  have hb := us.toNat_lt
  unfold usM at h
  split at h
  · injection h with h; omega
  · cases h
def tB (f t : Tm) : Bool := !rightB t || lessB t (fM f)
theorem tM_no (f t : Tm) (h : tB f t = true) : tM f t = fM f := by
  unfold tM
  rw [if_neg]
  rintro ⟨h1, h2⟩
  unfold tB at h
  rw [h1, h2] at h
  cases h
theorem tM_yes (f t : Tm) (h : tB f t = false) : tM f t = t := by
  unfold tB at h
  rw [Bool.or_eq_false_iff] at h
  unfold tM
  rw [if_pos ⟨by simpa using h.1, h.2⟩]
theorem fM_y (f : Tm) (h : f.y < 65536) : (fM f).y < 65536 := by unfold fM; split; exact h; decide
theorem tM_y (f t : Tm) (h : f.y < 65536) (h2 : t.y < 65536) : (tM f t).y < 65536 := by unfold tM; split; exact h2; exact fM_y f h
theorem fM_right (f : Tm) : rightB (fM f) = true := by unfold fM; split; assumption; decide +kernel
theorem tM_right (f t : Tm) : rightB (tM f t) = true := by
  unfold tM; split
  · rename_i h; exact h.1
  · exact fM_right f
theorem less_irr9 (a : Tm) : ∀ n k, lessFrom a a n k = false := by
  intro n
  induction n with
  | zero => intro k; rfl
  | succ n ih => intro k; simp only [lessFrom, if_true]; exact ih _
theorem tM_less (f t : Tm) : lessB (tM f t) (fM f) = false := by
  unfold tM; split
  · rename_i h; exact h.2
  · exact less_irr9 _ _ _
/-- The bytes of a case's parts. -/
def serM (sb : List UInt8) : List UInt8 := putI (1 :: sb.take 18)
def nM (nb : List UInt8) : List UInt8 := trimZ (nb.take 600)
def tbsM (sb nb isb ssb : List UInt8) (f t : Tm) (e : Nat) (ca code : Bool) (pa us : UInt8) : List UInt8 :=
  tbsB (serM sb) (nameB (isb.take 200)) (fM f) (tM f t) (nameB (ssb.take 200)) (nM nb) (e % 8589934592) (exW (exL ca (pathM ca pa) (usM us) code))
def rawM (sb nb gb isb ssb : List UInt8) (f t : Tm) (e : Nat) (ca code : Bool) (pa us : UInt8) : List UInt8 := certB (tbsM sb nb isb ssb f t e ca code pa us) (gb.take 600)
/-- What stands of a certificate's parts while it is made. -/
structure MDf (W : World) (base : Nat) (iss sub ser nn sig : S3) (ib sb rb nb gb : List UInt8) : Prop where
  i : OwnS3 W base iss ib
  s : OwnS3 W base sub sb
  r : OwnS3 W base ser rb
  n : OwnS3 W base nn nb
  g : OwnS3 W base sig gb
section
variable {W W' : World} {base : Nat} {iss sub ser nn sig : S3} {ib sb rb nb gb : List UInt8}
theorem MDf.call (h : MDf W base iss sub ser nn sig ib sb rb nb gb) (hb : Below W.heap.size W W') : MDf W' base iss sub ser nn sig ib sb rb nb gb := ⟨OwnB.below h.i hb (Nat.le_refl _), OwnB.below h.s hb (Nat.le_refl _), OwnB.below h.r hb (Nat.le_refl _), OwnB.below h.n hb (Nat.le_refl _), OwnB.below h.g hb (Nat.le_refl _)⟩
theorem MDf.kept (h : MDf W base iss sub ser nn sig ib sb rb nb gb) {q : Nat} (hg : W.grownBy W' (some q)) {cs : Array Value} {mk : Nat × Nat} (hq : W.heap[q]? = some (.cells cs 33 mk)) : MDf W' base iss sub ser nn sig ib sb rb nb gb := ⟨OwnB.keptK h.i hg hq (by decide), OwnB.keptK h.s hg hq (by decide), OwnB.keptK h.r hg hq (by decide), OwnB.keptK h.n hg hq (by decide), OwnB.keptK h.g hg hq (by decide)⟩
end
section
variable {W : World} {g : Nat} {raw tbs iss sub ser nn sig : S3} {f t : Tm} {e : Nat} {x : Xt}
theorem cert_rng {mk : Nat × Nat} (h : W.heap[g]? = some (.cells (certC raw tbs iss sub ser f t nn e sig x) 33 mk)) : W.rangeAt g 5 f.cells.toList ∧ W.rangeAt g 11 t.cells.toList := by
  constructor
  · intro j v hj
    have hlt : j < 6 := by have := (List.getElem?_eq_some_iff.1 hj).1; simpa [Tm.cells] using this
    rw [Lib.cell_of_heap h (5 + j), ← hj]
    rcases (show j = 0 ∨ j = 1 ∨ j = 2 ∨ j = 3 ∨ j = 4 ∨ j = 5 by omega) with rfl | rfl | rfl | rfl | rfl | rfl <;> rfl
  · intro j v hj
    have hlt : j < 6 := by have := (List.getElem?_eq_some_iff.1 hj).1; simpa [Tm.cells] using this
    rw [Lib.cell_of_heap h (11 + j), ← hj]
    rcases (show j = 0 ∨ j = 1 ∨ j = 2 ∨ j = 3 ∨ j = 4 ∨ j = 5 by omega) with rfl | rfl | rfl | rfl | rfl | rfl <;> rfl
theorem case_rng {s n sg : S3} {is ss : ByteArray} {ca code : Bool} {pa us : UInt8} {mk : Nat × Nat} (h : W.heap[g]? = some (.cells (caseC s n sg is ss f t e ca code pa us) 28 mk)) : W.rangeAt g 5 f.cells.toList ∧ W.rangeAt g 11 t.cells.toList := by
  constructor
  · intro j v hj
    have hlt : j < 6 := by have := (List.getElem?_eq_some_iff.1 hj).1; simpa [Tm.cells] using this
    rw [Lib.cell_of_heap h (5 + j), ← hj]
    rcases (show j = 0 ∨ j = 1 ∨ j = 2 ∨ j = 3 ∨ j = 4 ∨ j = 5 by omega) with rfl | rfl | rfl | rfl | rfl | rfl <;> rfl
  · intro j v hj
    have hlt : j < 6 := by have := (List.getElem?_eq_some_iff.1 hj).1; simpa [Tm.cells] using this
    rw [Lib.cell_of_heap h (11 + j), ← hj]
    rcases (show j = 0 ∨ j = 1 ∨ j = 2 ∨ j = 3 ∨ j = 4 ∨ j = 5 by omega) with rfl | rfl | rfl | rfl | rfl | rfl <;> rfl
/-- A moment stored into a certificate. -/
theorem cert_setF (u : Tm) (h : W.heap[g]? = some (.cells (certC raw tbs iss sub ser f t nn e sig x) 33)) : (W.setCells g 5 u.cells.toList).heap[g]? = some (.cells (certC raw tbs iss sub ser u t nn e sig x) 33) :=
  ArrI.setAt (pre := [sv raw, sv tbs, sv iss, sv sub, sv ser]) (mid := f.cells.toList) (post := t.cells.toList ++ [sv nn, .int .u64 (e : Int), sv sig, .bool x.ca, .int .i64 x.path, .int .i64 x.usage, .bool x.code]) (t := 33) h 5 u.cells.toList rfl rfl
theorem cert_setT (u : Tm) (h : W.heap[g]? = some (.cells (certC raw tbs iss sub ser f t nn e sig x) 33)) : (W.setCells g 11 u.cells.toList).heap[g]? = some (.cells (certC raw tbs iss sub ser f u nn e sig x) 33) :=
  ArrI.setAt (pre := [sv raw, sv tbs, sv iss, sv sub, sv ser] ++ f.cells.toList) (mid := t.cells.toList) (post := [sv nn, .int .u64 (e : Int), sv sig, .bool x.ca, .int .i64 x.path, .int .i64 x.usage, .bool x.code]) (t := 33) h 11 u.cells.toList rfl rfl
theorem cert_setP (p : Int) (h : W.heap[g]? = some (.cells (certC raw tbs iss sub ser f t nn e sig x) 33)) : (W.setCell ⟨g, 21, none⟩ (.int .i64 p)).heap[g]? = some (.cells (certC raw tbs iss sub ser f t nn e sig { x with path := p }) 33) := heap_set_at W g 21 _ _ _ _ h
theorem cert_setU (p : Int) (h : W.heap[g]? = some (.cells (certC raw tbs iss sub ser f t nn e sig x) 33)) : (W.setCell ⟨g, 22, none⟩ (.int .i64 p)).heap[g]? = some (.cells (certC raw tbs iss sub ser f t nn e sig { x with usage := p }) 33) := heap_set_at W g 22 _ _ _ _ h
theorem cert_set0 (r : S3) (h : W.heap[g]? = some (.cells (certC raw tbs iss sub ser f t nn e sig x) 33)) : (W.setCell ⟨g, 0, none⟩ (sv r)).heap[g]? = some (.cells (certC r tbs iss sub ser f t nn e sig x) 33) := heap_set_at W g 0 _ _ _ _ h
theorem cert_set1 (r : S3) (h : W.heap[g]? = some (.cells (certC raw tbs iss sub ser f t nn e sig x) 33)) : (W.setCell ⟨g, 1, none⟩ (sv r)).heap[g]? = some (.cells (certC raw r iss sub ser f t nn e sig x) 33) := heap_set_at W g 1 _ _ _ _ h
theorem cert_there {o n : Nat} (h : W.heap[g]? = some (.cells (certC raw tbs iss sub ser f t nn e sig x) 33)) (hn : o + n ≤ 24) : W.there g o n := ArrI.there (t := 33) (vs := (certC raw tbs iss sub ser f t nn e sig x).toList) h o n (by simpa [certC] using hn)
end
theorem certC_size (raw tbs iss sub ser : S3) (f t : Tm) (nn : S3) (e : Nat) (sig : S3) (x : Xt) : (certC raw tbs iss sub ser f t nn e sig x).size = 24 := rfl
theorem certC_one (raw tbs iss sub ser : S3) (f t : Tm) (nn : S3) (e : Nat) (sig : S3) (x : Xt) : (certC raw tbs iss sub ser f t nn e sig x).all (·.oneCell') = true := by simp [certC, Value.oneCell']
theorem certC_info (raw tbs iss sub ser : S3) (f t : Tm) (nn : S3) (e : Nat) (sig : S3) (x : Xt) : (Try.prog.info? 33).map (·.size) = some (certC raw tbs iss sub ser f t nn e sig x).size := by rw [certC_size]; kernel_rfl
theorem wpList_load_midG9 {P : Program} {ops : Array Oper} {rest : List Oper} {op : Oper} {a : Act} {w : World} {Q : Exit → Act → World → Prop} (hw : Region.wanted op (yielded ops a.tmps) = true) (ty : TypeId) (x : Operand) (ho : op.op = .load ty x)
    (b o : Nat) (hx : a.eval x = .pointer (some ⟨b, o, none⟩)) (cs : List Value) (d : TypeDesc) (hc : w.rangeAt b o cs)
    (hu : P.underlying ty = some d) (hd : d.isRow = true) (hi : (P.info? ty).map (·.size) = some cs.length)
    (h : wpList P ops Q rest (a.put op.dst (.agg cs.toArray)) w) : wpList P ops Q (op :: rest) a w :=
  wpList_step fun K hK => by
    rw [if_pos hw]
    exact wp_load_mid ty x ho b o hx cs d hc hu hd hi (hK _ _ h)
def MR.fresh0 (base : Nat) : MR := ⟨fun v W => ∃ g, v = .pointer (some ⟨g, 0, none⟩) ∧ base ≤ g ∧ W.heap[g]? = some (.cells cert0 33), fun ⟨g, e, h1, h2⟩ hb => ⟨g, e, h1, has_below h2 hb⟩, false, fun h => nomatch h⟩
def MR.cert (base : Nat) (f t : Tm) (e : Nat) (x : Xt) (ib sb rb nb gb : List UInt8) : MR := ⟨fun v W => ∃ iss sub ser nn sig, v = .agg (certC n0S n0S iss sub ser f t nn e sig x) ∧ MDf W base iss sub ser nn sig ib sb rb nb gb, fun ⟨a, b, c, d, g, h1, h2⟩ hb => ⟨a, b, c, d, g, h1, h2.call hb⟩, false, fun h => nomatch h⟩
section
variable {o : Oper} {ρ : Operand → Value} {w : World}
theorem mo_sbytes {x : Operand} {s : ByteArray} (ho : o.op = .convert 9 22 x) (hx : ρ x = .string s) (hs : s.size ≤ maxLen) : MonoOp Try.prog o ρ w fun v W' => Below w.heap.size w W' ∧ (MR.rb s.data.toList).p v W' := by
  obtain ⟨c, w', hr, h1, h2, h3, h4⟩ := run_sbytes w s hs
  refine mo_val ?_ ⟨h4, _, _, _, rfl, h1, h2, h3⟩
  unfold execOp
  simp only [ho, hx, Sem.run_bind, hr, Result.andThen_ok]
  rfl
theorem run_bstring {A : Option Addr} {n c : Nat} {bs : List UInt8} (h : RB w A n bs) : (convert 22 9 (.slice A n c)).run Try.prog w = .ok (.string ⟨bs.toArray⟩) w := by
  obtain ⟨rfl, h2⟩ := h
  cases bs with
  | nil =>
    cases A with
    | none => kernel_rfl
    | some a => exact run_convert_bytes_back (P := Try.prog) w 22 9 5 a c [] Try.underlying22 Try.underlying5 Try.underlying9 (fun j hj => by cases hj)
  | cons q r =>
    obtain ⟨b, off, rfl, _, hc⟩ := h2 (by simp)
    exact run_convert_bytes_back (P := Try.prog) w 22 9 5 ⟨b, off, none⟩ c (q :: r) Try.underlying22 Try.underlying5 Try.underlying9 (fun j hj => by rw [Addr.add_mid]; exact hc j hj)
theorem run_rem33 (e : Nat) : (binOp BinOp.rem 26 (.int .u64 (e : Int)) (.int .u64 8589934592)).run Try.prog w = .ok (.int .u64 ((e % 8589934592 : Nat) : Int)) w := by
  simp [binOp, go_sem, Sem.run_bind]
  exact Int.tmod_eq_emod_of_nonneg (by omega)
theorem run_key (A : Option Addr) (n c : Nat) (e : Nat) : (Instr.build 31 #[(0, .slice A n c), (1, .int .u64 (e : Int))]).run Try.prog w = .ok (.agg #[.slice A n c, .int .u64 (e : Int)]) w := by kernel_rfl
theorem run_cert (iss sub ser nn sig : S3) (f t : Tm) (e : Nat) (ca code : Bool) : (Instr.build 33 #[(2, sv iss), (3, sv sub), (4, sv ser), (5, tmV f), (6, tmV t), (7, .agg #[sv nn, .int .u64 (e : Int)]), (8, sv sig), (9, .bool ca), (10, .int .i64 (-1)), (11, .int .i64 (-1)), (12, .bool code)]).run Try.prog w = .ok (.agg (certC n0S n0S iss sub ser f t nn e sig ⟨ca, -1, -1, code⟩)) w := by kernel_rfl
theorem run_alloc0 : (Instr.alloc 33 true (.tuple #[])).run Try.prog w = .ok (.pointer (some ⟨w.heap.size, 0, none⟩)) (w.alloc (.cells cert0 33)) := by kernel_rfl
end
end Go.Proofs.Ytomolfdcdmncoaa
namespace Go.Proofs.Ytomolfdcdmncoaa
open Go.RowKit Go
set_option linter.unusedVariables false
set_option linter.unusedSimpArgs false
set_option maxRecDepth 100000
/-- What Made answers. -/
def MadeP (w : World) (sb nb gb isb ssb : List UInt8) (f t : Tm) (e : Nat) (ca code : Bool) (pa us : UInt8) (ed : Ending) (w' : World) : Prop :=
  ∃ (raw tbs iss sub ser nn sig : S3) (A : Option Addr) (n c : Nat), ed = .returned (.tuple #[.agg (certC raw tbs iss sub ser (fM f) (tM f t) nn (e % 8589934592) sig ⟨ca, pathI (pathM ca pa), usI (usM us), code⟩), .slice A n c]) ∧
    MDf w' w.heap.size iss sub ser nn sig (nameB (isb.take 200)) (nameB (ssb.take 200)) (serM sb) (nM nb) (gb.take 600) ∧ OwnS3 w' w.heap.size raw (rawM sb nb gb isb ssb f t e ca code pa us) ∧ OwnS3 w' w.heap.size tbs (tbsM sb nb isb ssb f t e ca code pa us) ∧
    OwnB w' w.heap.size A n c (rawM sb nb gb isb ssb f t e ca code pa us) ∧ Below w.heap.size w w'
theorem rb_lim {w : World} {A : Option Addr} {n : Nat} {bs : List UInt8} (h : RB w A n bs) (k : Nat) : (bs.take k).length ≤ k := by rw [List.length_take]; omega
theorem serM_len (sb : List UInt8) : (serM sb).length ≤ 20 := by
  have h1 := putI_len (1 :: sb.take 18)
  have h2 : (sb.take 18).length ≤ 18 := by rw [List.length_take]; omega
  simp only [List.length_cons] at h1
  unfold serM
  omega
theorem nM_len (nb : List UInt8) : (nM nb).length ≤ 600 := by
  have h1 := trim_len9 (nb.take 600)
  have h2 : (nb.take 600).length ≤ 600 := by rw [List.length_take]; omega
  unfold nM
  omega
theorem nameB_len (s : List UInt8) (h : s.length ≤ 200) : (nameB s).length ≤ 300 := by
  have a := wrQ_len 12 s (by omega)
  have b : (wrQ 6 [85, 4, 3]).length = 5 := by decide +kernel
  have c := wrQ_len 48 (wrQ 6 [85, 4, 3] ++ wrQ 12 s) (by rw [List.length_append]; omega)
  have d := wrQ_len 49 (wrQ 48 (wrQ 6 [85, 4, 3] ++ wrQ 12 s)) (by rw [List.length_append] at c; omega)
  have g := wrQ_len 48 (wrQ 49 (wrQ 48 (wrQ 6 [85, 4, 3] ++ wrQ 12 s))) (by rw [List.length_append] at c; omega)
  rw [List.length_append] at c
  unfold nameB
  omega

set_option maxHeartbeats 8000000 in
theorem made_any (s n g : S3) (is ss : ByteArray) (f t : Tm) (e : Nat) (ca code : Bool) (pa us : UInt8) (sb nb gb : List UInt8) (w : World)
    (hS : RB w s.1 s.2.1 sb) (hN : RB w n.1 n.2.1 nb) (hG : RB w g.1 g.2.1 gb) (s1 : s.2.1 ≤ s.2.2) (n1 : n.2.1 ≤ n.2.2) (g1 : g.2.1 ≤ g.2.2)
    (his : is.size ≤ maxLen) (hss : ss.size ≤ maxLen) (hf : f.y < 65536) (ht : t.y < 65536) :
    Calls Try.prog 14 #[.agg (caseC s n g is ss f t e ca code pa us)] w (MadeP w sb nb gb is.data.toList ss.data.toList f t e ca code pa us) := by
  have hl18 := rb_lim hS 18
  have hl600 := rb_lim hN 600
  have HG := Lib.hid hG
  have HS := Lib.hid hS
  have HN := Lib.hid hN
  have HN0 := Lib.hid hN
  have HG0 := Lib.hid hG
  clear hS hN hG
  obtain ⟨CC, HCC⟩ : ∃ CC, Hid (caseC s n g is ss f t e ca code pa us = CC) := ⟨_, Lib.hid rfl⟩
  rw [HCC.out]
  have C0 : Hid (CC[0]? = some (sv s)) := by rw [← HCC.out]; exact Lib.hid rfl
  have C1 : Hid (CC[1]? = some (sv n)) := by rw [← HCC.out]; exact Lib.hid rfl
  have C2 : Hid (CC[2]? = some (sv g)) := by rw [← HCC.out]; exact Lib.hid rfl
  have C3 : Hid (CC[3]? = some (.string is)) := by rw [← HCC.out]; exact Lib.hid rfl
  have C4 : Hid (CC[4]? = some (.string ss)) := by rw [← HCC.out]; exact Lib.hid rfl
  have C17 : Hid (CC[17]? = some (.int .u64 (e : Int))) := by rw [← HCC.out]; exact Lib.hid rfl
  have C18 : Hid (CC[18]? = some (.bool ca)) := by rw [← HCC.out]; exact Lib.hid rfl
  have C19 : Hid (CC[19]? = some (.bool code)) := by rw [← HCC.out]; exact Lib.hid rfl
  have C20 : Hid (CC[20]? = some (.int .u8 (pa.toNat : Int))) := by rw [← HCC.out]; exact Lib.hid rfl
  have C21 : Hid (CC[21]? = some (.int .u8 (us.toNat : Int))) := by rw [← HCC.out]; exact Lib.hid rfl
  go_enter Try.func14, Try.ntmps14
  go_upto_region 2 with (fail)
  refine wp_nm fun w0 hw0 => ?_
  have hbw0 : Below w.heap.size w w0 := by rw [← hw0]; exact kp_alloc (kp_alloc (kp_alloc (Below.refl _ _) _) _) _
  replace HS := Lib.hid (HS.out.below hbw0)
  replace HN := Lib.hid (HN.out.below hbw0)
  replace HG := Lib.hid (HG.out.below hbw0)
  have HK := Lib.hid (show w0.heap[w.heap.size]? = some (.cells CC 28) by rw [← hw0]; exact has_alloc (has_alloc (has_new _ _) _) _)
  have HZ := Lib.hid (show w0.heap[w.heap.size + 1]? = some (.cells cert0 33) by rw [← hw0]; exact has_alloc (has_new' _ _ _ (by simp)) _)
  have HO4 := Lib.hid (show OwnB w0 w.heap.size (some ⟨w.heap.size + 1 + 1, 0, none⟩) 1 1 [1] by
    rw [← hw0]
    have h9 := (own_lit ((w.alloc (.cells CC 28)).alloc (.cells cert0 33)) [1] 1 #[.int .u8 1] rfl rfl (by omega)).lower (base' := w.heap.size) (by simp; omega)
    simp only [World.size_alloc] at h9
    exact h9)
  have HB := Lib.hid hbw0
  clear hw0 hbw0
  have c0 : w0.cell? ⟨w.heap.size, 0, none⟩ = some (sv s) := (Lib.cell_of_heap HK.out 0).trans C0.out
  go_wp2_with fail
  clear c0
  refine (short9_any s.1 s.2.1 s.2.2 sb 18 18 rfl w0 HS.out s1 (by omega)).mono ?_
  rintro e' w1 ⟨A1, m1, c1, rfl, ho, hb⟩
  have HO1 := Lib.hid ho.rb
  have hm1 : m1 ≤ 18 := by rw [← ho.len]; exact hl18
  replace HS := Lib.hid (HS.out.below hb)
  replace HN := Lib.hid (HN.out.below hb)
  replace HG := Lib.hid (HG.out.below hb)
  replace HK := Lib.hid (has_below HK.out hb)
  replace HZ := Lib.hid (has_below HZ.out hb)
  replace HO4 := Lib.hid (HO4.out.below hb (Nat.le_refl _))
  replace HB := Lib.hid (kp_call HB.out hb)
  clear ho hb
  go_wp2_with (at_builtin; refine wpList_apn _ _ rfl rfl rfl w.heap.size _ 1 1 [1] rfl HO4.out A1 m1 c1 _ rfl HO1.out (by omega) HB.out.size ?_)
  intro A4 c4 w2 ho hg
  have HX := Lib.hid (show Below w.heap.size w w2 from HB.out.grown hg HB.out.size (by intro k hk; cases hk; show w.heap.size ≤ w.heap.size + 1 + 1; omega))
  have hne0 : w.heap.size ≠ w.heap.size + 1 + 1 := by omega
  have hne1 : w.heap.size + 1 ≠ w.heap.size + 1 + 1 := by omega
  replace HK := Lib.hid (has_grown HK.out hg hne0)
  replace HZ := Lib.hid (has_grown HZ.out hg hne1)
  replace HO4 := Lib.hid (show OwnB w2 w.heap.size A4 (1 + m1) c4 (1 :: sb.take 18) from ho)
  replace HB := HX
  have hz1 := HB.out.size
  clear HO1 HX ho hg hne0 hne1
  have c1' : w2.cell? ⟨w.heap.size, 1, none⟩ = some (sv n) := (Lib.cell_of_heap HK.out 1).trans C1.out
  go_wp2_with fail
  clear c1'
  refine (short9_any n.1 n.2.1 n.2.2 nb 600 600 rfl w2 (HN0.out.below HB.out) n1 (by omega)).mono ?_
  rintro e' w3 ⟨A3, m3, c3, rfl, ho, hb⟩
  have HO3 := Lib.hid ho
  have hm3 : m3 ≤ 600 := by rw [← ho.len]; exact hl600
  replace HK := Lib.hid (has_below HK.out hb)
  replace HZ := Lib.hid (has_below HZ.out hb)
  replace HO4 := Lib.hid (HO4.out.below hb (Nat.le_refl _))
  replace HB := Lib.hid (kp_call HB.out hb)
  clear ho hb
  go_wp2_with fail
  refine (rputint_any A3 m3 c3 _ w3 HO3.out.rb HO3.out.cap.1 (by omega) (maxLen_i64 HO3.out.cap.2)).mono ?_
  rintro e' w4 ⟨A5, m5, c5, rfl, ho, hb⟩
  have HO5 := Lib.hid ho
  have hm5 : m5 ≤ 601 := by have := putI_len (nb.take 600); have := ho.len; omega
  replace HK := Lib.hid (has_below HK.out hb)
  replace HZ := Lib.hid (has_below HZ.out hb)
  replace HO4 := Lib.hid (HO4.out.below hb (Nat.le_refl _))
  replace HB := Lib.hid (kp_call HB.out hb)
  clear ho hb HO3
  go_wp2_with fail
  refine (rint_any A5 m5 c5 _ w4 HO5.out.rb HO5.out.cap.1 (by omega) (maxLen_i64 HO5.out.cap.2)).mono ?_
  intro e' w5 hp
  obtain ⟨_, _, _, _, hint, _⟩ := putI_case (nb.take 600)
  unfold IntPost at hp
  rw [hint] at hp
  obtain ⟨⟨A6, m6, c6, rfl, ho⟩, hb⟩ := hp
  have HO6 := Lib.hid (show OwnB w5 w.heap.size A6 m6 c6 (nM nb) from ho.lower HB.out.size)
  clear hint ho
  replace HK := Lib.hid (has_below HK.out hb)
  replace HZ := Lib.hid (has_below HZ.out hb)
  replace HO4 := Lib.hid (HO4.out.below hb (Nat.le_refl _))
  replace HB := Lib.hid (kp_call HB.out hb)
  clear hb HO5
  go_upto_region 4 with (fail)
  have hnis : is.data.toList.length = is.size := by simp
  have hnss : ss.data.toList.length = ss.size := by simp
  have hli : (is.data.toList.take 200).length ≤ 200 := by rw [List.length_take]; omega
  have hls : (ss.data.toList.take 200).length ≤ 200 := by rw [List.length_take]; omega
  have HLI := Lib.hid hli
  have HLS := Lib.hid hls
  have HGL := Lib.hid (show ∀ W, Below w.heap.size w W → RB W g.1 g.2.1 gb from fun W h => HG0.out.below h)
  have ZF : Hid (∀ W, Below w5.heap.size w5 W → W.rangeAt w.heap.size 5 f.cells.toList ∧ W.rangeAt w.heap.size 11 t.cells.toList) := Lib.hid (fun W hW => case_rng (by have h9 := has_below HK.out hW; rw [← HCC.out] at h9; exact h9))
  clear hli hls hnis hnss
  refine wp_region_monoT (by kernel_rfl) (by kernel_rfl) [22, 23, 24, 25, 26, 27, 28, 29, 30, 31, 32, 33, 34, 35, 36, 37, 38, 39, 40, 41, 42, 43, 44, 45, 46, 47, 48, 49, 50, 51, 52, 7] (by rfl) (by decide) (by decide) (by rfl) (fun j => ([MR.eq (.pointer (some ⟨w.heap.size, 3, none⟩)), MR.eq (.string is), MR.rb (is.data.toList), MR.own (w.heap.size) (is.data.toList.take 200), MR.eq (.string ⟨(is.data.toList.take 200).toArray⟩), MR.own (w.heap.size) (nameB (is.data.toList.take 200)), MR.eq (.pointer (some ⟨w.heap.size, 4, none⟩)), MR.eq (.string ss), MR.rb (ss.data.toList), MR.own (w.heap.size) (ss.data.toList.take 200), MR.eq (.string ⟨(ss.data.toList.take 200).toArray⟩), MR.own (w.heap.size) (nameB (ss.data.toList.take 200)), MR.eq (.slice A4 (1 + m1) c4), MR.own (w.heap.size) (serM sb), MR.eq (.pointer (some ⟨w.heap.size, 5, none⟩)), MR.eq (tmV f), MR.eq (.pointer (some ⟨w.heap.size, 11, none⟩)), MR.eq (tmV t), MR.eq (.slice A6 m6 c6), MR.eq (.pointer (some ⟨w.heap.size, 17, none⟩)), MR.eq (.int .u64 (e : Int)), MR.eq (.int .u64 ((e % 8589934592 : Nat) : Int)), MR.eq (.agg #[.slice A6 m6 c6, .int .u64 ((e % 8589934592 : Nat) : Int)]), MR.eq (.pointer (some ⟨w.heap.size, 2, none⟩)), MR.eq (sv g), MR.own (w.heap.size) (gb.take 600), MR.eq (.pointer (some ⟨w.heap.size, 18, none⟩)), MR.eq (.bool ca), MR.eq (.pointer (some ⟨w.heap.size, 19, none⟩)), MR.eq (.bool code), MR.cert (w.heap.size) f t (e % 8589934592) ⟨ca, -1, -1, code⟩ (nameB (is.data.toList.take 200)) (nameB (ss.data.toList.take 200)) (serM sb) (nM nb) (gb.take 600), MR.fresh0 (w5.heap.size)] : List MR).getD j MR.any) [] [[], [0], [0, 1], [0, 1, 2], [0, 1, 2, 3], [0, 1, 2, 3, 4], [], [6], [6, 7], [6, 7, 8], [6, 7, 8, 9], [6, 7, 8, 9, 10], [], [12], [], [14], [], [16], [], [], [19], [19, 20], [18, 19, 20, 21], [], [23], [23, 24], [], [26], [], [28], [0, 1, 2, 3, 4, 5, 6, 7, 8, 9, 10, 11, 12, 13, 14, 15, 16, 17, 18, 19, 20, 21, 22, 23, 24, 25, 26, 27, 28, 29], [], [0, 1, 2, 3, 4, 5, 6, 7, 8, 9, 10, 11, 12, 13, 14, 15, 16, 17, 18, 19, 20, 21, 22, 23, 24, 25, 26, 27, 28, 29, 30, 31]] (by kernel_rfl) (by kernel_rfl) (by kernel_rfl) [_] rfl ?_ ?_
  · intro i hi ρ W E
    simp only [List.length_cons, List.length_nil] at hi
    have hbW : w.heap.size ≤ W.heap.size := Nat.le_trans HB.out.size E.up.size
    rcases (show i = 0 ∨ i = 1 ∨ i = 2 ∨ i = 3 ∨ i = 4 ∨ i = 5 ∨ i = 6 ∨ i = 7 ∨ i = 8 ∨ i = 9 ∨ i = 10 ∨ i = 11 ∨ i = 12 ∨ i = 13 ∨ i = 14 ∨ i = 15 ∨ i = 16 ∨ i = 17 ∨ i = 18 ∨ i = 19 ∨ i = 20 ∨ i = 21 ∨ i = 22 ∨ i = 23 ∨ i = 24 ∨ i = 25 ∨ i = 26 ∨ i = 27 ∨ i = 28 ∨ i = 29 ∨ i = 30 ∨ i = 31 by omega) with rfl | rfl | rfl | rfl | rfl | rfl | rfl | rfl | rfl | rfl | rfl | rfl | rfl | rfl | rfl | rfl | rfl | rfl | rfl | rfl | rfl | rfl | rfl | rfl | rfl | rfl | rfl | rfl | rfl | rfl | rfl | rfl
    · -- 0: fieldAddr 28 t1 3
      refine mono_at (by rfl) rfl ?_
      have e1 : ρ (.tmp 1) = .pointer (some ⟨w.heap.size, 0, none⟩) := E.old 1 rfl
      exact mo_field (j' := 3) rfl e1 (fun w => by kernel_rfl) ⟨Below.refl _ _, rfl⟩
    · -- 1: load 9 t22
      refine mono_at (by rfl) rfl ?_
      have e22 : ρ (.tmp 22) = .pointer (some ⟨w.heap.size, 3, none⟩) := E.dep 0 (by kernel_rfl)
      exact mo_load1 rfl e22 (((Lib.cell_of_heap (has_below HK.out E.up) 3).trans C3.out)) (fun w => by kernel_rfl) ⟨Below.refl _ _, rfl⟩
    · -- 2: convert 9 22 t23
      refine mono_at (by rfl) rfl ?_
      have e23 : ρ (.tmp 23) = .string is := E.dep 1 (by kernel_rfl)
      exact mo_sbytes rfl e23 his
    · -- 3: call { value (Operand.func 32), args := #[t24, const (200:i6
      refine mono_at (by rfl) rfl ?_
      obtain ⟨A24, n24, c24, e24, o24, q24⟩ : (MR.rb (is.data.toList)).p (ρ (.tmp 24)) W := E.dep 2 (by kernel_rfl)
      refine mo_call rfl (E.fn _) (fun _ _ => by kernel_rfl) (args := #[.slice A24 n24 c24, .int .i64 200]) (by simp only [List.map_toArray, List.map_cons, List.map_nil, List.length_cons, List.length_nil, Nat.reduceAdd, E.cst, e24]) ?_
      exact fresh_own (short9_any _ _ _ _ 200 200 rfl W o24 q24.1 (by omega)) hbW
    · -- 4: convert 22 9 t25
      refine mono_at (by rfl) rfl ?_
      obtain ⟨A25, n25, c25, e25, o25⟩ : (MR.own (w.heap.size) (is.data.toList.take 200)).p (ρ (.tmp 25)) W := E.dep 3 (by kernel_rfl)
      exact mo_conv rfl e25 (run_bstring o25.rb) ⟨Below.refl _ _, rfl⟩
    · -- 5: call { value (Operand.func 33), args := #[t26], argTypes := 
      refine mono_at (by rfl) rfl ?_
      have e26 : ρ (.tmp 26) = .string ⟨(is.data.toList.take 200).toArray⟩ := E.dep 4 (by kernel_rfl)
      refine mo_call rfl (E.fn _) (fun _ _ => by kernel_rfl) (args := #[.string ⟨(is.data.toList.take 200).toArray⟩]) (by simp only [List.map_toArray, List.map_cons, List.map_nil, List.length_cons, List.length_nil, Nat.reduceAdd, E.cst, e26]) ?_
      exact fresh_own (name_any ⟨(is.data.toList.take 200).toArray⟩ W (by show (is.data.toList.take 200).length ≤ 1000; have := HLI.out; omega)) hbW
    · -- 6: fieldAddr 28 t1 4
      refine mono_at (by rfl) rfl ?_
      have e1 : ρ (.tmp 1) = .pointer (some ⟨w.heap.size, 0, none⟩) := E.old 1 rfl
      exact mo_field (j' := 4) rfl e1 (fun w => by kernel_rfl) ⟨Below.refl _ _, rfl⟩
    · -- 7: load 9 t28
      refine mono_at (by rfl) rfl ?_
      have e28 : ρ (.tmp 28) = .pointer (some ⟨w.heap.size, 4, none⟩) := E.dep 6 (by kernel_rfl)
      exact mo_load1 rfl e28 (((Lib.cell_of_heap (has_below HK.out E.up) 4).trans C4.out)) (fun w => by kernel_rfl) ⟨Below.refl _ _, rfl⟩
    · -- 8: convert 9 22 t29
      refine mono_at (by rfl) rfl ?_
      have e29 : ρ (.tmp 29) = .string ss := E.dep 7 (by kernel_rfl)
      exact mo_sbytes rfl e29 hss
    · -- 9: call { value (Operand.func 32), args := #[t30, const (200:i6
      refine mono_at (by rfl) rfl ?_
      obtain ⟨A30, n30, c30, e30, o30, q30⟩ : (MR.rb (ss.data.toList)).p (ρ (.tmp 30)) W := E.dep 8 (by kernel_rfl)
      refine mo_call rfl (E.fn _) (fun _ _ => by kernel_rfl) (args := #[.slice A30 n30 c30, .int .i64 200]) (by simp only [List.map_toArray, List.map_cons, List.map_nil, List.length_cons, List.length_nil, Nat.reduceAdd, E.cst, e30]) ?_
      exact fresh_own (short9_any _ _ _ _ 200 200 rfl W o30 q30.1 (by omega)) hbW
    · -- 10: convert 22 9 t31
      refine mono_at (by rfl) rfl ?_
      obtain ⟨A31, n31, c31, e31, o31⟩ : (MR.own (w.heap.size) (ss.data.toList.take 200)).p (ρ (.tmp 31)) W := E.dep 9 (by kernel_rfl)
      exact mo_conv rfl e31 (run_bstring o31.rb) ⟨Below.refl _ _, rfl⟩
    · -- 11: call { value (Operand.func 33), args := #[t32], argTypes := 
      refine mono_at (by rfl) rfl ?_
      have e32 : ρ (.tmp 32) = .string ⟨(ss.data.toList.take 200).toArray⟩ := E.dep 10 (by kernel_rfl)
      refine mo_call rfl (E.fn _) (fun _ _ => by kernel_rfl) (args := #[.string ⟨(ss.data.toList.take 200).toArray⟩]) (by simp only [List.map_toArray, List.map_cons, List.map_nil, List.length_cons, List.length_nil, Nat.reduceAdd, E.cst, e32]) ?_
      exact fresh_own (name_any ⟨(ss.data.toList.take 200).toArray⟩ W (by show (ss.data.toList.take 200).length ≤ 1000; have := HLS.out; omega)) hbW
    · -- 12: move t4
      refine mono_at (by rfl) rfl ?_
      have e4 : ρ (.tmp 4) = .slice A4 (1 + m1) c4 := E.old 4 rfl
      exact mo_move rfl ⟨Below.refl _ _, e4⟩
    · -- 13: call { value (Operand.func 27), args := #[t34], argTypes := 
      refine mono_at (by rfl) rfl ?_
      have e34 : ρ (.tmp 34) = .slice A4 (1 + m1) c4 := E.dep 12 (by kernel_rfl)
      refine mo_call rfl (E.fn _) (fun _ _ => by kernel_rfl) (args := #[.slice A4 (1 + m1) c4]) (by simp only [List.map_toArray, List.map_cons, List.map_nil, List.length_cons, List.length_nil, Nat.reduceAdd, E.cst, e34]) ?_
      exact putintM (HO4.out.rb.below E.up) HO4.out.cap.1 HO4.out.cap.2 (by simp only [List.length_cons]; omega) hbW
    · -- 14: fieldAddr 28 t1 5
      refine mono_at (by rfl) rfl ?_
      have e1 : ρ (.tmp 1) = .pointer (some ⟨w.heap.size, 0, none⟩) := E.old 1 rfl
      exact mo_field (j' := 5) rfl e1 (fun w => by kernel_rfl) ⟨Below.refl _ _, rfl⟩
    · -- 15: load 25 t36
      refine mono_at (by rfl) rfl ?_
      have e36 : ρ (.tmp 36) = .pointer (some ⟨w.heap.size, 5, none⟩) := E.dep 14 (by kernel_rfl)
      exact mo_loadm rfl e36 ((ZF.out _ E.up).1) Try.underlying25 rfl (by kernel_rfl) ⟨Below.refl _ _, rfl⟩
    · -- 16: fieldAddr 28 t1 6
      refine mono_at (by rfl) rfl ?_
      have e1 : ρ (.tmp 1) = .pointer (some ⟨w.heap.size, 0, none⟩) := E.old 1 rfl
      exact mo_field (j' := 11) rfl e1 (fun w => by kernel_rfl) ⟨Below.refl _ _, rfl⟩
    · -- 17: load 25 t38
      refine mono_at (by rfl) rfl ?_
      have e38 : ρ (.tmp 38) = .pointer (some ⟨w.heap.size, 11, none⟩) := E.dep 16 (by kernel_rfl)
      exact mo_loadm rfl e38 ((ZF.out _ E.up).2) Try.underlying25 rfl (by kernel_rfl) ⟨Below.refl _ _, rfl⟩
    · -- 18: move t5
      refine mono_at (by rfl) rfl ?_
      have e5 : ρ (.tmp 5) = .slice A6 m6 c6 := E.old 5 rfl
      exact mo_move rfl ⟨Below.refl _ _, e5⟩
    · -- 19: fieldAddr 28 t1 7
      refine mono_at (by rfl) rfl ?_
      have e1 : ρ (.tmp 1) = .pointer (some ⟨w.heap.size, 0, none⟩) := E.old 1 rfl
      exact mo_field (j' := 17) rfl e1 (fun w => by kernel_rfl) ⟨Below.refl _ _, rfl⟩
    · -- 20: load 26 t41
      refine mono_at (by rfl) rfl ?_
      have e41 : ρ (.tmp 41) = .pointer (some ⟨w.heap.size, 17, none⟩) := E.dep 19 (by kernel_rfl)
      exact mo_load1 rfl e41 (((Lib.cell_of_heap (has_below HK.out E.up) 17).trans C17.out)) (fun w => by kernel_rfl) ⟨Below.refl _ _, rfl⟩
    · -- 21: binOp BinOp.rem 26 t42 (const (8589934592:u64)) 26
      refine mono_at (by rfl) rfl ?_
      have e42 : ρ (.tmp 42) = .int .u64 (e : Int) := E.dep 20 (by kernel_rfl)
      exact mo_bin rfl (fun _ _ => rfl) e42 (E.cst _) (run_rem33 e) ⟨Below.refl _ _, rfl⟩
    · -- 22: build 31 #[(0, t40), (1, t43)]
      refine mono_at (by rfl) rfl ?_
      have e40 : ρ (.tmp 40) = .slice A6 m6 c6 := E.dep 18 (by kernel_rfl)
      have e43 : ρ (.tmp 43) = .int .u64 ((e % 8589934592 : Nat) : Int) := E.dep 21 (by kernel_rfl)
      exact mo_struct rfl (vs := #[(0, .slice A6 m6 c6), (1, .int .u64 ((e % 8589934592 : Nat) : Int))]) (by simp only [List.map_toArray, List.map_cons, List.map_nil, e40, e43]) (run_key A6 m6 c6 _) ⟨Below.refl _ _, rfl⟩
    · -- 23: fieldAddr 28 t1 2
      refine mono_at (by rfl) rfl ?_
      have e1 : ρ (.tmp 1) = .pointer (some ⟨w.heap.size, 0, none⟩) := E.old 1 rfl
      exact mo_field (j' := 2) rfl e1 (fun w => by kernel_rfl) ⟨Below.refl _ _, rfl⟩
    · -- 24: load 22 t45
      refine mono_at (by rfl) rfl ?_
      have e45 : ρ (.tmp 45) = .pointer (some ⟨w.heap.size, 2, none⟩) := E.dep 23 (by kernel_rfl)
      exact mo_load1 rfl e45 (((Lib.cell_of_heap (has_below HK.out E.up) 2).trans C2.out)) (fun w => by kernel_rfl) ⟨Below.refl _ _, rfl⟩
    · -- 25: call { value (Operand.func 32), args := #[t46, const (600:i6
      refine mono_at (by rfl) rfl ?_
      have e46 : ρ (.tmp 46) = sv g := E.dep 24 (by kernel_rfl)
      refine mo_call rfl (E.fn _) (fun _ _ => by kernel_rfl) (args := #[sv g, .int .i64 600]) (by simp only [List.map_toArray, List.map_cons, List.map_nil, List.length_cons, List.length_nil, Nat.reduceAdd, E.cst, e46]) ?_
      exact fresh_own (short9_any g.1 g.2.1 g.2.2 gb 600 600 rfl W (HGL.out W (HB.out.trans (E.up.mono HB.out.size))) g1 (by omega)) hbW
    · -- 26: fieldAddr 28 t1 8
      refine mono_at (by rfl) rfl ?_
      have e1 : ρ (.tmp 1) = .pointer (some ⟨w.heap.size, 0, none⟩) := E.old 1 rfl
      exact mo_field (j' := 18) rfl e1 (fun w => by kernel_rfl) ⟨Below.refl _ _, rfl⟩
    · -- 27: load 4 t48
      refine mono_at (by rfl) rfl ?_
      have e48 : ρ (.tmp 48) = .pointer (some ⟨w.heap.size, 18, none⟩) := E.dep 26 (by kernel_rfl)
      exact mo_load1 rfl e48 (((Lib.cell_of_heap (has_below HK.out E.up) 18).trans C18.out)) (fun w => by kernel_rfl) ⟨Below.refl _ _, rfl⟩
    · -- 28: fieldAddr 28 t1 9
      refine mono_at (by rfl) rfl ?_
      have e1 : ρ (.tmp 1) = .pointer (some ⟨w.heap.size, 0, none⟩) := E.old 1 rfl
      exact mo_field (j' := 19) rfl e1 (fun w => by kernel_rfl) ⟨Below.refl _ _, rfl⟩
    · -- 29: load 4 t50
      refine mono_at (by rfl) rfl ?_
      have e50 : ρ (.tmp 50) = .pointer (some ⟨w.heap.size, 19, none⟩) := E.dep 28 (by kernel_rfl)
      exact mo_load1 rfl e50 (((Lib.cell_of_heap (has_below HK.out E.up) 19).trans C19.out)) (fun w => by kernel_rfl) ⟨Below.refl _ _, rfl⟩
    · -- 30: build 33 #[(2, t27), (3, t33), (4, t35), (5, t37), (6, t39),
      refine mono_at (by rfl) rfl ?_
      obtain ⟨A27, n27, c27, e27, o27⟩ : (MR.own (w.heap.size) (nameB (is.data.toList.take 200))).p (ρ (.tmp 27)) W := E.dep 5 (by kernel_rfl)
      obtain ⟨A33, n33, c33, e33, o33⟩ : (MR.own (w.heap.size) (nameB (ss.data.toList.take 200))).p (ρ (.tmp 33)) W := E.dep 11 (by kernel_rfl)
      obtain ⟨A35, n35, c35, e35, o35⟩ : (MR.own (w.heap.size) (serM sb)).p (ρ (.tmp 35)) W := E.dep 13 (by kernel_rfl)
      have e37 : ρ (.tmp 37) = tmV f := E.dep 15 (by kernel_rfl)
      have e39 : ρ (.tmp 39) = tmV t := E.dep 17 (by kernel_rfl)
      have e44 : ρ (.tmp 44) = .agg #[.slice A6 m6 c6, .int .u64 ((e % 8589934592 : Nat) : Int)] := E.dep 22 (by kernel_rfl)
      obtain ⟨A47, n47, c47, e47, o47⟩ : (MR.own (w.heap.size) (gb.take 600)).p (ρ (.tmp 47)) W := E.dep 25 (by kernel_rfl)
      have e49 : ρ (.tmp 49) = .bool ca := E.dep 27 (by kernel_rfl)
      have e51 : ρ (.tmp 51) = .bool code := E.dep 29 (by kernel_rfl)
      exact mo_struct rfl (vs := #[(2, sv (A27, n27, c27)), (3, sv (A33, n33, c33)), (4, sv (A35, n35, c35)), (5, tmV f), (6, tmV t), (7, .agg #[sv (A6, m6, c6), .int .u64 ((e % 8589934592 : Nat) : Int)]), (8, sv (A47, n47, c47)), (9, .bool ca), (10, .int .i64 (-1)), (11, .int .i64 (-1)), (12, .bool code)]) (by simp only [List.map_toArray, List.map_cons, List.map_nil, E.cst, e27, e33, e35, e37, e39, e44, e47, e49, e51]) (run_cert (A27, n27, c27) (A33, n33, c33) (A35, n35, c35) (A6, m6, c6) (A47, n47, c47) f t (e % 8589934592) ca code) ⟨Below.refl _ _, _, _, _, _, _, rfl, ⟨o27, o33, o35, HO6.out.below E.up (Nat.le_refl _), o47⟩⟩
    · -- 31: alloc 33
      refine mono_at (by rfl) rfl ?_
      exact mo_alloc rfl run_alloc0 ⟨kp_alloc (Below.refl _ _) _, _, rfl, E.up.size, has_new _ _⟩
  · intro u W hbU hR
    obtain ⟨issu52, subu52, seru52, nnu52, sigu52, eu52, Mu52⟩ : (MR.cert (w.heap.size) f t (e % 8589934592) ⟨ca, -1, -1, code⟩ (nameB (is.data.toList.take 200)) (nameB (ss.data.toList.take 200)) (serM sb) (nM nb) (gb.take 600)).p (u 30) W := hR 30 (by decide)
    obtain ⟨gu7, eu7, Lu7, Zu7⟩ : (MR.fresh0 (w5.heap.size)).p (u 31) W := hR 31 (by decide)
    clear hR
    simp only [lay, Nat.reduceAdd, List.setIfInBounds_toArray, List.set_cons_zero, List.set_cons_succ, eu52, eu7]
    clear eu52 eu7
    have LC := Lib.hid (Nat.le_trans HB.out.size Lu7)
    have LC1 := Lib.hid (show w.heap.size + 1 ≠ gu7 by have := block_lt HZ.out; omega)
    have LC0 := Lib.hid (show w.heap.size ≠ gu7 by have := block_lt HK.out; omega)
    have ZC := Lib.hid Zu7
    have M := Lib.hid Mu52
    clear Lu7 Zu7 Mu52 HO4 HO6
    replace HK := Lib.hid (has_below HK.out hbU)
    replace HZ := Lib.hid (has_below HZ.out hbU)
    replace HB := Lib.hid (kp_call HB.out hbU)
    clear hbU ZF HS HN HG
    obtain ⟨DC, HDC⟩ : ∃ DC, Hid (certC n0S n0S issu52 subu52 seru52 f t nnu52 (e % 8589934592) sigu52 ⟨ca, -1, -1, code⟩ = DC) := ⟨_, Lib.hid rfl⟩
    rw [HDC.out]
    have HSZ : Hid (DC.size = 24) := by rw [← HDC.out]; exact Lib.hid rfl
    have HALL : Hid (DC.all (·.oneCell') = true) := by rw [← HDC.out]; exact Lib.hid (certC_one ..)
    have HIN : Hid ((Try.prog.info? 33).map (·.size) = some DC.size) := by rw [← HDC.out]; exact Lib.hid (certC_info ..)
    refine wpList_store_row rfl _ _ _ rfl gu7 DC rfl rfl _ _ ZC.out HIN.out (by rw [HSZ.out]; rfl) HALL.out ?_
    refine wpList_nil ?_
    go_upto_region 5 with (fail)
    refine wp_nm fun w6 hw6 => ?_
    have hgr : W.grownBy w6 (some gu7) := by rw [← hw6]; exact grown_row ..
    have HC := Lib.hid (show w6.heap[gu7]? = some (.cells (certC n0S n0S issu52 subu52 seru52 f t nnu52 (e % 8589934592) sigu52 ⟨ca, -1, -1, code⟩) 33) by rw [← hw6, HDC.out]; exact setRow_heap _ _ _ _ _ _ ZC.out)
    replace M := Lib.hid (M.out.kept hgr ZC.out)
    replace HK := Lib.hid (has_grown HK.out hgr LC0.out)
    replace HZ := Lib.hid (has_grown HZ.out hgr LC1.out)
    replace HB := Lib.hid (kp_grown HB.out hgr LC.out)
    clear hw6 hgr ZC HDC HSZ HALL HIN
    go_wp2_with (refine wpList_load_mid rfl _ _ rfl gu7 5 rfl f.cells.toList _ (cert_rng HC.out).1 Try.underlying25 rfl (by kernel_rfl) ?_)
    refine (refRight_any f w6 hf).mono ?_
    rintro e' w7 ⟨rfl, hb⟩
    replace M := Lib.hid (M.out.call hb)
    replace HK := Lib.hid (has_below HK.out hb)
    replace HZ := Lib.hid (has_below HZ.out hb)
    replace HB := Lib.hid (kp_call HB.out hb)
    replace HC := Lib.hid (has_below HC.out hb)
    clear hb
    go_upto_if 56 with (fail)
    go_cut [56] from 53 (fun v wx => Hid (w7.grownBy wx (some gu7)) ∧ Hid (wx.heap[gu7]? = some (.cells (certC n0S n0S issu52 subu52 seru52 (fM f) t nnu52 (e % 8589934592) sigu52 ⟨ca, -1, -1, code⟩) 33)))
    case first =>
      as_aux_lemma =>
      cases hrt : rightB f with
      | true =>
        go_wp2
        go_meet
        exact ⟨Lib.hid (World.grownBy.refl _ _), Lib.hid (by unfold fM; rw [hrt]; exact HC.out)⟩
      | false =>
        go_wp2_with (refine wpList_store_mid rfl _ _ _ rfl gu7 5 t2020.cells rfl rfl (cert_there HC.out (by decide)) (by kernel_rfl) (by simp [t2020, Tm.cells, Value.oneCell']) ?_)
        go_meet
        exact ⟨Lib.hid (grown_cells ..), Lib.hid (by unfold fM; rw [hrt]; exact cert_setF t2020 HC.out)⟩
    obtain ⟨hgr, HC2⟩ := hcut
    obtain ⟨w8, rfl⟩ : ∃ x, x = wc := ⟨_, rfl⟩
    replace M := Lib.hid (M.out.kept hgr.out HC.out)
    replace HK := Lib.hid (has_grown HK.out hgr.out LC0.out)
    replace HZ := Lib.hid (has_grown HZ.out hgr.out LC1.out)
    replace HB := Lib.hid (kp_grown HB.out hgr.out LC.out)
    replace HC := HC2
    clear hgr HC2
    have hfy := fM_y f hf
    go_upto_region 7 with (fail)
    go_cut [69] from 59 (fun v wx => v = .bool (tB f t) ∧ Hid (Below w8.heap.size w8 wx))
    case first =>
      as_aux_lemma =>
      go_wp2_with (refine wpList_load_mid rfl _ _ rfl gu7 11 rfl t.cells.toList _ (cert_rng HC.out).2 Try.underlying25 rfl (by kernel_rfl) ?_)
      refine (refRight_any t w8 ht).mono ?_
      rintro e' w9 ⟨rfl, hb⟩
      have HC9 := Lib.hid (has_below HC.out hb)
      cases hrt : rightB t with
      | false =>
        go_wp2
        go_meet
        exact ⟨by simp [tB, hrt], Lib.hid hb⟩
      | true =>
        go_wp2_with (first | (refine wpList_load_midG9 rfl _ _ rfl gu7 11 rfl t.cells.toList _ (cert_rng HC9.out).2 Try.underlying25 rfl (by kernel_rfl) ?_) | (refine wpList_load_midG9 rfl _ _ rfl gu7 5 rfl (fM f).cells.toList _ (cert_rng HC9.out).1 Try.underlying25 rfl (by kernel_rfl) ?_))
        refine (refLess_any t (fM f) w9 ht hfy).mono ?_
        rintro e' w10 ⟨rfl, hb2⟩
        have HB10 := Lib.hid (hb.trans (hb2.mono hb.size))
        clear hb hb2
        go_wp2
        go_meet
        exact ⟨by simp [tB, hrt], HB10⟩
    obtain ⟨rfl, hbW⟩ := hcut
    obtain ⟨w9, rfl⟩ : ∃ x, x = wc := ⟨_, rfl⟩
    replace M := Lib.hid (M.out.call hbW.out)
    replace HK := Lib.hid (has_below HK.out hbW.out)
    replace HZ := Lib.hid (has_below HZ.out hbW.out)
    replace HB := Lib.hid (kp_call HB.out hbW.out)
    replace HC := Lib.hid (has_below HC.out hbW.out)
    clear hbW
    go_upto_if 69 with (fail)
    go_cut [69] from 59 (fun v wx => Hid (w9.grownBy wx (some gu7)) ∧ Hid (wx.heap[gu7]? = some (.cells (certC n0S n0S issu52 subu52 seru52 (fM f) (tM f t) nnu52 (e % 8589934592) sigu52 ⟨ca, -1, -1, code⟩) 33)))
    case first =>
      as_aux_lemma =>
      cases hrt : tB f t with
      | false =>
        go_wp2
        go_meet
        exact ⟨Lib.hid (World.grownBy.refl _ _), Lib.hid (by rw [tM_yes f t hrt]; exact HC.out)⟩
      | true =>
        go_wp2_with (first | (refine wpList_load_mid rfl _ _ rfl gu7 5 rfl (fM f).cells.toList _ (cert_rng HC.out).1 Try.underlying25 rfl (by kernel_rfl) ?_) | (refine wpList_store_mid rfl _ _ _ rfl gu7 11 (fM f).cells rfl rfl (cert_there HC.out (by show 11 + 6 ≤ 24; decide)) (by kernel_rfl) (by simp [Tm.cells, Value.oneCell']) ?_))
        go_meet
        exact ⟨Lib.hid (grown_cells ..), Lib.hid (by rw [tM_no f t hrt]; exact cert_setT (fM f) HC.out)⟩
    obtain ⟨hgr, HC2⟩ := hcut
    obtain ⟨w10, rfl⟩ : ∃ x, x = wc := ⟨_, rfl⟩
    replace M := Lib.hid (M.out.kept hgr.out HC.out)
    replace HK := Lib.hid (has_grown HK.out hgr.out LC0.out)
    replace HZ := Lib.hid (has_grown HZ.out hgr.out LC1.out)
    replace HB := Lib.hid (kp_grown HB.out hgr.out LC.out)
    replace HC := HC2
    clear hgr HC2
    have c18 : w10.cell? ⟨w.heap.size, 18, none⟩ = some (.bool ca) := (Lib.cell_of_heap HK.out 18).trans C18.out
    have c20 : w10.cell? ⟨w.heap.size, 20, none⟩ = some (.int .u8 (pa.toNat : Int)) := (Lib.cell_of_heap HK.out 20).trans C20.out
    go_upto_region 9 with (fail)
    go_cut [79] from 73 (fun v wx => v = .bool (ca && decide (0 < pa.toNat)) ∧ w10 = wx)
    case first =>
      as_aux_lemma =>
      cases ca with
      | false =>
        go_wp2
        go_meet
        exact ⟨rfl, rfl⟩
      | true =>
        obtain h0 | h0 : pa.toNat = 0 ∨ 0 < pa.toNat := by omega
        · have q1 : decide ((0 : Int) < (pa.toNat : Int)) = false := decide_eq_false (by omega)
          have q2 : decide (0 < pa.toNat) = false := decide_eq_false (by omega)
          clear h0
          go_wp2
          go_meet
          exact ⟨by rw [q2]; rfl, rfl⟩
        · have q1 : decide ((0 : Int) < (pa.toNat : Int)) = true := decide_eq_true (by omega)
          have q2 : decide (0 < pa.toNat) = true := decide_eq_true (by omega)
          go_wp2
          go_meet
          exact ⟨by rw [q2]; rfl, rfl⟩
    obtain ⟨rfl, hwc⟩ := hcut
    subst hwc
    go_upto_if 79 with (fail)
    go_cut [79] from 73 (fun v wx => Hid (w10.grownBy wx (some gu7)) ∧ Hid (wx.heap[gu7]? = some (.cells (certC n0S n0S issu52 subu52 seru52 (fM f) (tM f t) nnu52 (e % 8589934592) sigu52 ⟨ca, pathI (pathM ca pa), -1, code⟩) 33)))
    case first =>
      as_aux_lemma =>
      cases hc : (ca && decide (0 < pa.toNat)) with
      | false =>
        have hp : pathM ca pa = none := by
          unfold pathM
          rw [if_neg]
          rintro ⟨h1, h2⟩
          rw [h1, decide_eq_true h2] at hc
          cases hc
        have HPQ := Lib.hid hp
        clear hp
        go_wp2
        go_meet
        exact ⟨Lib.hid (World.grownBy.refl _ _), Lib.hid (by rw [HPQ.out]; exact HC.out)⟩
      | true =>
        have hp0 : ca = true ∧ 0 < pa.toNat := by
          rw [Bool.and_eq_true] at hc
          exact ⟨hc.1, of_decide_eq_true hc.2⟩
        have HPQ : Hid (pathI (pathM ca pa) = (pa.toNat : Int) - 1) := Lib.hid (by unfold pathM; rw [if_pos hp0]; exact pathM_int pa hp0.2)
        have h21 : w10.cell? ⟨gu7, 21, none⟩ = some (.int .i64 (-1)) := Lib.cell_of_heap HC.out 21
        have f21 : w10.frozen? ⟨gu7, 21, none⟩ = false := Lib.frozen_of_heap HC.out 21
        have hbp := pa.toNat_lt
        have hp1 := hp0.2
        clear hp0
        clear hc
        go_wp2
        go_meet
        exact ⟨Lib.hid (grown_one ..), Lib.hid (by rw [HPQ.out]; exact cert_setP _ HC.out)⟩
    clear c18 c20
    obtain ⟨hgr, HC2⟩ := hcut
    obtain ⟨w11, rfl⟩ : ∃ x, x = wc := ⟨_, rfl⟩
    replace M := Lib.hid (M.out.kept hgr.out HC.out)
    replace HK := Lib.hid (has_grown HK.out hgr.out LC0.out)
    replace HZ := Lib.hid (has_grown HZ.out hgr.out LC1.out)
    replace HB := Lib.hid (kp_grown HB.out hgr.out LC.out)
    replace HC := HC2
    clear hgr HC2
    have c21 : w11.cell? ⟨w.heap.size, 21, none⟩ = some (.int .u8 (us.toNat : Int)) := (Lib.cell_of_heap HK.out 21).trans C21.out
    go_upto_region 11 with (fail)
    go_cut [87] from 85 (fun v wx => v = .bool (decide (0 < us.toNat)) ∧ w11 = wx)
    case first =>
      as_aux_lemma =>
      obtain h0 | h0 : us.toNat = 0 ∨ 0 < us.toNat := by omega
      · have q1 : decide ((0 : Int) < (us.toNat : Int)) = false := decide_eq_false (by omega)
        have q2 : decide (0 < us.toNat) = false := decide_eq_false (by omega)
        clear h0
        go_wp2
        go_meet
        exact ⟨by rw [q2], rfl⟩
      · have q1 : decide ((0 : Int) < (us.toNat : Int)) = true := decide_eq_true (by omega)
        have q2 : decide (0 < us.toNat) = true := decide_eq_true (by omega)
        go_wp2
        go_meet
        exact ⟨by rw [q2], rfl⟩
    obtain ⟨rfl, hwc⟩ := hcut
    subst hwc
    go_upto_if 87 with (fail)
    go_cut [87] from 85 (fun v wx => Hid (w11.grownBy wx (some gu7)) ∧ Hid (wx.heap[gu7]? = some (.cells (certC n0S n0S issu52 subu52 seru52 (fM f) (tM f t) nnu52 (e % 8589934592) sigu52 ⟨ca, pathI (pathM ca pa), usI (usM us), code⟩) 33)))
    case first =>
      as_aux_lemma =>
      cases hc : decide (0 < us.toNat) with
      | false =>
        have HPQ := Lib.hid (show usM us = none by unfold usM; rw [if_neg (of_decide_eq_false hc)])
        go_wp2
        go_meet
        exact ⟨Lib.hid (World.grownBy.refl _ _), Lib.hid (by rw [HPQ.out]; exact HC.out)⟩
      | true =>
        have HPQ : Hid (usI (usM us) = 2 * (us.toNat : Int) + (us.toNat : Int) % 2) := Lib.hid (by unfold usM; rw [if_pos (of_decide_eq_true hc)]; simp only [usI]; omega)
        have h22 : w11.cell? ⟨gu7, 22, none⟩ = some (.int .i64 (-1)) := Lib.cell_of_heap HC.out 22
        have f22 : w11.frozen? ⟨gu7, 22, none⟩ = false := Lib.frozen_of_heap HC.out 22
        have hbp := us.toNat_lt
        clear hc
        go_wp2
        go_meet
        exact ⟨Lib.hid (grown_one ..), Lib.hid (by rw [HPQ.out]; exact cert_setU _ HC.out)⟩
    clear c21
    obtain ⟨hgr, HC2⟩ := hcut
    obtain ⟨w12, rfl⟩ : ∃ x, x = wc := ⟨_, rfl⟩
    replace M := Lib.hid (M.out.kept hgr.out HC.out)
    replace HK := Lib.hid (has_grown HK.out hgr.out LC0.out)
    replace HZ := Lib.hid (has_grown HZ.out hgr.out LC1.out)
    replace HB := Lib.hid (kp_grown HB.out hgr.out LC.out)
    replace HC := HC2
    clear hgr HC2
    have hfy := fM_y f hf
    have hty := tM_y f t hf ht
    have hser := serM_len sb
    have hnm := nM_len nb
    have hni := nameB_len _ HLI.out
    have hns := nameB_len _ HLS.out
    obtain ⟨D1, HD1⟩ : ∃ x, Hid (certC n0S n0S issu52 subu52 seru52 (fM f) (tM f t) nnu52 (e % 8589934592) sigu52 ⟨ca, pathI (pathM ca pa), usI (usM us), code⟩ = x) := ⟨_, Lib.hid rfl⟩
    have ID1 : Hid ((Try.prog.info? 33).map (·.size) = some D1.size) := by rw [← HD1.out]; exact Lib.hid (certC_info ..)
    have HD := HC
    rw [HD1.out] at HD
    go_wp2_with (refine wpList_load_row rfl _ _ rfl gu7 rfl _ D1 _ _ HD.out Try.underlying33 rfl ID1.out ?_)
    rw [← HD1.out]
    refine (tbs_any n0S n0S issu52 subu52 seru52 nnu52 sigu52 (fM f) (tM f t) (e % 8589934592) ca code (pathM ca pa) (usM us) _ _ _ _ w12 (OwnB.rb M.out.i) (OwnB.rb M.out.s) (OwnB.rb M.out.r) (OwnB.rb M.out.n) (OwnB.cap M.out.n).1 (OwnB.cap M.out.n).2 (by omega) (by omega) (by omega) (by omega) (by omega) (by omega) (by omega) (usM_fit us)).mono ?_
    rw [HD1.out]
    rintro e' w13 ⟨AT, nT, cT, rfl, ho, hb⟩
    have HT := Lib.hid (show OwnB w13 w.heap.size AT nT cT (tbsM sb nb is.data.toList ss.data.toList f t e ca code pa us) from ho.lower HB.out.size)
    replace M := Lib.hid (M.out.call hb)
    replace HK := Lib.hid (has_below HK.out hb)
    replace HZ := Lib.hid (has_below HZ.out hb)
    replace HB := Lib.hid (kp_call HB.out hb)
    replace HC := Lib.hid (has_below HC.out hb)
    clear ho hb HD
    have h1c : w13.cell? ⟨gu7, 1, none⟩ = some (sv n0S) := Lib.cell_of_heap HC.out 1
    have f1c : w13.frozen? ⟨gu7, 1, none⟩ = false := Lib.frozen_of_heap HC.out 1
    go_upto_region 14 with (fail)
    clear h1c f1c HD1 ID1
    refine wp_nm fun w14 hw14 => ?_
    have hgr : Hid (w13.grownBy w14 (some gu7)) := by rw [← hw14]; exact Lib.hid (grown_one ..)
    have HC2 := Lib.hid (show w14.heap[gu7]? = some (.cells (certC n0S (AT, nT, cT) issu52 subu52 seru52 (fM f) (tM f t) nnu52 (e % 8589934592) sigu52 ⟨ca, pathI (pathM ca pa), usI (usM us), code⟩) 33) by rw [← hw14]; exact cert_set1 (AT, nT, cT) HC.out)
    clear hw14
    replace M := Lib.hid (M.out.kept hgr.out HC.out)
    replace HK := Lib.hid (has_grown HK.out hgr.out LC0.out)
    replace HZ := Lib.hid (has_grown HZ.out hgr.out LC1.out)
    replace HB := Lib.hid (kp_grown HB.out hgr.out LC.out)
    replace HT := Lib.hid (OwnB.keptK HT.out hgr.out HC.out (by decide))
    replace HC := HC2
    clear hgr HC2
    have hT : (tbsM sb nb is.data.toList ss.data.toList f t e ca code pa us).length ≤ 20000 := by
      have hx1 := exL_len ca (pathM ca pa) (usM us) code
      have hx2 := exW_len _ hx1 (exL_fit ca (pathM ca pa) (usM us) code (fun v h => (usM_fit us v h).2))
      have hk := spkB_len (nM nb) (e % 8589934592) (by omega)
      have hk2 := wrQ_len 48 (spkB (nM nb) (e % 8589934592)) (by omega)
      have hsp := spanB_len (fM f) (tM f t)
      have hsp2 := wrQ_len 48 (spanB (fM f) (tM f t)) (by omega)
      have hs2 := wrQ_len 2 (serM sb) (by omega)
      have hv : (wrQ 160 [2, 1, 2]).length = 5 := by decide +kernel
      have hg : sgnB.length = 15 := rfl
      unfold tbsM tbsB
      refine Nat.le_trans (wrQ_len 48 _ ?_) ?_ <;> (simp only [List.length_append]; omega)
    have hG6 : (gb.take 600).length ≤ 600 := by rw [List.length_take]; omega
    have hnT : nT ≤ 20000 := by rw [← HT.out.len]; exact hT
    have hnG : sigu52.2.1 ≤ 600 := by rw [← OwnB.len M.out.g]; exact hG6
    have h1c : w14.cell? ⟨gu7, 1, none⟩ = some (sv (AT, nT, cT)) := Lib.cell_of_heap HC.out 1
    have h8c : w14.cell? ⟨gu7, 19, none⟩ = some (sv sigu52) := Lib.cell_of_heap HC.out 19
    go_wp2_with fail
    clear h1c h8c
    refine (wwrite_any AT nT cT _ sigu52.1 sigu52.2.1 sigu52.2.2 _ w14 HT.out.rb (OwnB.rb M.out.g) (by omega) (by omega)).mono ?_
    rintro e' w15 ⟨AR, nR, cR, rfl, ho, hb⟩
    have HR := Lib.hid (show OwnB w15 w.heap.size AR nR cR (rawM sb nb gb is.data.toList ss.data.toList f t e ca code pa us) from ho.lower HB.out.size)
    have hnR : nR ≤ 30000 := by
      have h1 := ho.len
      have h2 := wrQ_len 3 (0 :: gb.take 600) (by simp only [List.length_cons]; omega)
      have hg : sgnB.length = 15 := rfl
      simp only [List.length_cons] at h2
      rw [← h1]
      unfold certB
      refine Nat.le_trans (wrQ_len 48 _ ?_) ?_ <;> (simp only [List.length_append]; omega)
    replace M := Lib.hid (M.out.call hb)
    replace HK := Lib.hid (has_below HK.out hb)
    replace HZ := Lib.hid (has_below HZ.out hb)
    replace HB := Lib.hid (kp_call HB.out hb)
    replace HC := Lib.hid (has_below HC.out hb)
    replace HT := Lib.hid (HT.out.below hb (Nat.le_refl _))
    clear ho hb
    have h0c : w15.cell? ⟨gu7, 0, none⟩ = some (sv n0S) := Lib.cell_of_heap HC.out 0
    have f0c : w15.frozen? ⟨gu7, 0, none⟩ = false := Lib.frozen_of_heap HC.out 0
    go_upto_region 15 with (fail)
    clear h0c f0c
    refine wp_nm fun w16 hw16 => ?_
    have hgr : Hid (w15.grownBy w16 (some gu7)) := by rw [← hw16]; exact Lib.hid (grown_one ..)
    have HC2 := Lib.hid (show w16.heap[gu7]? = some (.cells (certC (AR, nR, cR) (AT, nT, cT) issu52 subu52 seru52 (fM f) (tM f t) nnu52 (e % 8589934592) sigu52 ⟨ca, pathI (pathM ca pa), usI (usM us), code⟩) 33) by rw [← hw16]; exact cert_set0 (AR, nR, cR) HC.out)
    clear hw16
    replace M := Lib.hid (M.out.kept hgr.out HC.out)
    replace HZ := Lib.hid (has_grown HZ.out hgr.out LC1.out)
    replace HB := Lib.hid (kp_grown HB.out hgr.out LC.out)
    replace HT := Lib.hid (OwnB.keptK HT.out hgr.out HC.out (by decide))
    replace HR := Lib.hid (OwnB.keptK HR.out hgr.out HC.out (by decide))
    replace HC := HC2
    clear hgr HC2 HK
    obtain ⟨D2, HD2⟩ : ∃ x, Hid (certC (AR, nR, cR) (AT, nT, cT) issu52 subu52 seru52 (fM f) (tM f t) nnu52 (e % 8589934592) sigu52 ⟨ca, pathI (pathM ca pa), usI (usM us), code⟩ = x) := ⟨_, Lib.hid rfl⟩
    have ID2 : Hid ((Try.prog.info? 33).map (·.size) = some D2.size) := by rw [← HD2.out]; exact Lib.hid (certC_info ..)
    have HD := HC
    rw [HD2.out] at HD
    refine wp_region_monoT (by kernel_rfl) (by kernel_rfl) [107, 108, 109, 110] (by rfl) (by decide) (by decide) (by rfl) (fun j => ([MR.eq (.agg D2), MR.eq (.pointer (some ⟨gu7, 0, none⟩)), MR.eq (.slice AR nR cR), MR.own (w.heap.size) (rawM sb nb gb is.data.toList ss.data.toList f t e ca code pa us)] : List MR).getD j MR.any) [] [[], [], [1], [1, 2], [0, 1, 2, 3], [0, 1, 2, 3, 4]] (by kernel_rfl) (by kernel_rfl) (by kernel_rfl) [_, _] rfl ?_ ?_
    · intro i hi ρ W E
      simp only [List.length_cons, List.length_nil] at hi
      have hbW : w.heap.size ≤ W.heap.size := Nat.le_trans HB.out.size E.up.size
      rcases (show i = 0 ∨ i = 1 ∨ i = 2 ∨ i = 3 by omega) with rfl | rfl | rfl | rfl
      · -- 0: load 33 t7
        refine mono_at (by rfl) rfl ?_
        have e7 : ρ (.tmp 7) = .pointer (some ⟨gu7, 0, none⟩) := E.old 7 rfl
        exact mo_loadr rfl e7 (has_below HD.out E.up) Try.underlying33 rfl ID2.out ⟨Below.refl _ _, rfl⟩
      · -- 1: fieldAddr 33 t7 0
        refine mono_at (by rfl) rfl ?_
        have e7 : ρ (.tmp 7) = .pointer (some ⟨gu7, 0, none⟩) := E.old 7 rfl
        exact mo_field (j' := 0) rfl e7 (fun w => by kernel_rfl) ⟨Below.refl _ _, rfl⟩
      · -- 2: load 22 t108
        refine mono_at (by rfl) rfl ?_
        have e108 : ρ (.tmp 108) = .pointer (some ⟨gu7, 0, none⟩) := E.dep 1 (by kernel_rfl)
        exact mo_load1 rfl e108 (Lib.cell_of_heap (has_below HC.out E.up) 0) (fun w => by kernel_rfl) ⟨Below.refl _ _, rfl⟩
      · -- 3: call { value (Operand.func 35), args := #[t109], argTypes :=
        refine mono_at (by rfl) rfl ?_
        have e109 : ρ (.tmp 109) = .slice AR nR cR := E.dep 2 (by kernel_rfl)
        refine mo_call rfl (E.fn _) (fun _ _ => by kernel_rfl) (args := #[.slice AR nR cR]) (by simp only [List.map_toArray, List.map_cons, List.map_nil, List.length_cons, List.length_nil, Nat.reduceAdd, E.cst, e109]) ?_
        exact fresh_own (copy_any AR nR cR _ W (HR.out.rb.below E.up) (by omega)) hbW
    · intro u W hbU hR
      have hu107 : u 0 = .agg D2 := hR 0 (by decide)
      obtain ⟨B110, m110, k110, hu110, ho110⟩ : (MR.own (w.heap.size) (rawM sb nb gb is.data.toList ss.data.toList f t e ca code pa us)).p (u 3) W := hR 3 (by decide)
      clear hR
      simp only [lay, Nat.reduceAdd, List.setIfInBounds_toArray, List.set_cons_zero, List.set_cons_succ, hu107, hu110]
      clear hu107 hu110
      replace M := Lib.hid (M.out.call hbU)
      replace HZ := Lib.hid (has_below HZ.out hbU)
      replace HB := Lib.hid (kp_call HB.out hbU)
      replace HT := Lib.hid (HT.out.below hbU (Nat.le_refl _))
      replace HR := Lib.hid (HR.out.below hbU (Nat.le_refl _))
      have H1 := Lib.hid ho110
      clear hbU ho110
      refine wpList_store_row rfl _ _ _ rfl (w.heap.size + 1) D2 rfl rfl _ _ HZ.out ID2.out (by rw [← HD2.out]; rfl) (by rw [← HD2.out]; exact certC_one ..) ?_
      simp only [Act.put, List.setIfInBounds_toArray, List.set_cons_zero, List.set_cons_succ]
      go_wp2
      refine bodyPost_ret (results_ct Try.results14 _ (LV.agg (setRow_heap _ _ _ _ _ _ HZ.out) Try.underlying33 rfl ID2.out)) rfl ?_
      refine ⟨(AR, nR, cR), (AT, nT, cT), issu52, subu52, seru52, nnu52, sigu52, B110, m110, k110, ?_, M.out.kept (grown_row _ _ _) HZ.out, OwnB.keptK HR.out (grown_row _ _ _) HZ.out (by decide), OwnB.keptK HT.out (grown_row _ _ _) HZ.out (by decide), OwnB.keptK H1.out (grown_row _ _ _) HZ.out (by decide), below_setRow HB.out (by omega) _⟩
      rw [HD2.out]
      rfl
end Go.Proofs.Ytomolfdcdmncoaa
namespace Go.Proofs.Ytomolfdcdmncoaa
open Go.RowKit Go
set_option linter.unusedVariables false
set_option linter.unusedSimpArgs false
set_option maxRecDepth 100000
/-- The elements of a case's signed part, without extensions. -/
def elP (sb nb isb ssb : List UInt8) (f t : Tm) (e : Nat) : List El := [(wrQ 160 [2, 1, 2], [2, 1, 2]), (wrQ 2 (serM sb), serM sb), (wrQ 48 sgnI, sgnI), (nameB (isb.take 200), wrQ 49 (wrQ 48 (wrQ 6 [85, 4, 3] ++ wrQ 12 (isb.take 200)))), (wrQ 48 (spanB (fM f) (tM f t)), spanB (fM f) (tM f t)), (nameB (ssb.take 200), wrQ 49 (wrQ 48 (wrQ 6 [85, 4, 3] ++ wrQ 12 (ssb.take 200)))), (wrQ 48 (spkB (nM nb) (e % 8589934592)), spkB (nM nb) (e % 8589934592))]
def elL (sb nb isb ssb : List UInt8) (f t : Tm) (e : Nat) : List (List UInt8) := (elP sb nb isb ssb f t e).map (·.1)
/-- The body of a case's signed part, without extensions. -/
def bodM (sb nb isb ssb : List UInt8) (f t : Tm) (e : Nat) : List UInt8 := tbB (serM sb) (wrQ 49 (wrQ 48 (wrQ 6 [85, 4, 3] ++ wrQ 12 (isb.take 200)))) (fM f) (tM f t) (wrQ 49 (wrQ 48 (wrQ 6 [85, 4, 3] ++ wrQ 12 (ssb.take 200)))) (nM nb) (e % 8589934592) []
theorem tbsM_plain (sb nb isb ssb : List UInt8) (f t : Tm) (e : Nat) (pa : UInt8) : tbsM sb nb isb ssb f t e false true pa 0 = wrQ 48 (bodM sb nb isb ssb f t e) := by
  unfold tbsM tbsB bodM tbB
  rw [nameB_is, nameB_is]
  have h1 : exW (exL false (pathM false pa) (usM 0) true) = [] := by
    have h2 : usM 0 = none := by unfold usM; rw [if_neg (by decide)]
    rw [h2]
    rfl
  rw [h1]
theorem in_len (l : List UInt8) (h : l.length ≤ 200) : (wrQ 49 (wrQ 48 (wrQ 6 [85, 4, 3] ++ wrQ 12 l))).length ≤ 300 := by
  have a := wrQ_len 12 l (by omega)
  have b : (wrQ 6 [85, 4, 3]).length = 5 := by decide +kernel
  have c := wrQ_len 48 (wrQ 6 [85, 4, 3] ++ wrQ 12 l) (by rw [List.length_append]; omega)
  have d := wrQ_len 49 (wrQ 48 (wrQ 6 [85, 4, 3] ++ wrQ 12 l)) (by rw [List.length_append] at c; omega)
  rw [List.length_append] at c
  omega
theorem take_len (l : List UInt8) (k : Nat) : (l.take k).length ≤ k := by rw [List.length_take]; omega
theorem bod_all (sb nb isb ssb : List UInt8) (f t : Tm) (e : Nat) : allQ (bodM sb nb isb ssb f t e) = some (elP sb nb isb ssb f t e) := by
  have h1 := serM_len sb
  have h2 := in_len _ (take_len isb 200)
  have h3 := in_len _ (take_len ssb 200)
  have h4 := nM_len nb
  exact tb_all _ _ _ _ _ _ _ [] [] all_nil (by omega) (by omega) (by omega) (by omega)
theorem bod_len (sb nb isb ssb : List UInt8) (f t : Tm) (e : Nat) : (bodM sb nb isb ssb f t e).length ≤ 4000 := by
  have h1 := serM_len sb
  have h2 := in_len _ (take_len isb 200)
  have h3 := in_len _ (take_len ssb 200)
  have h4 := nM_len nb
  have a := wrQ_len 2 (serM sb) (by omega)
  have b := wrQ_len 48 _ (Nat.le_trans h2 (by omega))
  have c := wrQ_len 48 _ (Nat.le_trans h3 (by omega))
  have d := spanB_len (fM f) (tM f t)
  have d2 := wrQ_len 48 (spanB (fM f) (tM f t)) (by omega)
  have g := spkB_len (nM nb) (e % 8589934592) (by omega)
  have g2 := wrQ_len 48 (spkB (nM nb) (e % 8589934592)) (by omega)
  have p : (wrQ 160 [2, 1, 2]).length = 5 := by decide +kernel
  have q : sgnB.length = 15 := rfl
  unfold bodM tbB
  simp only [List.length_append, List.length_nil]
  omega
/-- What Elements answers. -/
def ElemsP (w : World) (L : List (List UInt8)) (ed : Ending) (w' : World) : Prop := ∃ (A : Option Addr) (n c : Nat) (l : List Row1), ed = .returned (.slice A n c) ∧ RowsO w' w.heap.size A n c l ∧ l.map (·.2.2.2) = L ∧ Below w.heap.size w w'
theorem caseC_size (s n g : S3) (is ss : ByteArray) (f t : Tm) (e : Nat) (ca code : Bool) (pa us : UInt8) : (caseC s n g is ss f t e ca code pa us).size = 22 := rfl
theorem caseC_info (s n g : S3) (is ss : ByteArray) (f t : Tm) (e : Nat) (ca code : Bool) (pa us : UInt8) : (Try.prog.info? 28).map (·.size) = some (caseC s n g is ss f t e ca code pa us).size := by
  rw [caseC_size]; kernel_rfl
set_option maxHeartbeats 8000000 in
theorem elements_any (s n g : S3) (is ss : ByteArray) (f t : Tm) (e : Nat) (ca code : Bool) (pa us : UInt8) (sb nb gb : List UInt8) (w : World)
    (hS : RB w s.1 s.2.1 sb) (hN : RB w n.1 n.2.1 nb) (hG : RB w g.1 g.2.1 gb) (s1 : s.2.1 ≤ s.2.2) (n1 : n.2.1 ≤ n.2.2) (g1 : g.2.1 ≤ g.2.2)
    (his : is.size ≤ maxLen) (hss : ss.size ≤ maxLen) (hf : f.y < 65536) (ht : t.y < 65536) :
    Calls Try.prog 30 #[.agg (caseC s n g is ss f t e ca code pa us)] w (ElemsP w (elL sb nb is.data.toList ss.data.toList f t e)) := by
  have HM := Lib.hid (fun W (hb : Below w.heap.size w W) => made_any s n g is ss f t e false true pa 0 sb nb gb W (hS.below hb) (hN.below hb) (hG.below hb) s1 n1 g1 his hss hf ht)
  clear hS hN hG
  go_enter Try.func30, Try.ntmps30
  simp only [caseC]
  go_upto_region 4 with (fail)
  refine wp_nm fun w0 hw0 => ?_
  have HB := Lib.hid (show Below w.heap.size w w0 by rw [← hw0]; exact kp_alloc (Below.refl _ _) _)
  have HK := Lib.hid (show w0.heap[w.heap.size]? = some (.cells (caseC s n g is ss f t e false true pa 0) 28) by rw [← hw0]; exact has_new _ _)
  clear hw0
  obtain ⟨D, HD⟩ : ∃ x, Hid (caseC s n g is ss f t e false true pa 0 = x) := ⟨_, Lib.hid rfl⟩
  have ID : Hid ((Try.prog.info? 28).map (·.size) = some D.size) := by rw [← HD.out]; exact Lib.hid (caseC_info ..)
  rw [HD.out] at HK
  go_wp2_with (refine wpList_load_row rfl _ _ rfl w.heap.size rfl _ D _ _ HK.out Try.underlying28 rfl ID.out ?_)
  rw [← HD.out]
  refine (HM.out w0 HB.out).mono ?_
  rw [HD.out]
  rintro e' w1 ⟨raw, tbs, iss, sub, ser, nn, sig, A0, n0, c0, rfl, hM, hraw, htb, hA, hb⟩
  have HT := Lib.hid (show RB w1 tbs.1 tbs.2.1 (wrQ 48 (bodM sb nb is.data.toList ss.data.toList f t e)) by rw [← tbsM_plain _ _ _ _ _ _ _ pa]; exact OwnB.rb htb)
  have HTC := Lib.hid (OwnB.cap htb)
  replace HB := Lib.hid (kp_call HB.out hb)
  clear HK HD ID HM hM hraw htb hA hb
  obtain ⟨D2, HD2⟩ : ∃ x, Hid (certC raw tbs iss sub ser (fM f) (tM f t) nn (e % 8589934592) sig ⟨false, pathI (pathM false pa), usI (usM 0), true⟩ = x) := ⟨_, Lib.hid rfl⟩
  have ID2 : Hid ((Try.prog.info? 33).map (·.size) = some D2.size) := by rw [← HD2.out]; exact Lib.hid (certC_info ..)
  rw [HD2.out]
  go_upto_region 5 with (refine wpList_store_row rfl _ _ _ rfl w1.heap.size D2 rfl rfl _ _ (has_new w1 _) ID2.out (by rw [← HD2.out]; rfl) (by rw [← HD2.out]; exact certC_one ..) ?_)
  refine wp_nm fun w2 hw2 => ?_
  have HC := Lib.hid (show w2.heap[w1.heap.size]? = some (.cells D2 33) by rw [← hw2]; exact setRow_heap _ _ _ _ _ _ (has_new w1 _))
  have hb2 : Below w1.heap.size w1 w2 := by rw [← hw2]; exact below_setRow (kp_alloc (Below.refl _ _) _) (Nat.le_refl _) _
  replace HT := Lib.hid (HT.out.below hb2)
  replace HB := Lib.hid (kp_call HB.out hb2)
  clear hw2 hb2
  have c1 : w2.cell? ⟨w1.heap.size, 1, none⟩ = some (sv tbs) := by rw [← HD2.out] at HC; exact Lib.cell_of_heap HC.out 1
  have hbl := bod_len sb nb is.data.toList ss.data.toList f t e
  have hwl := wrQ_len 48 _ (Nat.le_trans hbl (by omega))
  have hln := HT.out.1
  go_wp2_with fail
  refine (rparse_any tbs.1 tbs.2.1 tbs.2.2 _ w2 HT.out HTC.out.1 (by omega) (maxLen_i64 HTC.out.2)).mono ?_
  intro e' w3 hp
  have hsp := split_wr 48 (bodM sb nb is.data.toList ss.data.toList f t e) [] (by decide) (by omega)
  rw [List.append_nil] at hsp
  unfold ParsePost at hp
  rw [hsp] at hp
  obtain ⟨⟨A1, n1', c1', A2, n2', c2', A3, n3, c3, rfl, o1, o2, o3, _⟩, hb⟩ := hp
  have hbd : ((wrQ 48 (bodM sb nb is.data.toList ss.data.toList f t e)).take (wrQ 48 (bodM sb nb is.data.toList ss.data.toList f t e)).length).drop ((wrQ 48 (bodM sb nb is.data.toList ss.data.toList f t e)).length - (bodM sb nb is.data.toList ss.data.toList f t e).length) = bodM sb nb is.data.toList ss.data.toList f t e := by
    rw [List.take_length]
    obtain ⟨p, hp⟩ := wr_end 48 (bodM sb nb is.data.toList ss.data.toList f t e)
    rw [hp, List.length_append, Nat.add_sub_cancel, List.drop_left]
  rw [hbd] at o1
  have HO1 := Lib.hid o1
  have hn1 : n1' ≤ 4000 := by rw [← o1.len]; exact hbl
  replace HB := Lib.hid (kp_call HB.out hb)
  clear o1 o2 o3 hb hsp hbd hwl hln c1 HT HTC HC HD2 ID2
  go_wp2_with fail
  refine calls_nm fun w4 hw4 => ?_
  have hb4 : Below w3.heap.size w3 w4 := by rw [← hw4]; exact kp_alloc (Below.refl _ _) _
  replace HO1 := Lib.hid (HO1.out.below hb4 (Nat.le_refl _))
  replace HB := Lib.hid (kp_call HB.out hb4)
  clear hw4 hb4
  refine (rall_any A1 n1' c1' _ w4 HO1.out.rb HO1.out.cap.1 (by omega) (maxLen_i64 HO1.out.cap.2)).mono ?_
  intro e' w5 hp
  unfold AllPost at hp
  rw [bod_all] at hp
  obtain ⟨⟨LA, nl, cl, vs, rfl, hvs, hLo, hEv⟩, hb⟩ := hp
  have hnl : nl = 7 := by
    have h1 := hLo.len
    have h2 := congrArg List.length hvs
    rw [List.length_map] at h2
    rw [ecells_flat, h2] at h1
    simp only [elP, List.length_cons, List.length_nil] at h1
    omega
  have hv7 : vs.length = 7 := by
    have h2 := congrArg List.length hvs
    rw [List.length_map] at h2
    rw [h2]; rfl
  subst hnl
  have HVS := Lib.hid hvs
  have HV7 := Lib.hid hv7
  have HL := Lib.hid (hLo.lower HB.out.size)
  have HE := Lib.hid (show Evs w5 w.heap.size vs from ⟨fun x hx => (hEv.own x hx).lower HB.out.size, hEv.far, hEv.tag⟩)
  replace HB := Lib.hid (kp_call HB.out hb)
  clear hvs hv7 hLo hEv hb HO1
  go_wp2
  go_loopw [10, 11] (fun v i wl => ∃ (k : Nat) (A c : _), k ≤ 7 ∧ i = .int .i64 (k : Nat) ∧ v = .slice A k c ∧ Hid (RowsO wl w.heap.size A k c ((vs.map fun v => (v.ra, v.rn, v.rc, v.raw)).take k)) ∧ Hid (OwnR wl w.heap.size 46 3 LA 7 cl (vs.flatMap EV.cells)) ∧ Hid (Evs wl w.heap.size vs) ∧ Hid (Below w.heap.size w wl)) (fun _ i _ => 7 - (intOf i).toNat)
  case atStart => exact ⟨0, none, 0, by omega, rfl, rfl, Lib.hid (RowsO.nil _ _), HL, HE, HB⟩
  case round =>
    obtain ⟨k, A, c, hk, rfl, rfl, HR, HL2, HE2, HB2⟩ := hrel
    by_cases hlt : k < 7
    · have hkv : k < vs.length := by rw [HV7.out]; exact hlt
      obtain ⟨lb, lo, rfl, hlb, hcell⟩ := HL2.out.reads (by intro h9; have h8 := congrArg List.length h9; rw [ecells_flat, HV7.out] at h8; simp at h8)
      have hg := eflat_get vs vs[k] k (List.getElem?_eq_getElem hkv)
      have cr := hcell (k * 3 + 2) _ hg.2.2
      rw [← Nat.add_assoc] at cr
      have q1 : (k : Int) < 7 := by omega
      have ho := HE2.out.pair (List.getElem_mem hkv)
      have HOX := Lib.hid ho.2
      have hx : (vs.map fun v => ((v.ra, v.rn, v.rc, v.raw) : Row1)).take k ++ [(vs[k].ra, vs[k].rn, vs[k].rc, vs[k].raw)] = (vs.map fun v => (v.ra, v.rn, v.rc, v.raw)).take (k + 1) := by
        rw [List.take_succ_eq_append_getElem (by rw [List.length_map]; exact hkv), List.getElem_map]
      have HX := Lib.hid hx
      obtain ⟨y, hy⟩ : ∃ y, vs[k] = y := ⟨_, rfl⟩
      rw [hy] at HOX cr HX
      clear hx hy hg hcell ho
      have HW := Lib.hid (show RowsO wr w.heap.size A k c ((vs.map fun v => (v.ra, v.rn, v.rc, v.raw)).take k) from HR.out)
      have hsz := HB2.out.size
      go_wp2_with (at_builtin; refine wpList_ap1 _ _ rfl rfl rfl w.heap.size A k c _ rfl HR.out (y.ra, y.rn, y.rc, y.raw) _ rfl rfl HOX.out (by omega) hsz ?_)
      intro A' c' w' ho hg
      rw [HX.out] at ho
      have hne : ∀ (p : Option Addr) (k' : Nat) (vs' : List Value), OwnR wr w.heap.size 46 3 p 7 cl vs' → blk p = none ∨ blk p ≠ blk A := fun p k' vs' h9 => OwnR.ne h9 HR.out.own (by decide)
      have HL3 := Lib.hid (OwnR.kept (OwnR.alloc HL2.out _) hg (hne _ 0 _ HL2.out))
      have HE3 := Lib.hid (show Evs w' w.heap.size vs from ⟨fun x hx => OwnR.kept (OwnB.row ((HE2.out.own x hx).alloc _)) hg (OwnR.ne (OwnB.row (HE2.out.own x hx)) HR.out.own (by decide)), HE2.out.far, HE2.out.tag⟩)
      have HB3 := Lib.hid ((kp_alloc HB2.out _).grown hg (by simp; omega) (fun g hg => (HR.out.own.blk_lt hg).1))
      clear hg hne
      go_wp2
      go_roundw
      case rel => exact ⟨k + 1, A', c', by omega, by go_num, rfl, Lib.hid ho, HL3, HE3, HB3⟩
      case measure => simp [intOf]; omega
    · obtain rfl : k = 7 := by omega
      go_wp2
      go_ret
      refine ⟨A, 7, c, _, rfl, HR.out, ?_, HB2.out⟩
      rw [List.take_of_length_le (by rw [List.length_map, HV7.out]; exact Nat.le_refl _), List.map_map]
      unfold elL
      rw [← HVS.out, List.map_map]
      rfl
end Go.Proofs.Ytomolfdcdmncoaa
namespace Go.Proofs.Ytomolfdcdmncoaa
open Go.RowKit Go
set_option linter.unusedVariables false
set_option linter.unusedSimpArgs false
set_option maxRecDepth 100000
def wX (l : List Row1) : List (List UInt8) := if l = [] then [] else [wrQ 163 (wrQ 48 (flatR l))]
theorem elL_len (sb nb isb ssb : List UInt8) (f t : Tm) (e : Nat) : (elL sb nb isb ssb f t e).length = 7 := rfl
theorem elL_flat (sb nb isb ssb : List UInt8) (f t : Tm) (e : Nat) : (elL sb nb isb ssb f t e).flatten = bodM sb nb isb ssb f t e := by
  unfold bodM tbB elL elP
  simp only [List.map_cons, List.map_nil, List.flatten_cons, List.flatten_nil, List.append_nil]
  rw [sgn_wr, nameB_is, nameB_is]
  rfl
theorem rows_set {w : World} {base n c g : Nat} {A : Option Addr} {l : List Row1} (h : RowsO w base (some ⟨g, 0, none⟩) n c l) (j : Nat) (x : Row1) (hb : base ≤ g) (w0 : World) (h0 : Below w0.heap.size w0 w) (hw0 : w0.heap.size ≤ base) (hx : RB w0 x.1 x.2.1 x.2.2.2) :
    RowsP (w.setCell ⟨g, j, none⟩ (Row1.val x)) (some ⟨g, 0, none⟩) (l.set j x) := by
  have h1 := OwnR.stored h.own j (Row1.val x)
  refine ⟨by rw [List.map_set]; exact h1.reads, fun y hy => ?_⟩
  rcases List.mem_or_eq_of_mem_set hy with hy | rfl
  · have hyo := h.rb y hy
    have hr : OwnR w base 5 1 y.1 y.2.1 y.2.2.1 (y.2.2.2.map bv) := OwnB.row hyo
    have hk : OwnB (w.setCell ⟨g, j, none⟩ (Row1.val x)) base y.1 y.2.1 y.2.2.1 y.2.2.2 := OwnR.kept hr (grown_one w g j _) (OwnR.ne hr h.own (by decide))
    exact hk.rb
  · exact hx.below (kp_set h0 (by omega))

set_option maxHeartbeats 8000000 in
theorem with_any (s n g : S3) (is ss : ByteArray) (f t : Tm) (e : Nat) (ca code : Bool) (pa us : UInt8) (sb nb gb : List UInt8) (EA : Option Addr) (en ec : Nat) (exl : List Row1) (w : World)
    (hS : RB w s.1 s.2.1 sb) (hN : RB w n.1 n.2.1 nb) (hG : RB w g.1 g.2.1 gb) (s1 : s.2.1 ≤ s.2.2) (n1 : n.2.1 ≤ n.2.2) (g1 : g.2.1 ≤ g.2.2)
    (his : is.size ≤ maxLen) (hss : ss.size ≤ maxLen) (hf : f.y < 65536) (ht : t.y < 65536) (hE : RowsP w EA exl) (hen : exl.length = en) (hem : en ≤ 1000) (hel : (flatR exl).length ≤ 50000) :
    Calls Try.prog 24 #[.agg (caseC s n g is ss f t e ca code pa us), .slice EA en ec] w (Fresh w (certB (wrQ 48 ((elL sb nb is.data.toList ss.data.toList f t e) ++ wX exl).flatten) (gb.take 100))) := by

  have HE := Lib.hid hE
  have HEN := Lib.hid hen
  have HEL := Lib.hid hel
  clear hE hel hen
  have HM := Lib.hid (fun W (hb : Below w.heap.size w W) => elements_any s n g is ss f t e ca code pa us sb nb gb W (hS.below hb) (hN.below hb) (hG.below hb) s1 n1 g1 his hss hf ht)
  have HG := Lib.hid hG
  clear hS hN hG
  obtain ⟨CC, HCC⟩ : ∃ CC, Hid (caseC s n g is ss f t e ca code pa us = CC) := ⟨_, Lib.hid rfl⟩
  have ICC : Hid ((Try.prog.info? 28).map (·.size) = some CC.size) := by rw [← HCC.out]; exact Lib.hid (caseC_info ..)
  have C2 : Hid (CC[2]? = some (sv g)) := by rw [← HCC.out]; exact Lib.hid rfl
  rw [HCC.out]
  go_enter Try.func24, Try.ntmps24
  go_upto_region 1 with (fail)
  refine wp_nm fun w0 hw0 => ?_
  have HB := Lib.hid (show Below w.heap.size w w0 by rw [← hw0]; exact kp_alloc (Below.refl _ _) _)
  have HK := Lib.hid (show w0.heap[w.heap.size]? = some (.cells CC 28) by rw [← hw0]; exact has_new _ _)
  clear hw0
  go_wp2_with (refine wpList_load_row rfl _ _ rfl w.heap.size rfl _ CC _ _ HK.out Try.underlying28 rfl ICC.out ?_)
  rw [← HCC.out]
  refine (HM.out w0 HB.out).mono ?_
  rw [HCC.out]
  rintro e' w1 ⟨A5, n5, c5, l5, rfl, ho, hl, hb⟩
  have HW0 := Lib.hid HB.out.size
  have HR5 := Lib.hid ho
  have HL5 := Lib.hid hl
  have HN7 : Hid (n5 = 7) := Lib.hid (by have h1 := ho.len; have h2 := congrArg List.length hl; rw [List.length_map, elL_len] at h2; omega)
  have hn57 : n5 ≤ 7 := by have := HN7.out; omega
  have HB0 := HB
  have HK0 := HK
  have HB1 := Lib.hid hb
  replace HB := Lib.hid (kp_call HB.out hb)
  replace HK := Lib.hid (has_below HK.out hb)
  clear ho hl hb HM
  have hbl := bod_len sb nb is.data.toList ss.data.toList f t e
  have HBL := Lib.hid (show (elL sb nb is.data.toList ss.data.toList f t e).flatten.length ≤ 4000 by rw [elL_flat]; exact hbl)
  clear hbl
  go_upto_region 2 with (fail)
  go_cut [10] from 8 (fun v wx => v = .bool (decide (0 < en)) ∧ w1 = wx)
  case first =>
    go_wp2
    go_meet
    exact ⟨rfl, rfl⟩
  obtain ⟨rfl, hwc⟩ := hcut
  subst hwc
  go_upto_if 10 with (fail)
  go_cut [5] from 8 (fun v5 wx => ∃ A6 n6 c6 l6, v5 = .slice A6 n6 c6 ∧ Hid (RowsO wx w0.heap.size A6 n6 c6 l6) ∧ Hid (l6.map (·.2.2.2) = (elL sb nb is.data.toList ss.data.toList f t e) ++ wX exl) ∧ Hid (Below w0.heap.size w0 wx) ∧ Hid (wx.heap[w.heap.size]? = some (.cells CC 28)))
  case first =>
    as_aux_lemma =>
    have hbw01 : Below w0.heap.size w0 w1 := HB1.out
    cases hd : decide (0 < en) with
    | false =>
      have h0 : en = 0 := by have := of_decide_eq_false hd; omega
      have he : exl = [] := List.eq_nil_of_length_eq_zero (by rw [HEN.out]; exact h0)
      have HX := Lib.hid (show wX exl = [] by unfold wX; rw [if_pos he])
      clear h0 he hd
      go_wp2
      go_meet
      exact ⟨A5, n5, c5, l5, rfl, HR5, Lib.hid (by rw [HL5.out, HX.out, List.append_nil]), Lib.hid hbw01, HK⟩
    | true =>
      have h0 : 0 < en := of_decide_eq_true hd
      have he : exl ≠ [] := by intro h; have := HEN.out; rw [h] at this; simp at this; omega
      have HX := Lib.hid (show wX exl = [wrQ 163 (wrQ 48 (flatR exl))] by unfold wX; rw [if_neg he])
      clear h0 he hd
      have hel := HEL.out
      have hwl := wrQ_len 48 (flatR exl) (by omega)
      go_wp2_with fail
      refine (seq_any EA en ec exl w1 (HE.out.below HB.out) HEN.out (by omega) (by omega)).mono ?_
      rintro e' w2 ⟨A2, n2', c2, rfl, ho, hb⟩
      have HO2 := Lib.hid ho.rb
      have hn2 : n2' ≤ 60000 := by rw [← ho.len]; omega
      have HB2 := Lib.hid (kp_call hbw01 hb)
      replace HR5 := Lib.hid (HR5.out.below hb)
      replace HK := Lib.hid (has_below HK.out hb)
      clear ho hb
      go_wp2_with fail
      refine (rwrite_any 163 A2 n2' c2 _ w2 HO2.out (by omega)).mono ?_
      rintro e' w3 ⟨A3, n3, c3, rfl, ho, hb⟩
      have HO3 := Lib.hid (ho.lower (base' := w0.heap.size) HB2.out.size)
      replace HB2 := Lib.hid (kp_call HB2.out hb)
      replace HR5 := Lib.hid (HR5.out.below hb)
      replace HK := Lib.hid (has_below HK.out hb)
      clear ho hb
      go_wp2_with (at_builtin; refine wpList_ap1 _ _ rfl rfl rfl w0.heap.size A5 n5 c5 l5 rfl HR5.out (A3, n3, c3, wrQ 163 (wrQ 48 (flatR exl))) _ rfl rfl HO3.out (by omega) HB2.out.size ?_)
      intro A6 c6 w4 ho hg
      have HB4 := Lib.hid ((kp_alloc HB2.out _).grown hg (by have := HB2.out.size; simp; omega) (fun g hg => (HR5.out.own.blk_lt hg).1))
      have hlt := block_lt HK0.out
      have HK4 := Lib.hid (has_below HK0.out HB4.out)
      clear hg hlt
      go_wp2
      go_meet
      exact ⟨A6, n5 + 1, c6, _, rfl, Lib.hid ho, Lib.hid (by rw [List.map_append, HL5.out, HX.out]; rfl), HB4, HK4⟩
  obtain ⟨A5, n5, c5, l5, rfl, HR5, HL5, HB1, HK⟩ := hcut
  obtain ⟨w5, rfl⟩ : ∃ x, x = wc := ⟨_, rfl⟩
  replace HB := Lib.hid (kp_call HB0.out HB1.out)
  have hel := HEL.out
  have HXL := Lib.hid (show ((elL sb nb is.data.toList ss.data.toList f t e) ++ wX exl).flatten.length ≤ 60000 by
    have h1 := HBL.out
    have h2 := wrQ_len 48 (flatR exl) (by omega)
    have h3 := wrQ_len 163 (wrQ 48 (flatR exl)) (by omega)
    rw [List.flatten_append, List.length_append]
    unfold wX
    split
    · simp only [List.flatten_nil, List.length_nil]; omega
    · simp only [List.flatten_cons, List.flatten_nil, List.append_nil]; omega)
  have hn58 : l5.length ≤ 8 := by
    have h2 := congrArg List.length HL5.out
    rw [List.length_map, List.length_append, elL_len] at h2
    unfold wX at h2
    split at h2 <;> simp only [List.length_nil, List.length_cons] at h2 <;> omega
  have HN5 := Lib.hid HR5.out.len
  go_upto_region 4 with (fail)
  refine wp_region_mono (by kernel_rfl) (by kernel_rfl) [17, 18, 19, 20, 21, 22, 4] (by rfl) (by decide) (by rfl) (fun j => ([MR.eq (.slice A5 n5 c5), MR.own (w.heap.size) (wrQ 48 ((elL sb nb is.data.toList ss.data.toList f t e) ++ wX exl).flatten), MR.eq (.pointer (some ⟨w.heap.size, 2, none⟩)), MR.eq (sv g), MR.own (w.heap.size) (gb.take 100), MR.own (w.heap.size) (certB (wrQ 48 ((elL sb nb is.data.toList ss.data.toList f t e) ++ wX exl).flatten) (gb.take 100)), MR.own (w.heap.size) (certB (wrQ 48 ((elL sb nb is.data.toList ss.data.toList f t e) ++ wX exl).flatten) (gb.take 100))] : List MR).getD j MR.any) [] [] (by kernel_rfl) (by kernel_rfl) ?_ ?_
  · intro i hi ρ W E
    simp only [List.length_cons, List.length_nil] at hi
    have hbW : w.heap.size ≤ W.heap.size := Nat.le_trans HB.out.size E.up.size
    rcases (show i = 0 ∨ i = 1 ∨ i = 2 ∨ i = 3 ∨ i = 4 ∨ i = 5 ∨ i = 6 by omega) with rfl | rfl | rfl | rfl | rfl | rfl | rfl
    · -- 0: move t5
      refine mono_at (by rfl) rfl ?_
      have e5 : ρ (.tmp 5) = .slice A5 n5 c5 := E.old 5 rfl
      exact mo_move rfl ⟨Below.refl _ _, e5⟩
    · -- 1: call { value (Operand.func 28), args := #[t17], argTypes := 
      refine mono_at (by rfl) rfl ?_
      have e17 : ρ (.tmp 17) = .slice A5 n5 c5 := E.dep 0 (by kernel_rfl)
      refine mo_call rfl (E.fn _) (fun _ _ => by kernel_rfl) (args := #[.slice A5 n5 c5]) (by simp only [List.map_toArray, List.map_cons, List.map_nil, List.length_cons, List.length_nil, Nat.reduceAdd, E.cst, e17]) ?_
      exact seqM (bss := (elL sb nb is.data.toList ss.data.toList f t e) ++ wX exl) (HR5.out.rows.below E.up) HL5.out (by rw [← HL5.out, List.length_map]; exact HN5.out) (by have := HN5.out; omega) (Nat.le_trans HXL.out (by omega)) hbW
    · -- 2: fieldAddr 28 t2 2
      refine mono_at (by rfl) rfl ?_
      have e2 : ρ (.tmp 2) = .pointer (some ⟨w.heap.size, 0, none⟩) := E.old 2 rfl
      exact mo_field (j' := 2) rfl e2 (fun w => by kernel_rfl) ⟨Below.refl _ _, rfl⟩
    · -- 3: load 22 t19
      refine mono_at (by rfl) rfl ?_
      have e19 : ρ (.tmp 19) = .pointer (some ⟨w.heap.size, 2, none⟩) := E.dep 2 (by kernel_rfl)
      exact mo_load1 rfl e19 (((Lib.cell_of_heap (has_below HK.out E.up) 2).trans C2.out)) (fun w => by kernel_rfl) ⟨Below.refl _ _, rfl⟩
    · -- 4: call { value (Operand.func 32), args := #[t20, const (100:i6
      refine mono_at (by rfl) rfl ?_
      have e20 : ρ (.tmp 20) = sv g := E.dep 3 (by kernel_rfl)
      refine mo_call rfl (E.fn _) (fun _ _ => by kernel_rfl) (args := #[sv g, .int .i64 100]) (by simp only [List.map_toArray, List.map_cons, List.map_nil, List.length_cons, List.length_nil, Nat.reduceAdd, E.cst, e20]) ?_
      exact fresh_own (short9_any g.1 g.2.1 g.2.2 gb 100 100 rfl W (HG.out.below (HB.out.trans (E.up.mono HB.out.size))) g1 (by omega)) hbW
    · -- 5: call { value (Operand.func 18), args := #[t18, t21], argType
      refine mono_at (by rfl) rfl ?_
      obtain ⟨A18, n18, c18, e18, o18⟩ : (MR.own (w.heap.size) (wrQ 48 ((elL sb nb is.data.toList ss.data.toList f t e) ++ wX exl).flatten)).p (ρ (.tmp 18)) W := E.dep 1 (by kernel_rfl)
      obtain ⟨A21, n21, c21, e21, o21⟩ : (MR.own (w.heap.size) (gb.take 100)).p (ρ (.tmp 21)) W := E.dep 4 (by kernel_rfl)
      refine mo_call rfl (E.fn _) (fun _ _ => by kernel_rfl) (args := #[.slice A18 n18 c18, .slice A21 n21 c21]) (by simp only [List.map_toArray, List.map_cons, List.map_nil, List.length_cons, List.length_nil, Nat.reduceAdd, E.cst, e18, e21]) ?_
      exact fresh_own (wwrite_any A18 n18 c18 _ A21 n21 c21 _ W o18.rb o21.rb (by have h1 := o18.len; have h2 := wrQ_len 48 ((elL sb nb is.data.toList ss.data.toList f t e) ++ wX exl).flatten (by exact Nat.le_trans HXL.out (by omega)); have h3 := HXL.out; omega) (by have h1 := o21.len; have h2 := take_len gb 100; omega)) hbW
    · -- 6: assign t22
      refine mono_at (by rfl) rfl ?_
      obtain ⟨A22, n22, c22, e22, o22⟩ : (MR.own (w.heap.size) (certB (wrQ 48 ((elL sb nb is.data.toList ss.data.toList f t e) ++ wX exl).flatten) (gb.take 100))).p (ρ (.tmp 22)) W := E.dep 5 (by kernel_rfl)
      exact mo_assign rfl ⟨Below.refl _ _, _, _, _, e22, o22⟩
  · intro u W hbU hR
    obtain ⟨B4, m4, k4, hu4, ho4⟩ : (MR.own (w.heap.size) (certB (wrQ 48 ((elL sb nb is.data.toList ss.data.toList f t e) ++ wX exl).flatten) (gb.take 100))).p (u 6) W := hR 6 (by decide)
    clear hR
    simp only [lay, Nat.reduceAdd, List.setIfInBounds_toArray, List.set_cons_zero, List.set_cons_succ, hu4]
    clear hu4
    have HO := Lib.hid ho4
    replace HB := Lib.hid (kp_call HB.out hbU)
    clear hbU ho4
    go_wp2
    go_ret
    refine ⟨B4, m4, k4, rfl, ?_, HB.out⟩
    exact HO.out

set_option maxHeartbeats 8000000 in
theorem put_any (s n g : S3) (is ss : ByteArray) (f t : Tm) (e : Nat) (ca code : Bool) (pa us : UInt8) (sb nb gb : List UInt8) (at_ : Nat) (ai : Int) (EA : Option Addr) (en ec : Nat) (eb : List UInt8) (w : World)
    (hS : RB w s.1 s.2.1 sb) (hN : RB w n.1 n.2.1 nb) (hG : RB w g.1 g.2.1 gb) (s1 : s.2.1 ≤ s.2.2) (n1 : n.2.1 ≤ n.2.2) (g1 : g.2.1 ≤ g.2.2)
    (his : is.size ≤ maxLen) (hss : ss.size ≤ maxLen) (hf : f.y < 65536) (ht : t.y < 65536) (hai : ai = (at_ : Int)) (hat : at_ < 7) (hE : RB w EA en eb) (heb : eb.length ≤ 50000) :
    Calls Try.prog 29 #[.agg (caseC s n g is ss f t e ca code pa us), .int .i64 ai, .slice EA en ec] w (Fresh w (certB (wrQ 48 ((elL sb nb is.data.toList ss.data.toList f t e).set at_ eb).flatten) (gb.take 100))) := by

  subst hai
  have HE := Lib.hid hE
  clear hE
  have HM := Lib.hid (fun W (hb : Below w.heap.size w W) => elements_any s n g is ss f t e ca code pa us sb nb gb W (hS.below hb) (hN.below hb) (hG.below hb) s1 n1 g1 his hss hf ht)
  have HG := Lib.hid hG
  clear hS hN hG
  obtain ⟨CC, HCC⟩ : ∃ CC, Hid (caseC s n g is ss f t e ca code pa us = CC) := ⟨_, Lib.hid rfl⟩
  have ICC : Hid ((Try.prog.info? 28).map (·.size) = some CC.size) := by rw [← HCC.out]; exact Lib.hid (caseC_info ..)
  have C2 : Hid (CC[2]? = some (sv g)) := by rw [← HCC.out]; exact Lib.hid rfl
  rw [HCC.out]
  go_enter Try.func29, Try.ntmps29
  go_upto_region 1 with (fail)
  refine wp_nm fun w0 hw0 => ?_
  have HB := Lib.hid (show Below w.heap.size w w0 by rw [← hw0]; exact kp_alloc (Below.refl _ _) _)
  have HK := Lib.hid (show w0.heap[w.heap.size]? = some (.cells CC 28) by rw [← hw0]; exact has_new _ _)
  clear hw0
  go_wp2_with (refine wpList_load_row rfl _ _ rfl w.heap.size rfl _ CC _ _ HK.out Try.underlying28 rfl ICC.out ?_)
  rw [← HCC.out]
  refine (HM.out w0 HB.out).mono ?_
  rw [HCC.out]
  rintro e' w1 ⟨A5, n5, c5, l5, rfl, ho, hl, hb⟩
  have HW0 := Lib.hid HB.out.size
  have HR5 := Lib.hid ho
  have HL5 := Lib.hid hl
  have HN7 : Hid (n5 = 7) := Lib.hid (by have h1 := ho.len; have h2 := congrArg List.length hl; rw [List.length_map, elL_len] at h2; omega)
  have hn57 : n5 ≤ 7 := by have := HN7.out; omega
  have HK0 := HK
  replace HB := Lib.hid (kp_call HB.out hb)
  replace HK := Lib.hid (has_below HK.out hb)
  clear ho hl hb HM
  have hbl := bod_len sb nb is.data.toList ss.data.toList f t e
  have HBL := Lib.hid (show (elL sb nb is.data.toList ss.data.toList f t e).flatten.length ≤ 4000 by rw [elL_flat]; exact hbl)
  clear hbl
  have hn5 := HN7.out
  subst hn5
  obtain ⟨g5, rfl, hg5, hg6⟩ := HR5.out.own.shape (by have := HR5.out.own.cap; omega)
  have f5 : w1.frozen? ⟨g5, at_, none⟩ = false := OwnR.free HR5.out.own at_
  have hl7 : l5.length = 7 := HR5.out.len
  have c5' : w1.cell? ⟨g5, at_, none⟩ = some (Row1.val (l5.getD at_ Row1.nul)) := by
    obtain ⟨b, off, h1, _, hc⟩ := HR5.out.own.reads (by intro h9; have h8 := congrArg List.length h9; rw [List.length_map, hl7] at h8; cases h8)
    cases h1
    have h2 := hc at_ (Row1.val (l5.getD at_ Row1.nul)) (by rw [List.getElem?_map, List.getD_eq_getElem?_getD, List.getElem?_eq_getElem (by omega)]; rfl)
    rwa [Nat.zero_add] at h2
  have q1 : (at_ : Int) < 7 := by omega
  have hne : w.heap.size ≠ g5 := by have := HW0.out; have := block_lt HK0.out; omega
  go_upto_region 3 with (fail)
  clear f5 c5' q1
  refine wp_nm fun w2 hw2 => ?_
  have HP := Lib.hid (show RowsP w2 (some ⟨g5, 0, none⟩) (l5.set at_ (EA, en, ec, eb)) by
    rw [← hw2]
    exact rows_set (A := none) HR5.out at_ (EA, en, ec, eb) hg5 w HB.out HW0.out HE.out)
  have HK2 := Lib.hid (show w2.heap[w.heap.size]? = some (.cells CC 28) by rw [← hw2]; exact has_set HK.out hne)
  have HB2 := Lib.hid (show Below w.heap.size w w2 by rw [← hw2]; exact kp_set HB.out (Nat.le_trans HW0.out hg5))
  have HLS := Lib.hid (show (l5.set at_ (EA, en, ec, eb)).map (·.2.2.2) = (elL sb nb is.data.toList ss.data.toList f t e).set at_ eb by rw [List.map_set, HL5.out])
  replace HB := HB2
  replace HK := HK2
  clear hw2 HB2 HK2
  have HXL := Lib.hid (show ((elL sb nb is.data.toList ss.data.toList f t e).set at_ eb).flatten.length ≤ 60000 by
    have h1 := HBL.out
    generalize (elL sb nb is.data.toList ss.data.toList f t e) = L at h1 ⊢
    have key : ∀ (L : List (List UInt8)) (j : Nat), (L.set j eb).flatten.length ≤ L.flatten.length + eb.length := by
      intro L
      induction L with
      | nil => intro j; simp
      | cons x r ih =>
        intro j
        cases j with
        | zero => simp only [List.set_cons_zero, List.flatten_cons, List.length_append]; omega
        | succ j =>
          have := ih j
          simp only [List.set_cons_succ, List.flatten_cons, List.length_append]; omega
    have := key L at_
    omega)
  refine wp_region_mono (by kernel_rfl) (by kernel_rfl) [14, 15, 16, 17, 18, 19, 6] (by rfl) (by decide) (by rfl) (fun j => ([MR.eq (.slice (some ⟨g5, 0, none⟩) 7 c5), MR.own (w.heap.size) (wrQ 48 ((elL sb nb is.data.toList ss.data.toList f t e).set at_ eb).flatten), MR.eq (.pointer (some ⟨w.heap.size, 2, none⟩)), MR.eq (sv g), MR.own (w.heap.size) (gb.take 100), MR.own (w.heap.size) (certB (wrQ 48 ((elL sb nb is.data.toList ss.data.toList f t e).set at_ eb).flatten) (gb.take 100)), MR.own (w.heap.size) (certB (wrQ 48 ((elL sb nb is.data.toList ss.data.toList f t e).set at_ eb).flatten) (gb.take 100))] : List MR).getD j MR.any) [] [] (by kernel_rfl) (by kernel_rfl) ?_ ?_
  · intro i hi ρ W E
    simp only [List.length_cons, List.length_nil] at hi
    have hbW : w.heap.size ≤ W.heap.size := Nat.le_trans HB.out.size E.up.size
    rcases (show i = 0 ∨ i = 1 ∨ i = 2 ∨ i = 3 ∨ i = 4 ∨ i = 5 ∨ i = 6 by omega) with rfl | rfl | rfl | rfl | rfl | rfl | rfl
    · -- 0: move t7
      refine mono_at (by rfl) rfl ?_
      have e7 : ρ (.tmp 7) = .slice (some ⟨g5, 0, none⟩) 7 c5 := E.old 7 rfl
      exact mo_move rfl ⟨Below.refl _ _, e7⟩
    · -- 1: call { value (Operand.func 28), args := #[t14], argTypes := 
      refine mono_at (by rfl) rfl ?_
      have e14 : ρ (.tmp 14) = .slice (some ⟨g5, 0, none⟩) 7 c5 := E.dep 0 (by kernel_rfl)
      refine mo_call rfl (E.fn _) (fun _ _ => by kernel_rfl) (args := #[.slice (some ⟨g5, 0, none⟩) 7 c5]) (by simp only [List.map_toArray, List.map_cons, List.map_nil, List.length_cons, List.length_nil, Nat.reduceAdd, E.cst, e14]) ?_
      exact seqM (bss := (elL sb nb is.data.toList ss.data.toList f t e).set at_ eb) (HP.out.below E.up) HLS.out (by rw [List.length_set, elL_len]) (by omega) (Nat.le_trans HXL.out (by omega)) hbW
    · -- 2: fieldAddr 28 t3 2
      refine mono_at (by rfl) rfl ?_
      have e3 : ρ (.tmp 3) = .pointer (some ⟨w.heap.size, 0, none⟩) := E.old 3 rfl
      exact mo_field (j' := 2) rfl e3 (fun w => by kernel_rfl) ⟨Below.refl _ _, rfl⟩
    · -- 3: load 22 t16
      refine mono_at (by rfl) rfl ?_
      have e16 : ρ (.tmp 16) = .pointer (some ⟨w.heap.size, 2, none⟩) := E.dep 2 (by kernel_rfl)
      exact mo_load1 rfl e16 (((Lib.cell_of_heap (has_below HK.out E.up) 2).trans C2.out)) (fun w => by kernel_rfl) ⟨Below.refl _ _, rfl⟩
    · -- 4: call { value (Operand.func 32), args := #[t17, const (100:i6
      refine mono_at (by rfl) rfl ?_
      have e17 : ρ (.tmp 17) = sv g := E.dep 3 (by kernel_rfl)
      refine mo_call rfl (E.fn _) (fun _ _ => by kernel_rfl) (args := #[sv g, .int .i64 100]) (by simp only [List.map_toArray, List.map_cons, List.map_nil, List.length_cons, List.length_nil, Nat.reduceAdd, E.cst, e17]) ?_
      exact fresh_own (short9_any g.1 g.2.1 g.2.2 gb 100 100 rfl W (HG.out.below (HB.out.trans (E.up.mono HB.out.size))) g1 (by omega)) hbW
    · -- 5: call { value (Operand.func 18), args := #[t15, t18], argType
      refine mono_at (by rfl) rfl ?_
      obtain ⟨A15, n15, c15, e15, o15⟩ : (MR.own (w.heap.size) (wrQ 48 ((elL sb nb is.data.toList ss.data.toList f t e).set at_ eb).flatten)).p (ρ (.tmp 15)) W := E.dep 1 (by kernel_rfl)
      obtain ⟨A18, n18, c18, e18, o18⟩ : (MR.own (w.heap.size) (gb.take 100)).p (ρ (.tmp 18)) W := E.dep 4 (by kernel_rfl)
      refine mo_call rfl (E.fn _) (fun _ _ => by kernel_rfl) (args := #[.slice A15 n15 c15, .slice A18 n18 c18]) (by simp only [List.map_toArray, List.map_cons, List.map_nil, List.length_cons, List.length_nil, Nat.reduceAdd, E.cst, e15, e18]) ?_
      exact fresh_own (wwrite_any A15 n15 c15 _ A18 n18 c18 _ W o15.rb o18.rb (by have h1 := o15.len; have h2 := wrQ_len 48 ((elL sb nb is.data.toList ss.data.toList f t e).set at_ eb).flatten (by exact Nat.le_trans HXL.out (by omega)); have h3 := HXL.out; omega) (by have h1 := o18.len; have h2 := take_len gb 100; omega)) hbW
    · -- 6: assign t19
      refine mono_at (by rfl) rfl ?_
      obtain ⟨A19, n19, c19, e19, o19⟩ : (MR.own (w.heap.size) (certB (wrQ 48 ((elL sb nb is.data.toList ss.data.toList f t e).set at_ eb).flatten) (gb.take 100))).p (ρ (.tmp 19)) W := E.dep 5 (by kernel_rfl)
      exact mo_assign rfl ⟨Below.refl _ _, _, _, _, e19, o19⟩
  · intro u W hbU hR
    obtain ⟨B6, m6, k6, hu6, ho6⟩ : (MR.own (w.heap.size) (certB (wrQ 48 ((elL sb nb is.data.toList ss.data.toList f t e).set at_ eb).flatten) (gb.take 100))).p (u 6) W := hR 6 (by decide)
    clear hR
    simp only [lay, Nat.reduceAdd, List.setIfInBounds_toArray, List.set_cons_zero, List.set_cons_succ, hu6]
    clear hu6
    have HO := Lib.hid ho6
    replace HB := Lib.hid (kp_call HB.out hbU)
    clear hbU ho6
    go_wp2
    go_ret
    refine ⟨B6, m6, k6, rfl, ?_, HB.out⟩
    exact HO.out
end Go.Proofs.Ytomolfdcdmncoaa
namespace Go.Proofs.Ytomolfdcdmncoaa
open Go.RowKit Go
set_option linter.unusedVariables false
set_option linter.unusedSimpArgs false
set_option maxRecDepth 100000
theorem trim_idem (l : List UInt8) : trimZ (trimZ l) = trimZ l := by
  induction l with
  | nil => rfl
  | cons d r ih =>
    rw [trimZ_cons]
    split
    · exact ih
    · rename_i h
      rw [trimZ_cons, if_neg h]
theorem nM_trim (nb : List UInt8) : trimZ (nM nb) = nM nb := trim_idem _
/-- How long what is written may be, told narrowly. -/
theorem exL_fit2 (ca : Bool) (path : Option UInt8) (us : Option Nat) (code : Bool) (hu : ∀ v, us = some v → v < 512) : ∀ p ∈ exL ca path us code, p.1.length ≤ 3 ∧ p.2.length ≤ 110 := by
  intro p hp
  unfold exL at hp
  rw [List.mem_append, List.mem_append] at hp
  rcases hp with hp | hp | hp
  · split at hp
    · simp only [List.mem_singleton] at hp
      subst hp
      have h1 := basB_len path
      have h2 := wrQ_len 48 (basB path) (by omega)
      exact ⟨by simp [o19], by simp only; omega⟩
    · cases hp
  · split at hp
    · cases hp
    · rename_i v
      simp only [List.mem_singleton] at hp
      subst hp
      have h1 := usB_len v (hu v rfl)
      have h2 := wrQ_len 3 (usB v) (by omega)
      exact ⟨by simp [o15], by simp only; omega⟩
  · split at hp
    · cases hp
    · simp only [List.mem_singleton] at hp
      subst hp
      exact ⟨by decide, by decide +kernel⟩
theorem exF_len2 : ∀ (l : List (List UInt8 × List UInt8)), (∀ p ∈ l, p.1.length ≤ 3 ∧ p.2.length ≤ 110) → (exF l).length ≤ 140 * l.length
  | [], _ => Nat.le_refl _
  | p :: r, h => by
    have h1 := exF_len2 r (fun q hq => h q (List.mem_cons_of_mem _ hq))
    have h2 := h p (List.mem_cons_self ..)
    have a := wrQ_len 6 p.1 (by omega)
    have b := wrQ_len 4 p.2 (by omega)
    have c := wrQ_len 48 (wrQ 6 p.1 ++ wrQ 4 p.2) (by rw [List.length_append]; omega)
    rw [List.length_append] at c
    have e : exF (p :: r) = extB p.1 p.2 ++ exF r := by simp [exF]
    rw [e, List.length_append, List.length_cons]
    unfold extB
    omega
theorem exW_len2 (ca : Bool) (path : Option UInt8) (us : Option Nat) (code : Bool) (hu : ∀ v, us = some v → v < 512) : (exW (exL ca path us code)).length ≤ 500 := by
  have hn := exL_len ca path us code
  have hl := exF_len2 _ (exL_fit2 ca path us code hu)
  have hm : 140 * (exL ca path us code).length ≤ 420 := by omega
  have hw := wrQ_len 48 (exF (exL ca path us code)) (by omega)
  have hw2 := wrQ_len 163 (wrQ 48 (exF (exL ca path us code))) (by omega)
  unfold exW
  split
  · exact Nat.zero_le _
  · omega
theorem bod_len2 (sb nb isb ssb : List UInt8) (f t : Tm) (e : Nat) : (bodM sb nb isb ssb f t e).length ≤ 2000 := by
  have h1 := serM_len sb
  have h2 := in_len _ (take_len isb 200)
  have h3 := in_len _ (take_len ssb 200)
  have h4 := nM_len nb
  have a := wrQ_len 2 (serM sb) (by omega)
  have b := wrQ_len 48 _ (Nat.le_trans h2 (by omega))
  have c := wrQ_len 48 _ (Nat.le_trans h3 (by omega))
  have d := spanB_len (fM f) (tM f t)
  have d2 := wrQ_len 48 (spanB (fM f) (tM f t)) (by omega)
  have g := spkB_len (nM nb) (e % 8589934592) (by omega)
  have g2 := wrQ_len 48 (spkB (nM nb) (e % 8589934592)) (by omega)
  have p : (wrQ 160 [2, 1, 2]).length = 5 := by decide +kernel
  have q : sgnB.length = 15 := rfl
  unfold bodM tbB
  simp only [List.length_append, List.length_nil]
  omega
theorem tbsM_is (sb nb isb ssb : List UInt8) (f t : Tm) (e : Nat) (ca code : Bool) (pa us : UInt8) : tbsM sb nb isb ssb f t e ca code pa us = wrQ 48 (bodM sb nb isb ssb f t e ++ exW (exL ca (pathM ca pa) (usM us) code)) := by
  unfold tbsM tbsB bodM tbB
  rw [nameB_is, nameB_is]
  simp only [List.append_assoc, List.append_nil, List.nil_append]
theorem cert_len (T sig : List UInt8) (h1 : T.length ≤ 100000) (h2 : sig.length ≤ 100000) : (certB T sig).length ≤ T.length + sig.length + 40 := by
  have a := wrQ_len 3 (0 :: sig) (by simp only [List.length_cons]; omega)
  have b : sgnB.length = 15 := rfl
  have c := wrQ_len 48 (T ++ (sgnB ++ wrQ 3 (0 :: sig))) (by simp only [List.length_append, List.length_cons] at *; omega)
  simp only [List.length_append, List.length_cons] at a c
  unfold certB
  omega
theorem tbsM_len (sb nb isb ssb : List UInt8) (f t : Tm) (e : Nat) (ca code : Bool) (pa us : UInt8) : (tbsM sb nb isb ssb f t e ca code pa us).length ≤ 2600 := by
  have h1 := bod_len2 sb nb isb ssb f t e
  have h2 := exW_len2 ca (pathM ca pa) (usM us) code (fun v h => (usM_fit us v h).2)
  have h3 := wrQ_len 48 (bodM sb nb isb ssb f t e ++ exW (exL ca (pathM ca pa) (usM us) code)) (by rw [List.length_append]; omega)
  rw [List.length_append] at h3
  rw [tbsM_is]
  omega
theorem rawM_len (sb nb gb isb ssb : List UInt8) (f t : Tm) (e : Nat) (ca code : Bool) (pa us : UInt8) : (rawM sb nb gb isb ssb f t e ca code pa us).length ≤ 3300 := by
  have h1 := tbsM_len sb nb isb ssb f t e ca code pa us
  have h2 := take_len gb 600
  have h3 := cert_len _ (gb.take 600) (Nat.le_trans h1 (by omega)) (by omega)
  unfold rawM
  omega
theorem serM_ok (sb : List UInt8) : seQ (wrQ 2 (serM sb), serM sb) = some (serM sb) := by
  refine se_wr (1 :: sb.take 18) ?_ (by have := take_len sb 18; simp only [List.length_cons]; omega)
  rw [trimZ_cons, if_neg (by decide)]
  simp
/-- A case's certificate, as it is read. -/
theorem made_reads (sb nb gb isb ssb : List UInt8) (f t : Tm) (e : Nat) (ca code : Bool) (pa us : UInt8) :
    certQ (rawM sb nb gb isb ssb f t e ca code pa us) = .inr ⟨rawM sb nb gb isb ssb f t e ca code pa us, tbsM sb nb isb ssb f t e ca code pa us, nameB (isb.take 200), nameB (ssb.take 200), serM sb, fM f, tM f t, nM nb, e % 8589934592, gb.take 600, ca, pathI (pathM ca pa), usI (usM us), code⟩ := by
  have h1 := serM_len sb
  have h2 := in_len _ (take_len isb 200)
  have h3 := in_len _ (take_len ssb 200)
  have h4 := nM_len nb
  have h5 := take_len gb 600
  have hr := rawM_len sb nb gb isb ssb f t e ca code pa us
  have h := cert_wr (serM sb) (wrQ 49 (wrQ 48 (wrQ 6 [85, 4, 3] ++ wrQ 12 (isb.take 200)))) (fM f) (tM f t) (wrQ 49 (wrQ 48 (wrQ 6 [85, 4, 3] ++ wrQ 12 (ssb.take 200)))) (nM nb) (e % 8589934592) ca (pathM ca pa) (usM us) code (gb.take 600) (serM_ok sb)
    (by omega) (by omega) (by omega) (by omega) (by omega) (by omega) (fM_right f) (tM_right f t) (tM_less f t) (usM_fit us) (chk_name _ (by have := take_len isb 200; omega)) (chk_name _ (by have := take_len ssb 200; omega))
    (tbsM sb nb isb ssb f t e ca code pa us) (by unfold tbsM tbsB tbB; rw [nameB_is, nameB_is]) (by unfold rawM at hr; omega)
  rw [nM_trim] at h
  have hp : (if ca then pathI (pathM ca pa) else -1) = pathI (pathM ca pa) := by
    cases ca with
    | true => rfl
    | false => rfl
  rw [hp] at h
  exact h
theorem split_cut9 (t : UInt8) (b : List UInt8) (ht : t.toNat % 32 ≠ 31) (hb : b.length < 4294967296) (k : Nat) (hk : k < (wrQ t b).length) : splitQ ((wrQ t b).take k) = none := by
  cases h : splitQ ((wrQ t b).take k) with
  | none => rfl
  | some p =>
    obtain ⟨s, e⟩ := p
    exfalso
    obtain ⟨_, hse, hel⟩ := splitQ_le h
    have hw := wr_split h
    have htg := splitQ_tag h
    have hsm := splitQ_small h
    have hbl : ((((wrQ t b).take k).take e).drop s).length = e - s := by simp only [List.length_drop, List.length_take] at hel ⊢; omega
    have hel2 : e ≤ k := by simp only [List.length_take] at hel; omega
    have hfull := split_wr t b [] ht hb
    rw [List.append_nil] at hfull
    have e1 : wrQ t b = ((wrQ t b).take k).take e ++ (wrQ t b).drop e := by
      rw [List.take_take, show min e k = e by omega, List.take_append_drop]
    have h2 := split_wr (((wrQ t b).take k).getD 0 0) ((((wrQ t b).take k).take e).drop s) ((wrQ t b).drop e) htg (by omega)
    rw [← hw, ← e1, hfull] at h2
    simp only [Option.some.injEq, Prod.mk.injEq] at h2
    have h3 := h2.2
    rw [List.length_take, List.length_take] at h3
    omega
/-- What is cut is refused. -/
theorem cut_no (t : UInt8) (b : List UInt8) (ht : t.toNat % 32 ≠ 31) (hb : b.length < 4294967296) (k : Nat) (hk : k < (wrQ t b).length) (hk2 : k ≤ 8192) : certQ ((wrQ t b).take k) = .inl 9 := by
  have hc : checkQ ((wrQ t b).take k) = 9 := by
    unfold checkQ
    by_cases h0 : k = 0
    · subst h0
      rw [List.take_zero, allQ_nil]
    · rw [allQ_none (by
        intro h
        have := congrArg List.length h
        simp only [List.length_take, List.length_nil] at this
        omega) (split_cut9 t b ht hb k hk)]
  unfold certQ
  rw [if_neg (by rw [List.length_take]; omega), if_pos (by rw [hc]; decide), hc]
/-- What has something behind it is refused. -/
theorem more_no (t : UInt8) (b more : List UInt8) (ht : t.toNat % 32 ≠ 31) (hb : b.length < 4294967296) (hm : more ≠ []) (hl : (wrQ t b ++ more).length ≤ 8192) : certQ (wrQ t b ++ more) = .inl 9 := by
  have hc : checkQ (wrQ t b ++ more) = 9 := by
    unfold checkQ
    rw [allQ_wr9 t ht b more hb]
    cases h : allQ more with
    | none => rfl
    | some l =>
      cases l with
      | nil =>
        exfalso
        cases hs : splitQ more with
        | none =>
          rw [allQ_none hm hs] at h
          cases h
        | some p =>
          obtain ⟨s, e⟩ := p
          rw [allQ_some hs] at h
          cases h2 : allQ (more.drop e) with
          | none => rw [h2] at h; cases h
          | some l => rw [h2] at h; cases h
      | cons x r => rfl
  unfold certQ
  rw [if_neg (by omega), if_pos (by rw [hc]; decide), hc]
theorem check_nil : certQ [] = .inl 9 := by
  have hc : checkQ [] = 9 := by unfold checkQ; rw [allQ_nil]
  unfold certQ
  rw [if_neg (by simp), if_pos (by rw [hc]; decide), hc]
end Go.Proofs.Ytomolfdcdmncoaa
namespace Go.Proofs.Ytomolfdcdmncoaa
open Go.RowKit Go
set_option linter.unusedVariables false
set_option linter.unusedSimpArgs false
set_option maxRecDepth 100000
theorem wpList_load_rowG9 {P : Program} {ops : Array Oper} {rest : List Oper} {o : Oper} {a : Act} {w : World} {Q : Exit → Act → World → Prop} (hw : Region.wanted o (yielded ops a.tmps) = true) (ty : TypeId) (x : Operand) (ho : o.op = .load ty x)
    (g : Nat) (hx : a.eval x = .pointer (some ⟨g, 0, none⟩)) (t : TypeId) (cs : Array Value) (fr : Nat × Nat) (d : TypeDesc) (hg : w.heap[g]? = some (.cells cs t fr))
    (hu : P.underlying ty = some d) (hd : (match d with | .struct _ | .array _ _ => true | _ => false) = true) (hi : (P.info? ty).map (·.size) = some cs.size)
    (h : wpList P ops Q rest (a.put o.dst (.agg cs)) w) : wpList P ops Q (o :: rest) a w :=
  wpList_step fun K hK => by
    rw [if_pos hw]
    exact wp_load_row ty x ho g hx t cs fr d hg hu hd hi (hK _ _ h)
def s7 (a b c d e f g : S3) : Nat → S3
  | 0 => a | 1 => b | 2 => c | 3 => d | 4 => e | 5 => f | _ => g
def l7 (a b c d e f g : List UInt8) : Nat → List UInt8
  | 0 => a | 1 => b | 2 => c | 3 => d | 4 => e | 5 => f | _ => g
theorem rb7 {w : World} {a b c d e f g : S3} {la lb lc ld le lf lg : List UInt8} (h0 : RB w a.1 a.2.1 la) (h1 : RB w b.1 b.2.1 lb) (h2 : RB w c.1 c.2.1 lc) (h3 : RB w d.1 d.2.1 ld) (h4 : RB w e.1 e.2.1 le) (h5 : RB w f.1 f.2.1 lf) (h6 : RB w g.1 g.2.1 lg) : ∀ k, k < 7 → RB w (s7 a b c d e f g k).1 (s7 a b c d e f g k).2.1 (l7 la lb lc ld le lf lg k) := by
  intro k hk
  rcases (show k = 0 ∨ k = 1 ∨ k = 2 ∨ k = 3 ∨ k = 4 ∨ k = 5 ∨ k = 6 by omega) with rfl | rfl | rfl | rfl | rfl | rfl | rfl <;> assumption
/-- Two certificates with the same bytes and values are the same. -/
theorem same12_s {raw tbs iss sub ser nn sig raw' tbs' iss' sub' ser' nn' sig' : S3} {l0 l1 l2 l3 l4 l5 l6 : List UInt8} (f t : Tm) (e : Nat) (x : Xt) (w : World)
    (a0 : RB w raw.1 raw.2.1 l0) (a1 : RB w tbs.1 tbs.2.1 l1) (a2 : RB w iss.1 iss.2.1 l2) (a3 : RB w sub.1 sub.2.1 l3) (a4 : RB w ser.1 ser.2.1 l4) (a5 : RB w nn.1 nn.2.1 l5) (a6 : RB w sig.1 sig.2.1 l6)
    (b0 : RB w raw'.1 raw'.2.1 l0) (b1 : RB w tbs'.1 tbs'.2.1 l1) (b2 : RB w iss'.1 iss'.2.1 l2) (b3 : RB w sub'.1 sub'.2.1 l3) (b4 : RB w ser'.1 ser'.2.1 l4) (b5 : RB w nn'.1 nn'.2.1 l5) (b6 : RB w sig'.1 sig'.2.1 l6) :
    Calls Try.prog 16 #[.agg (certC raw tbs iss sub ser f t nn e sig x), .agg (certC raw' tbs' iss' sub' ser' f t nn' e sig' x)] w fun e' w' => e' = .returned (.bool true) ∧ Below w.heap.size w w' :=
  same12_yes (s7 raw tbs iss sub ser nn sig) (s7 raw' tbs' iss' sub' ser' nn' sig') (l7 l0 l1 l2 l3 l4 l5 l6) f t e x w (rb7 a0 a1 a2 a3 a4 a5 a6) (rb7 b0 b1 b2 b3 b4 b5 b6)
theorem w_path : pathI (pathM true 2) = 1 := by decide +kernel
theorem w_us : usI (usM 16) = 32 := by decide +kernel
set_option maxHeartbeats 8000000 in
theorem works12_any (w : World) : Calls Try.prog 13 #[] w fun e w' => e = .returned (.bool true) ∧ Below w.heap.size w w' := by
  go_enter Try.func13, Try.ntmps13
  go_wp2_with (refine wpList_buildTo rfl 28 _ rfl _ rfl (caseC n0S (some ⟨w.heap.size, 0, none⟩, 2, 2) (some ⟨w.heap.size + 1, 0, none⟩, 1, 1) ⟨#[97]⟩ ⟨#[98]⟩ Tm.zero Tm.zero 3 true true 2 16) (by kernel_rfl) ?_)
  refine calls_nm fun w1 hw1 => ?_
  have HB := Lib.hid (show Below w.heap.size w w1 by rw [← hw1]; exact kp_alloc (kp_alloc (Below.refl _ _) _) _)
  have hN : RB w1 (some ⟨w.heap.size, 0, none⟩) 2 [5, 6] := by
    rw [← hw1]
    exact (own_lit w [5, 6] 2 _ rfl rfl (by omega)).rb.alloc _
  have hG : RB w1 (some ⟨w.heap.size + 1, 0, none⟩) 1 [7] := by
    rw [← hw1]
    have h9 := (own_lit (w.alloc (.cells #[.int .u8 5, .int .u8 6] 5)) [7] 1 #[.int .u8 7] rfl rfl (by omega)).rb
    simp only [World.size_alloc] at h9
    exact h9
  have hS : RB w1 none 0 [] := ⟨rfl, fun h => absurd rfl h⟩
  clear hw1
  refine (made_any n0S (some ⟨w.heap.size, 0, none⟩, 2, 2) (some ⟨w.heap.size + 1, 0, none⟩, 1, 1) ⟨#[97]⟩ ⟨#[98]⟩ Tm.zero Tm.zero 3 true true 2 16 [] [5, 6] [7] w1 hS hN hG (Nat.le_refl _) (Nat.le_refl _) (Nat.le_refl _) (by decide) (by decide) (by decide) (by decide)).mono ?_
  rintro e' w2 ⟨raw, tbs, iss, sub, ser, nn, sig, A, n, c, rfl, hM, hraw, htb, hA, hb⟩
  clear hN hG hS
  have HRL := Lib.hid (rawM_len [] [5, 6] [7] (⟨#[97]⟩ : ByteArray).data.toList (⟨#[98]⟩ : ByteArray).data.toList Tm.zero Tm.zero 3 true true 2 16)
  have HQ := Lib.hid (made_reads [] [5, 6] [7] (⟨#[97]⟩ : ByteArray).data.toList (⟨#[98]⟩ : ByteArray).data.toList Tm.zero Tm.zero 3 true true 2 16)
  have e3 : 3 % 8589934592 = 3 := rfl
  rw [w_path, w_us, e3] at HQ ⊢
  generalize rawM [] [5, 6] [7] (⟨#[97]⟩ : ByteArray).data.toList (⟨#[98]⟩ : ByteArray).data.toList Tm.zero Tm.zero 3 true true 2 16 = R at *
  generalize tbsM [] [5, 6] (⟨#[97]⟩ : ByteArray).data.toList (⟨#[98]⟩ : ByteArray).data.toList Tm.zero Tm.zero 3 true true 2 16 = T at *
  generalize nameB (List.take 200 (⟨#[97]⟩ : ByteArray).data.toList) = I at *
  generalize nameB (List.take 200 (⟨#[98]⟩ : ByteArray).data.toList) = S at *
  generalize serM ([] : List UInt8) = E at *
  generalize nM [5, 6] = N at *
  generalize List.take 600 ([7] : List UInt8) = G at *
  generalize fM Tm.zero = F at *
  generalize tM Tm.zero Tm.zero = U at *
  clear e3
  have hnR : n ≤ 3300 := by rw [← hA.len]; exact HRL.out
  have X := Lib.hid (And.intro hM (And.intro hraw htb))
  have HA := Lib.hid hA
  replace HB := Lib.hid (kp_call HB.out hb)
  clear hM hraw htb hA hb
  obtain ⟨D1, HD1⟩ : ∃ x, Hid (certC raw tbs iss sub ser F U nn 3 sig ⟨true, 1, 32, true⟩ = x) := ⟨_, Lib.hid rfl⟩
  have ID1 : Hid ((Try.prog.info? 33).map (·.size) = some D1.size) := by rw [← HD1.out]; exact Lib.hid (certC_info ..)
  rw [HD1.out]
  go_upto_region 2 with (refine wpList_store_row rfl _ _ _ rfl w2.heap.size D1 rfl rfl _ _ (has_new w2 _) ID1.out (by rw [← HD1.out]; rfl) (by rw [← HD1.out]; exact certC_one ..) ?_)
  refine wp_nm fun w3 hw3 => ?_
  have HC1 := Lib.hid (show w3.heap[w2.heap.size]? = some (.cells D1 33) by rw [← hw3]; exact setRow_heap _ _ _ _ _ _ (has_new w2 _))
  have hb3 : Below w2.heap.size w2 w3 := by rw [← hw3]; exact below_setRow (kp_alloc (Below.refl _ _) _) (Nat.le_refl _) _
  replace X := Lib.hid (And.intro (X.out.1.call hb3) (And.intro (OwnB.below X.out.2.1 hb3 (Nat.le_refl _)) (OwnB.below X.out.2.2 hb3 (Nat.le_refl _))))
  replace HA := Lib.hid (HA.out.below hb3 (Nat.le_refl _))
  replace HB := Lib.hid (kp_call HB.out hb3)
  clear hw3 hb3
  go_wp2_with fail
  refine (cparse_any A n c R w3 HA.out.rb HA.out.cap.1 HA.out.cap.2 (by omega)).mono ?_
  intro e' w4 hp
  unfold CeP at hp
  rw [HQ.out] at hp
  obtain ⟨⟨raw', tbs', iss', sub', ser', nn', sig', rfl, q0, q1, q2, q3, q4, q5, q6, _, _, _⟩, hb⟩ := hp
  have Y := Lib.hid (show OwnS3 w4 w3.heap.size raw' R ∧ OwnS3 w4 w3.heap.size tbs' T ∧ OwnS3 w4 w3.heap.size iss' I ∧ OwnS3 w4 w3.heap.size sub' S ∧ OwnS3 w4 w3.heap.size ser' E ∧ OwnS3 w4 w3.heap.size nn' N ∧ OwnS3 w4 w3.heap.size sig' G from ⟨q0, q1, q2, q3, q4, q5, q6⟩)
  replace X := Lib.hid (And.intro (X.out.1.call hb) (And.intro (OwnB.below X.out.2.1 hb (Nat.le_refl _)) (OwnB.below X.out.2.2 hb (Nat.le_refl _))))
  replace HB := Lib.hid (kp_call HB.out hb)
  replace HC1 := Lib.hid (has_below HC1.out hb)
  clear q0 q1 q2 q3 q4 q5 q6 hb HA HQ HRL hnR
  obtain ⟨D2, HD2⟩ : ∃ x, Hid (certC raw' tbs' iss' sub' ser' F U nn' 3 sig' ⟨true, 1, 32, true⟩ = x) := ⟨_, Lib.hid rfl⟩
  have ID2 : Hid ((Try.prog.info? 33).map (·.size) = some D2.size) := by rw [← HD2.out]; exact Lib.hid (certC_info ..)
  simp only [Ce.xt]
  rw [HD2.out]
  go_upto_region 3 with (refine wpList_store_row rfl _ _ _ rfl w4.heap.size D2 rfl rfl _ _ (has_new w4 _) ID2.out (by rw [← HD2.out]; rfl) (by rw [← HD2.out]; exact certC_one ..) ?_)
  refine wp_nm fun w5 hw5 => ?_
  have HC2 := Lib.hid (show w5.heap[w4.heap.size]? = some (.cells D2 33) by rw [← hw5]; exact setRow_heap _ _ _ _ _ _ (has_new w4 _))
  have hb5 : Below w4.heap.size w4 w5 := by rw [← hw5]; exact below_setRow (kp_alloc (Below.refl _ _) _) (Nat.le_refl _) _
  replace X := Lib.hid (And.intro (X.out.1.call hb5) (And.intro (OwnB.below X.out.2.1 hb5 (Nat.le_refl _)) (OwnB.below X.out.2.2 hb5 (Nat.le_refl _))))
  replace HB := Lib.hid (kp_call HB.out hb5)
  replace HC1 := Lib.hid (has_below HC1.out hb5)
  have YB := Lib.hid hb5
  clear hw5 hb5
  go_wp2_with fail
  refine (cparse_any none 0 0 [] w5 ⟨rfl, fun h => absurd rfl h⟩ (by omega) (by omega) (by omega)).mono ?_
  intro e' w6 hp
  unfold CeP at hp
  rw [check_nil] at hp
  obtain ⟨rfl, hb⟩ := hp
  replace X := Lib.hid (And.intro (X.out.1.call hb) (And.intro (OwnB.below X.out.2.1 hb (Nat.le_refl _)) (OwnB.below X.out.2.2 hb (Nat.le_refl _))))
  replace HB := Lib.hid (kp_call HB.out hb)
  replace HC1 := Lib.hid (has_below HC1.out hb)
  replace HC2 := Lib.hid (has_below HC2.out hb)
  replace YB := Lib.hid (kp_call YB.out hb)
  clear hb
  obtain ⟨D3, HD3⟩ : ∃ x, Hid (cert0 = x) := ⟨_, Lib.hid rfl⟩
  have ID3 : Hid ((Try.prog.info? 33).map (·.size) = some D3.size) := by rw [← HD3.out]; unfold Hid; kernel_rfl
  rw [HD3.out]
  go_upto_region 4 with (refine wpList_store_row rfl _ _ _ rfl w6.heap.size D3 rfl rfl _ _ (has_new w6 _) ID3.out (by rw [← HD3.out]; rfl) (by rw [← HD3.out]; simp [cert0, Value.oneCell']) ?_)
  refine wp_nm fun w7 hw7 => ?_
  have hb7 : Below w6.heap.size w6 w7 := by rw [← hw7]; exact below_setRow (kp_alloc (Below.refl _ _) _) (Nat.le_refl _) _
  replace X := Lib.hid (And.intro (X.out.1.call hb7) (And.intro (OwnB.below X.out.2.1 hb7 (Nat.le_refl _)) (OwnB.below X.out.2.2 hb7 (Nat.le_refl _))))
  replace HB := Lib.hid (kp_call HB.out hb7)
  replace HC1 := Lib.hid (has_below HC1.out hb7)
  replace HC2 := Lib.hid (has_below HC2.out hb7)
  replace YB := Lib.hid (kp_call YB.out hb7)
  clear hw7 hb7 HD3 ID3
  go_wp2_with (first | (refine wpList_load_rowG9 rfl _ _ rfl w2.heap.size rfl _ D1 _ _ HC1.out Try.underlying33 rfl ID1.out ?_) | (refine wpList_load_rowG9 rfl _ _ rfl w4.heap.size rfl _ D2 _ _ HC2.out Try.underlying33 rfl ID2.out ?_))
  have E20 : Hid (D2[20]? = some (.bool true)) := by rw [← HD2.out]; exact Lib.hid rfl
  have E21 : Hid (D2[21]? = some (.int .i64 1)) := by rw [← HD2.out]; exact Lib.hid rfl
  have E22 : Hid (D2[22]? = some (.int .i64 32)) := by rw [← HD2.out]; exact Lib.hid rfl
  have E23 : Hid (D2[23]? = some (.bool true)) := by rw [← HD2.out]; exact Lib.hid rfl
  have E18 : Hid (D2[18]? = some (.int .u64 3)) := by rw [← HD2.out]; exact Lib.hid rfl
  rw [← HD1.out, ← HD2.out]
  obtain ⟨y0, y1, y2, y3, y4, y5, y6⟩ := Y.out
  refine (same12_s (l0 := R) (l1 := T) (l2 := I) (l3 := S) (l4 := E) (l5 := N) (l6 := G) F U 3 ⟨true, 1, 32, true⟩ w7 (OwnB.rb X.out.2.1) (OwnB.rb X.out.2.2) (OwnB.rb X.out.1.i) (OwnB.rb X.out.1.s) (OwnB.rb X.out.1.r) (OwnB.rb X.out.1.n) (OwnB.rb X.out.1.g)
    ((OwnB.rb y0).below YB.out) ((OwnB.rb y1).below YB.out) ((OwnB.rb y2).below YB.out) ((OwnB.rb y3).below YB.out) ((OwnB.rb y4).below YB.out) ((OwnB.rb y5).below YB.out) ((OwnB.rb y6).below YB.out)).mono ?_
  rw [HD1.out, HD2.out]
  rintro e' w8 ⟨rfl, hb⟩
  replace HB := Lib.hid (kp_call HB.out hb)
  replace HC2 := Lib.hid (has_below HC2.out hb)
  have c20 := (Lib.cell_of_heap HC2.out 20).trans E20.out
  have c21 := (Lib.cell_of_heap HC2.out 21).trans E21.out
  have c22 := (Lib.cell_of_heap HC2.out 22).trans E22.out
  have c23 := (Lib.cell_of_heap HC2.out 23).trans E23.out
  have c18 := (Lib.cell_of_heap HC2.out 18).trans E18.out
  clear hb y0 y1 y2 y3 y4 y5 y6
  go_wp2
  go_ret
  exact ⟨rfl, HB.out⟩
end Go.Proofs.Ytomolfdcdmncoaa
namespace Go.Proofs.Ytomolfdcdmncoaa
open Go.RowKit Go
set_option linter.unusedVariables false
set_option maxRecDepth 100000
structure KC where
  s : S3
  n : S3
  g : S3
  is : ByteArray
  ss : ByteArray
  f : Tm
  t : Tm
  e : Nat
  ca : Bool
  code : Bool
  pa : UInt8
  us : UInt8
  sb : List UInt8
  nb : List UInt8
  gb : List UInt8
def KC.cells (k : KC) : Array Value := caseC k.s k.n k.g k.is k.ss k.f k.t k.e k.ca k.code k.pa k.us
def KC.val (k : KC) : Value := .agg k.cells
structure IsKC (w : World) (k : KC) : Prop where
  s : IsBs w k.s.1 k.s.2.1 k.s.2.2 k.sb
  n : IsBs w k.n.1 k.n.2.1 k.n.2.2 k.nb
  g : IsBs w k.g.1 k.g.2.1 k.g.2.2 k.gb
  is : k.is.size ≤ maxLen
  ss : k.ss.size ≤ maxLen
  f : k.f.y < 65536
  t : k.t.y < 65536
  e : k.e < 18446744073709551616
theorem six9 {α : Type} {l : List α} (h : l.length = 6) : ∃ a b c d e f, l = [a, b, c, d, e, f] := by
  match l, h with
  | [a, b, c, d, e, f], _ => exact ⟨a, b, c, d, e, f, rfl⟩
section
open Go.ChangeShapes Go.WideShapes Go.ChangeAt Go.Joins
theorem slice_of9 {H : Type} {enc : TypeId × Value → H} {W : World} {base n : Nat} {sp : Nat → Bool} {c : Value} {x : DataW H × List MemPlace} (h : DataW.trod enc Try.prog W base sp true n 22 [c] = some x) : ∃ A n k, c = Value.slice A n k := by
  rcases DataW.trod_slice Try.underlying22 h with ⟨e, _⟩ | ⟨a, l, k, _, _, _, _, e, _⟩
  · injection e with e _; exact ⟨_, _, _, e⟩
  · injection e with e _; exact ⟨_, _, _, e⟩
theorem open_kc {H : Type} {enc : TypeId × Value → H} {W : World} {cs0 : List Value} {n0 : Nat} {x0 : DataW H × List MemPlace} (hsz : cs0.length = 22) (hf : DataW.trod enc Try.prog W 0 (fun _ => true) true n0 28 cs0 = some x0) : ∃ x : KC, Value.agg cs0.toArray = x.val ∧ IsKC W x := by
  obtain ⟨xs, n, _, _, _, hlen, hg⟩ := DataW.trod_struct Try.underlying28 hf
  have ct : Try.prog.cellsOf 25 = 6 := by kernel_rfl
  have cb : Try.prog.cellsOf 22 = 1 := by kernel_rfl
  have cs : Try.prog.cellsOf 9 = 1 := by kernel_rfl
  have cU8 : Try.prog.cellsOf 5 = 1 := by kernel_rfl
  have cU16 : Try.prog.cellsOf 23 = 1 := by kernel_rfl
  have cU64 : Try.prog.cellsOf 26 = 1 := by kernel_rfl
  have cbo : Try.prog.cellsOf 4 = 1 := by kernel_rfl
  match cs0, hsz with
  | [c0, c1, c2, c3, c4, c5, c6, c7, c8, c9, c10, c11, c12, c13, c14, c15, c16, c17, c18, c19, c20, c21], _ =>
    match xs, hlen with
    | [y0, y1, y2, y3, y4, y5, y6, y7, y8, y9, y10, y11], _ =>
      have g0 : DataW.trod enc Try.prog W 0 (fun _ => true) true n 22 [c0] = some y0 := by simpa [Value.cells, cb] using hg 0 _ rfl
      obtain ⟨A0, n0, k0, rfl⟩ : ∃ A n k, c0 = Value.slice A n k := slice_of9 g0
      obtain ⟨b0, B0⟩ := open_bs Try.underlying22 Try.underlying5 (by kernel_rfl) (show DataW.trod enc Try.prog W 0 (fun _ => true) true n 22 (Value.slice A0 n0 k0).cells.toList = some (y0.1, y0.2) by simpa [Value.cells] using g0)
      have g1 : DataW.trod enc Try.prog W 0 (fun _ => true) true n 22 [c1] = some y1 := by simpa [Value.cells, cb] using hg 1 _ rfl
      obtain ⟨A1, n1, k1, rfl⟩ : ∃ A n k, c1 = Value.slice A n k := slice_of9 g1
      obtain ⟨b1, B1⟩ := open_bs Try.underlying22 Try.underlying5 (by kernel_rfl) (show DataW.trod enc Try.prog W 0 (fun _ => true) true n 22 (Value.slice A1 n1 k1).cells.toList = some (y1.1, y1.2) by simpa [Value.cells] using g1)
      have g2 : DataW.trod enc Try.prog W 0 (fun _ => true) true n 22 [c2] = some y2 := by simpa [Value.cells, cb] using hg 2 _ rfl
      obtain ⟨A2, n2, k2, rfl⟩ : ∃ A n k, c2 = Value.slice A n k := slice_of9 g2
      obtain ⟨b2, B2⟩ := open_bs Try.underlying22 Try.underlying5 (by kernel_rfl) (show DataW.trod enc Try.prog W 0 (fun _ => true) true n 22 (Value.slice A2 n2 k2).cells.toList = some (y2.1, y2.2) by simpa [Value.cells] using g2)
      have g3 : DataW.trod enc Try.prog W 0 (fun _ => true) true n 9 [c3] = some y3 := by simpa [Value.cells, cs, cb] using hg 3 _ rfl
      obtain ⟨z3, e3, _, w3⟩ := DataW.trod_string Try.underlying9 g3
      injection e3 with e3 _
      subst e3
      have g4 : DataW.trod enc Try.prog W 0 (fun _ => true) true n 9 [c4] = some y4 := by simpa [Value.cells, cs, cb] using hg 4 _ rfl
      obtain ⟨z4, e4, _, w4⟩ := DataW.trod_string Try.underlying9 g4
      injection e4 with e4 _
      subst e4
      have g5 : DataW.trod enc Try.prog W 0 (fun _ => true) true n 25 [c5, c6, c7, c8, c9, c10] = some y5 := by simpa [Value.cells, ct, cb, cs] using hg 5 _ rfl
      obtain ⟨us5, m5, _, _, _, hlu5, hgu5⟩ := DataW.trod_struct Try.underlying25 g5
      obtain ⟨u50, u51, u52, u53, u54, u55, rfl⟩ := six9 hlu5
      have f50 : DataW.trod enc Try.prog W 0 (fun _ => true) true m5 23 [c5] = some u50 := by simpa [Value.cells, cU8, cU16] using hgu5 0 _ rfl
      obtain ⟨z50, e50, _, w50⟩ := DataW.trod_int Try.underlying23 f50
      injection e50 with e50 _
      subst e50
      have f51 : DataW.trod enc Try.prog W 0 (fun _ => true) true m5 5 [c6] = some u51 := by simpa [Value.cells, cU8, cU16] using hgu5 1 _ rfl
      obtain ⟨z51, e51, _, w51⟩ := DataW.trod_int Try.underlying5 f51
      injection e51 with e51 _
      subst e51
      have f52 : DataW.trod enc Try.prog W 0 (fun _ => true) true m5 5 [c7] = some u52 := by simpa [Value.cells, cU8, cU16] using hgu5 2 _ rfl
      obtain ⟨z52, e52, _, w52⟩ := DataW.trod_int Try.underlying5 f52
      injection e52 with e52 _
      subst e52
      have f53 : DataW.trod enc Try.prog W 0 (fun _ => true) true m5 5 [c8] = some u53 := by simpa [Value.cells, cU8, cU16] using hgu5 3 _ rfl
      obtain ⟨z53, e53, _, w53⟩ := DataW.trod_int Try.underlying5 f53
      injection e53 with e53 _
      subst e53
      have f54 : DataW.trod enc Try.prog W 0 (fun _ => true) true m5 5 [c9] = some u54 := by simpa [Value.cells, cU8, cU16] using hgu5 4 _ rfl
      obtain ⟨z54, e54, _, w54⟩ := DataW.trod_int Try.underlying5 f54
      injection e54 with e54 _
      subst e54
      have f55 : DataW.trod enc Try.prog W 0 (fun _ => true) true m5 5 [c10] = some u55 := by simpa [Value.cells, cU8, cU16] using hgu5 5 _ rfl
      obtain ⟨z55, e55, _, w55⟩ := DataW.trod_int Try.underlying5 f55
      injection e55 with e55 _
      subst e55
      have bd5 := bounds_u16 w50
      have v50 : ((z50.toNat : Nat) : Int) = z50 := by omega
      have v51 := byte_of_wf w51
      have v52 := byte_of_wf w52
      have v53 := byte_of_wf w53
      have v54 := byte_of_wf w54
      have v55 := byte_of_wf w55
      have g6 : DataW.trod enc Try.prog W 0 (fun _ => true) true n 25 [c11, c12, c13, c14, c15, c16] = some y6 := by simpa [Value.cells, ct, cb, cs] using hg 6 _ rfl
      obtain ⟨us6, m6, _, _, _, hlu6, hgu6⟩ := DataW.trod_struct Try.underlying25 g6
      obtain ⟨u60, u61, u62, u63, u64, u65, rfl⟩ := six9 hlu6
      have f60 : DataW.trod enc Try.prog W 0 (fun _ => true) true m6 23 [c11] = some u60 := by simpa [Value.cells, cU8, cU16] using hgu6 0 _ rfl
      obtain ⟨z60, e60, _, w60⟩ := DataW.trod_int Try.underlying23 f60
      injection e60 with e60 _
      subst e60
      have f61 : DataW.trod enc Try.prog W 0 (fun _ => true) true m6 5 [c12] = some u61 := by simpa [Value.cells, cU8, cU16] using hgu6 1 _ rfl
      obtain ⟨z61, e61, _, w61⟩ := DataW.trod_int Try.underlying5 f61
      injection e61 with e61 _
      subst e61
      have f62 : DataW.trod enc Try.prog W 0 (fun _ => true) true m6 5 [c13] = some u62 := by simpa [Value.cells, cU8, cU16] using hgu6 2 _ rfl
      obtain ⟨z62, e62, _, w62⟩ := DataW.trod_int Try.underlying5 f62
      injection e62 with e62 _
      subst e62
      have f63 : DataW.trod enc Try.prog W 0 (fun _ => true) true m6 5 [c14] = some u63 := by simpa [Value.cells, cU8, cU16] using hgu6 3 _ rfl
      obtain ⟨z63, e63, _, w63⟩ := DataW.trod_int Try.underlying5 f63
      injection e63 with e63 _
      subst e63
      have f64 : DataW.trod enc Try.prog W 0 (fun _ => true) true m6 5 [c15] = some u64 := by simpa [Value.cells, cU8, cU16] using hgu6 4 _ rfl
      obtain ⟨z64, e64, _, w64⟩ := DataW.trod_int Try.underlying5 f64
      injection e64 with e64 _
      subst e64
      have f65 : DataW.trod enc Try.prog W 0 (fun _ => true) true m6 5 [c16] = some u65 := by simpa [Value.cells, cU8, cU16] using hgu6 5 _ rfl
      obtain ⟨z65, e65, _, w65⟩ := DataW.trod_int Try.underlying5 f65
      injection e65 with e65 _
      subst e65
      have bd6 := bounds_u16 w60
      have v60 : ((z60.toNat : Nat) : Int) = z60 := by omega
      have v61 := byte_of_wf w61
      have v62 := byte_of_wf w62
      have v63 := byte_of_wf w63
      have v64 := byte_of_wf w64
      have v65 := byte_of_wf w65
      have g7 : DataW.trod enc Try.prog W 0 (fun _ => true) true n 26 [c17] = some y7 := by simpa [Value.cells, cs, cb, ct, cU8, cU64, cbo] using hg 7 _ rfl
      obtain ⟨z7, e7, _, w7⟩ := DataW.trod_int Try.underlying26 g7
      injection e7 with e7 _
      subst e7
      have g10 : DataW.trod enc Try.prog W 0 (fun _ => true) true n 5 [c20] = some y10 := by simpa [Value.cells, cs, cb, ct, cU8, cU64, cbo] using hg 10 _ rfl
      obtain ⟨z10, e10, _, w10⟩ := DataW.trod_int Try.underlying5 g10
      injection e10 with e10 _
      subst e10
      have g11 : DataW.trod enc Try.prog W 0 (fun _ => true) true n 5 [c21] = some y11 := by simpa [Value.cells, cs, cb, ct, cU8, cU64, cbo] using hg 11 _ rfl
      obtain ⟨z11, e11, _, w11⟩ := DataW.trod_int Try.underlying5 g11
      injection e11 with e11 _
      subst e11
      have g8 : DataW.trod enc Try.prog W 0 (fun _ => true) true n 4 [c18] = some y8 := by simpa [Value.cells, cs, cb, ct, cU64, cbo] using hg 8 _ rfl
      obtain ⟨z8, e8, _⟩ := DataW.trod_bool Try.underlying4 g8
      injection e8 with e8 _
      subst e8
      have g9 : DataW.trod enc Try.prog W 0 (fun _ => true) true n 4 [c19] = some y9 := by simpa [Value.cells, cs, cb, ct, cU64, cbo] using hg 9 _ rfl
      obtain ⟨z9, e9, _⟩ := DataW.trod_bool Try.underlying4 g9
      injection e9 with e9 _
      subst e9
      have bd7 := bounds_u64 w7
      have v7 : ((z7.toNat : Nat) : Int) = z7 := by omega
      have v10 := byte_of_wf w10
      have v11 := byte_of_wf w11
      refine ⟨⟨(A0, n0, k0), (A1, n1, k1), (A2, n2, k2), z3, z4, ⟨z50.toNat, UInt8.ofNat z51.toNat, UInt8.ofNat z52.toNat, UInt8.ofNat z53.toNat, UInt8.ofNat z54.toNat, UInt8.ofNat z55.toNat⟩, ⟨z60.toNat, UInt8.ofNat z61.toNat, UInt8.ofNat z62.toNat, UInt8.ofNat z63.toNat, UInt8.ofNat z64.toNat, UInt8.ofNat z65.toNat⟩, z7.toNat, z8, z9, UInt8.ofNat z10.toNat, UInt8.ofNat z11.toNat, b0, b1, b2⟩, ?_, ?_⟩
      · unfold KC.val KC.cells caseC
        simp only [v50, v51, v52, v53, v54, v55, v60, v61, v62, v63, v64, v65, v7, v10, v11]
      · exact ⟨B0, B1, B2, w3, w4, by show z50.toNat < 65536; omega, by show z60.toNat < 65536; omega, by show z7.toNat < 18446744073709551616; omega⟩
theorem open_p28 {H : Type} {enc : TypeId × Value → H} {W : World} {r : Reach} {b0 : Nat} {v : Value} {d : DataW H} {p : List MemPlace} (hv : Value.okWide Try.prog W r b0 28 v)
    (h : DataW.Trod enc Try.prog W 0 (fun _ => true) true 28 v d p) : ∃ x : KC, v = x.val ∧ IsKC W x := by
  obtain ⟨cs, rfl, hsz⟩ := okWide_struct Try.underlying28 hv
  have hsz6 : cs.size = 22 := hsz.trans (by kernel_rfl)
  obtain ⟨l⟩ := cs
  obtain ⟨fuel, hf⟩ := h
  exact open_kc hsz6 hf
end
end Go.Proofs.Ytomolfdcdmncoaa
