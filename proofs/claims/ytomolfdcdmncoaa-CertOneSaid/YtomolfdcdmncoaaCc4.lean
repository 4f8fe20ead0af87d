/-
  cert: the document's writers: elements of elements, a certificate of its parts, names.
-/
import Derived.Test.YtomolfdcdmncoaaCc3
import Derived.Test.YtomolfdcdmncoaaCb8
import Derived.Lib.SlBytesConst
import Derived.Laws.IdiomStrings
import Derived.Test.YtomolfdcdmncoaaCb9
import Derived.Test.YtomolfdcdmncoaaCb1
import Derived.Deep.RegionHeld3
import Derived.Deep.DrawnRows
import Derived.Test.YtomolfdcdmncoaaCb6
import Derived.Test.YtomolfdcdmncoaaCb5
namespace Go.Proofs.Ytomolfdcdmncoaa
open Go.RowKit Go
set_option linter.unusedVariables false
set_option linter.unusedSimpArgs false
set_option maxRecDepth 100000
/-- Rows of bytes in memory. -/
structure RowsP (w : World) (A : Option Addr) (l : List Row1) : Prop where
  rd : ReadR w A (l.map Row1.val)
  rb : ∀ x ∈ l, RB w x.1 x.2.1 x.2.2.2
def flatR (l : List Row1) : List UInt8 := l.flatMap (fun x => x.2.2.2)
theorem RowsP.below {w w' : World} {A : Option Addr} {l : List Row1} (h : RowsP w A l) (hb : Below w.heap.size w w') : RowsP w' A l := ⟨h.rd.below hb (Nat.le_refl _), fun x hx => (h.rb x hx).below hb⟩
theorem RowsP.new {w : World} {cs : Array Value} {t : TypeId} {l : List Row1} (h : cs.toList = l.map Row1.val) (hR : ∀ x ∈ l, RB w x.1 x.2.1 x.2.2.2) : RowsP (w.alloc (.cells cs t)) (some ⟨w.heap.size, 0, none⟩) l := ⟨read_new h, fun x hx => (hR x hx).alloc _⟩
theorem RowsP.parts {w : World} {A : Option Addr} {l : List Row1} {m : Nat} (h : RowsP w A l) (hl : l.length = m) : Parts w A m (fun r => ((l.getD r Row1.nul).1, (l.getD r Row1.nul).2.1, (l.getD r Row1.nul).2.2.1)) (fun r => (l.getD r Row1.nul).2.2.2) := fun hm => by
  obtain ⟨b, off, e, hlt, hc⟩ := h.rd (by intro e; have h9 := congrArg List.length e; rw [List.length_map, hl] at h9; simp at h9; omega)
  refine ⟨b, off, e, hlt, fun r hr => ?_⟩
  have hg2 : l.getD r Row1.nul = l[r]'(by omega) := by
    rw [List.getD_eq_getElem?_getD, List.getElem?_eq_getElem (by omega)]; rfl
  simp only [hg2]
  exact ⟨hc r _ (by rw [List.getElem?_map, List.getElem?_eq_getElem (by omega)]; rfl), h.rb _ (List.getElem_mem _)⟩
theorem seq_any (A : Option Addr) (m c : Nat) (l : List Row1) (w : World) (h : RowsP w A l) (hl : l.length = m) (hm : m ≤ 1000000) (hlen : (flatR l).length ≤ 1000000) :
    Calls Try.prog 28 #[.slice A m c] w (Fresh w (wrQ 48 (flatR l))) := by
  have hj := joinN_list l m (by omega)
  rw [List.take_of_length_le (by omega)] at hj
  have J := rjoin_any A m c _ _ w (h.parts hl) hm (by rw [hj]; exact Nat.le_trans hlen (by omega))
  rw [hj] at J
  have HJ := Lib.hid J
  have HLN := Lib.hid hlen
  clear J hj h hl hlen
  go_enter Try.func28, Try.ntmps28
  go_wp2_with fail
  refine HJ.out.mono ?_
  rintro e w1 ⟨A1, n1, c1, rfl, ho, hb⟩
  have HO := Lib.hid ho
  have hn1 : n1 ≤ 1000000 := by have h1 := ho.len; have h2 := HLN.out; unfold flatR at h2; omega
  have HB := Lib.hid hb
  clear ho hb
  go_wp2_with fail
  refine (rwrite_any 48 A1 n1 c1 _ w1 HO.out.rb (by omega)).mono ?_
  rintro e w2 ⟨A2, n2, c2, rfl, ho, hb⟩
  have HO2 := Lib.hid (ho.lower HB.out.size)
  have HB2 := Lib.hid (kp_call HB.out hb)
  clear ho hb
  go_wp2
  go_ret
  exact ⟨A2, n2, c2, rfl, HO2.out, HB2.out⟩
theorem rb_newM (w : World) (bs : List UInt8) (t : TypeId) (mk : Nat × Nat) (cs : Array Value) (h : cs.toList = bs.map bv) (n : Nat) (hn : bs.length = n) : RB (w.alloc (.cells cs t mk)) (some ⟨w.heap.size, 0, none⟩) n bs := ⟨hn, (bs_new w bs t mk cs h).more (by simp)⟩
def sgnB : List UInt8 := [48, 13, 6, 9, 42, 134, 72, 134, 247, 13, 1, 1, 11, 5, 0]
/-- A certificate of a signed part and a signature. -/
def certB (tbs sig : List UInt8) : List UInt8 := wrQ 48 (tbs ++ (sgnB ++ (wrQ 3 (0 :: sig))))
theorem wrQ_len (t : UInt8) (b : List UInt8) (h : b.length ≤ 4000000) : (wrQ t b).length ≤ b.length + 6 := by
  unfold wrQ
  split
  · simp
  · have := lenB_len 4 b.length (by omega)
    simp; omega
set_option maxHeartbeats 2000000 in
theorem wwrite_any (A : Option Addr) (n c : Nat) (tbs : List UInt8) (B : Option Addr) (m k : Nat) (sig : List UInt8) (w : World) (hA : RB w A n tbs) (hB : RB w B m sig) (hn : n ≤ 100000) (hm : m ≤ 100000) :
    Calls Try.prog 18 #[.slice A n c, .slice B m k] w (Fresh w (certB tbs sig)) := by
  have HA := Lib.hid hA
  have HB0 := Lib.hid hB
  clear hA hB
  go_enter Try.func18, Try.ntmps18
  go_wp2_with (at_builtin; refine wpList_apn _ _ rfl rfl rfl w.heap.size (some ⟨w.heap.size, 0, none⟩) 1 1 [0] rfl (own_lit w [0] 1 _ rfl rfl (by omega)) B m k sig rfl (HB0.out.alloc _) (by omega) (by simp) ?_)
  intro A1 c1 w1 ho hg
  have HO := Lib.hid ho
  have HB1 := Lib.hid (show Below w.heap.size w w1 from (kp_alloc (Below.refl _ _) _).grown hg (by simp) (by intro k hk; cases hk; exact Nat.le_refl _))
  clear ho hg
  have hln1 := HO.out.len
  have kc := fun (w : World) (C : Array Value) (n c : Nat) => Lib.run_convert_bytes_const (P := Try.prog) w 22 5 C n c Try.underlying22 Try.underlying5
  go_wp2_with fail
  refine (rwrite_any 3 A1 (1 + m) c1 (0 :: sig) _ (HO.out.alloc _).rb (by omega)).mono ?_
  rintro e w2 ⟨A2, n2, c2, rfl, ho, hb⟩
  have HL := Lib.hid (show RB w2 (some ⟨w1.heap.size, 0, none⟩) 15 sgnB from (rb_newM w1 sgnB _ _ _ rfl 15 rfl).below hb)
  have HB2 := Lib.hid (kp_call (kp_alloc HB1.out _) hb)
  have HO2 := Lib.hid ho.rb
  have hl2 := ho.len
  have hw2 := wrQ_len 3 (0 :: sig) (by rw [hln1]; omega)
  rw [hln1] at hw2
  have HA2 := Lib.hid (HA.out.below HB2.out)
  have hlt := HA.out.1
  have HLS := Lib.hid (show (tbs ++ (sgnB ++ wrQ 3 (0 :: sig))).length ≤ 1000000 by simp only [List.length_append]; rw [hl2, hlt, show sgnB.length = 15 from rfl]; omega)
  clear ho hb
  go_wp2_with fail
  refine (seq_any (some ⟨w2.heap.size, 0, none⟩) 3 3 [(A, n, c, tbs), (some ⟨w1.heap.size, 0, none⟩, 15, 15, sgnB), (A2, n2, c2, wrQ 3 (0 :: sig))] _ (RowsP.new rfl (fun x hx => ?_)) rfl (by omega) (by simpa [flatR] using HLS.out)).mono ?_
  · simp only [List.mem_cons, List.not_mem_nil, or_false] at hx
    rcases hx with rfl | rfl | rfl
    · exact HA2.out
    · exact HL.out
    · exact HO2.out
  rintro e w3 ⟨A3, n3, c3, rfl, ho, hb⟩
  have HB3 := Lib.hid (kp_call (kp_alloc HB2.out _) hb)
  have HO3 := Lib.hid (ho.lower (Nat.le_trans HB2.out.size (by simp)))
  clear ho hb
  go_wp2
  go_ret
  refine ⟨A3, n3, c3, rfl, ?_, HB3.out⟩
  have h9 := HO3.out
  simpa [flatR, certB] using h9
end Go.Proofs.Ytomolfdcdmncoaa
namespace Go.Proofs.Ytomolfdcdmncoaa
open Go.RowKit Go
set_option linter.unusedVariables false
set_option linter.unusedSimpArgs false
set_option maxRecDepth 100000
/-- '[]byte(s)': bytes of a text, in new memory. -/
theorem run_sbytes (w : World) (s : ByteArray) (hs : s.size ≤ maxLen) : ∃ c w', (convert 9 22 (.string s)).run Try.prog w = .ok (.slice (some ⟨w.heap.size, 0, none⟩) s.size c) w' ∧
    RB w' (some ⟨w.heap.size, 0, none⟩) s.size s.data.toList ∧ s.size ≤ c ∧ c ≤ maxLen ∧ Below w.heap.size w w' := by
  refine ⟨_, _, run_bytes_of_string (P := Try.prog) w 9 22 5 s Try.underlying9 Try.underlying22 Try.underlying5, ⟨rfl, fun _ => ?_⟩, grownCap_ge _ _ _ _, grownCap_le_maxLen _ _ _ _ hs, kp_alloc (Below.drew (Below.refl _ _)) _⟩
  refine ⟨w.heap.size, 0, rfl, by simp, fun j hj => ?_⟩
  have hj2 : j < s.data.size := by simpa using hj
  rw [Nat.zero_add]
  have h9 := cell_of_row (w.drew.alloc (.cells (bytesRow s (grownCap w s.size 0 5)) 5 ((bytesRow s (grownCap w s.size 0 5)).size, (bytesRow s (grownCap w s.size 0 5)).size + 1))) w.heap.size j _ _ _ (has_new' _ _ _ (by simp))
  rw [h9, bytesRow_at s _ j hj2]
  simp
theorem wpList_sb {w : World} {ops : Array Oper} {rest : List Oper} {o : Oper} {a : Act} {Q : Exit → Act → World → Prop} (x : Operand) (ho : o.op = .convert 9 22 x) (hgd : o.guard = none) (s : ByteArray) (hx : a.eval x = .string s) (hs : s.size ≤ maxLen)
    (h : ∀ c w', RB w' (some ⟨w.heap.size, 0, none⟩) s.size s.data.toList → s.size ≤ c → c ≤ maxLen → Below w.heap.size w w' → wpList Try.prog ops Q rest (a.put o.dst (.slice (some ⟨w.heap.size, 0, none⟩) s.size c)) w') : wpList Try.prog ops Q (o :: rest) a w := by
  refine wpList_plain hgd fun K hK => ?_
  obtain ⟨c, w', hrun, h1, h2, h3, h4⟩ := run_sbytes w s hs
  unfold Oper.wp execOp
  simp only [ho, Sem.run_bind, Sem.run_pure, Result.andThen_ok, hx, hrun]
  exact hK _ _ (h c w' h1 h2 h3 h4)
/-- An extension that is not critical. -/
def extB (name body : List UInt8) : List UInt8 := wrQ 48 (wrQ 6 name ++ wrQ 4 body)
set_option maxHeartbeats 2000000 in
theorem ext_any (s : ByteArray) (A : Option Addr) (n c : Nat) (body : List UInt8) (w : World) (hA : RB w A n body) (hs : s.size ≤ 1000) (hn : n ≤ 100000) :
    Calls Try.prog 44 #[.string s, .slice A n c] w (Fresh w (extB s.data.toList body)) := by
  have HA := Lib.hid hA
  have hl : s.data.toList.length = s.size := by simp
  clear hA
  go_enter Try.func44, Try.ntmps44
  go_wp2_with (refine wpList_sb _ rfl rfl s rfl (by unfold maxLen; omega) ?_)
  intro cs w1 hr hcs hcm hb
  have HR := Lib.hid hr
  have HB := Lib.hid hb
  clear hr hb
  go_wp2_with fail
  refine (rwrite_any 6 (some ⟨w.heap.size, 0, none⟩) s.size cs s.data.toList w1 HR.out (by omega)).mono ?_
  rintro e w2 ⟨A2, n2, c2, rfl, ho, hb⟩
  have HO2 := Lib.hid ho.rb
  have hl2 := ho.len
  have hw2 := wrQ_len 6 s.data.toList (by omega)
  have HB2 := Lib.hid (kp_call HB.out hb)
  clear ho hb
  go_wp2_with fail
  refine (rwrite_any 4 A n c body w2 (HA.out.below HB2.out) (by omega)).mono ?_
  rintro e w3 ⟨A3, n3, c3, rfl, ho, hb⟩
  have HO3 := Lib.hid ho.rb
  have hl3 := ho.len
  have hw3 := wrQ_len 4 body (by rw [HA.out.1]; omega)
  rw [HA.out.1] at hw3
  replace HO2 := Lib.hid (HO2.out.below hb)
  have HB3 := Lib.hid (kp_call HB2.out hb)
  have HLS := Lib.hid (show (wrQ 6 s.data.toList ++ wrQ 4 body).length ≤ 1000000 by rw [List.length_append, hl2, hl3]; omega)
  clear ho hb
  go_wp2_with fail
  refine (seq_any (some ⟨w3.heap.size, 0, none⟩) 2 2 [(A2, n2, c2, wrQ 6 s.data.toList), (A3, n3, c3, wrQ 4 body)] _ (RowsP.new rfl (fun x hx => ?_)) rfl (by omega) (by simpa [flatR] using HLS.out)).mono ?_
  · simp only [List.mem_cons, List.not_mem_nil, or_false] at hx
    rcases hx with rfl | rfl
    · exact HO2.out
    · exact HO3.out
  rintro e w4 ⟨A4, n4, c4, rfl, ho, hb⟩
  have HB4 := Lib.hid (kp_call (kp_alloc HB3.out _) hb)
  have HO4 := Lib.hid (ho.lower (Nat.le_trans HB3.out.size (by simp)))
  clear ho hb
  go_wp2
  go_ret
  refine ⟨A4, n4, c4, rfl, ?_, HB4.out⟩
  have h9 := HO4.out
  simpa [flatR, extB] using h9
/-- A name with a text in it. -/
def nameB (s : List UInt8) : List UInt8 := wrQ 48 (wrQ 49 (wrQ 48 (wrQ 6 [85, 4, 3] ++ wrQ 12 s)))
set_option maxHeartbeats 2000000 in
theorem name_any (s : ByteArray) (w : World) (hs : s.size ≤ 1000) : Calls Try.prog 33 #[.string s] w (Fresh w (nameB s.data.toList)) := by
  have hl : s.data.toList.length = s.size := by simp
  go_enter Try.func33, Try.ntmps33
  go_wp2_with fail
  refine (rwrite_any 6 (some ⟨w.heap.size, 0, none⟩) 3 3 [85, 4, 3] _ (own_lit w [85, 4, 3] 3 _ rfl rfl (by omega)).rb (by omega)).mono ?_
  rintro e w1 ⟨A1, n1, c1, rfl, ho, hb⟩
  have HO1 := Lib.hid ho.rb
  have hl1 := ho.len
  have hw1 := wrQ_len 6 [85, 4, 3] (by simp)
  have HB1 := Lib.hid (kp_call (kp_alloc (Below.refl _ _) _) hb)
  clear ho hb
  go_wp2_with (refine wpList_sb _ rfl rfl s rfl (by unfold maxLen; omega) ?_)
  intro cs w2 hr hcs hcm hb
  have HR := Lib.hid hr
  replace HO1 := Lib.hid (HO1.out.below hb)
  have HB2 := Lib.hid (kp_call HB1.out hb)
  clear hr hb
  go_wp2_with fail
  refine (rwrite_any 12 (some ⟨w1.heap.size, 0, none⟩) s.size cs s.data.toList w2 HR.out (by omega)).mono ?_
  rintro e w3 ⟨A3, n3, c3, rfl, ho, hb⟩
  have HO3 := Lib.hid ho.rb
  have hl3 := ho.len
  have hw3 := wrQ_len 12 s.data.toList (by omega)
  replace HO1 := Lib.hid (HO1.out.below hb)
  have HB3 := Lib.hid (kp_call HB2.out hb)
  have hlen : (wrQ 6 [85, 4, 3] ++ wrQ 12 s.data.toList).length ≤ 2000 := by
    rw [List.length_append, hl3]
    have : ([85, 4, 3] : List UInt8).length = 3 := rfl
    omega
  have HLS := Lib.hid hlen
  clear ho hb hlen
  go_wp2_with fail
  refine (seq_any (some ⟨w3.heap.size, 0, none⟩) 2 2 [(A1, n1, c1, wrQ 6 [85, 4, 3]), (A3, n3, c3, wrQ 12 s.data.toList)] _ (RowsP.new rfl (fun x hx => ?_)) rfl (by omega) (by have h9 := HLS.out; simp only [flatR, List.flatMap_cons, List.flatMap_nil, List.append_nil]; omega)).mono ?_
  · simp only [List.mem_cons, List.not_mem_nil, or_false] at hx
    rcases hx with rfl | rfl
    · exact HO1.out
    · exact HO3.out
  rintro e w4 ⟨A4, n4, c4, rfl, ho, hb⟩
  replace ho := ho.lower (base' := w.heap.size) (Nat.le_trans HB3.out.size (by simp))
  have ho' : OwnB w4 w.heap.size A4 n4 c4 (wrQ 48 (wrQ 6 [85, 4, 3] ++ wrQ 12 s.data.toList)) := by simpa [flatR] using ho
  have HO4 := Lib.hid ho'.rb
  have hl4 := ho'.len
  have hw4 := wrQ_len 48 (wrQ 6 [85, 4, 3] ++ wrQ 12 s.data.toList) (by have := HLS.out; omega)
  have hn4 : n4 ≤ 3000 := by have := HLS.out; omega
  have HB4 := Lib.hid (kp_call (kp_alloc HB3.out _) hb)
  clear ho hb ho'
  go_wp2_with fail
  refine (rwrite_any 49 A4 n4 c4 _ w4 HO4.out (by omega)).mono ?_
  rintro e w5 ⟨A5, n5, c5, rfl, ho, hb⟩
  have HO5 := Lib.hid ho.rb
  have hl5 := ho.len
  have hw5 := wrQ_len 49 (wrQ 48 (wrQ 6 [85, 4, 3] ++ wrQ 12 s.data.toList)) (by omega)
  have hn5 : n5 ≤ 4000 := by omega
  have HB5 := Lib.hid (kp_call HB4.out hb)
  clear ho hb
  go_wp2_with fail
  refine (seq_any (some ⟨w5.heap.size, 0, none⟩) 1 1 [(A5, n5, c5, wrQ 49 (wrQ 48 (wrQ 6 [85, 4, 3] ++ wrQ 12 s.data.toList)))] _ (RowsP.new rfl (fun x hx => ?_)) rfl (by omega) (by simp only [flatR, List.flatMap_cons, List.flatMap_nil, List.append_nil]; omega)).mono ?_
  · simp only [List.mem_cons, List.not_mem_nil, or_false] at hx
    subst hx
    exact HO5.out
  rintro e w6 ⟨A6, n6, c6, rfl, ho, hb⟩
  have HB6 := Lib.hid (kp_call (kp_alloc HB5.out _) hb)
  have HO6 := Lib.hid (ho.lower (Nat.le_trans HB5.out.size (by simp)))
  clear ho hb
  go_wp2
  go_ret
  refine ⟨A6, n6, c6, rfl, ?_, HB6.out⟩
  have h9 := HO6.out
  simpa [flatR, nameB] using h9
/-- At most so many bytes, in new memory. -/
theorem short_any (A : Option Addr) (n c : Nat) (bs : List UInt8) (k : Int) (kn : Nat) (hk : k = (kn : Int)) (w : World) (hA : RB w A n bs) (hnc : n ≤ c) (hn : n ≤ 140737488355328) :
    Calls Try.prog 32 #[.slice A n c, .int .i64 k] w (Fresh w (bs.take kn)) := by
  subst hk
  have hl := hA.1
  by_cases h : n ≤ kn
  · have p1 : (n : Int) ≤ (kn : Int) := by omega
    have C := Lib.hid (copy_any A n c (bs.take kn) w (by rw [List.take_of_length_le (by omega)]; exact hA) hn)
    go_enter Try.func32, Try.ntmps32
    go_wp2_with fail
    refine C.out.mono ?_
    rintro e w' ⟨A', n', c', rfl, ho, hb⟩
    have HO := Lib.hid ho
    have HB := Lib.hid hb
    clear ho hb
    go_wp2
    go_ret
    exact ⟨A', n', c', rfl, HO.out, HB.out⟩
  · have p1 : ¬ (n : Int) ≤ (kn : Int) := by omega
    have hkn : kn ≤ n := by omega
    have C := Lib.hid (copy_any A kn c (bs.take kn) w (rb_take hA hkn) (by omega))
    go_enter Try.func32, Try.ntmps32
    go_wp2_with fail
    refine C.out.mono ?_
    rintro e w' ⟨A', n', c', rfl, ho, hb⟩
    have HO := Lib.hid ho
    have HB := Lib.hid hb
    clear ho hb
    go_wp2
    go_ret
    exact ⟨A', n', c', rfl, HO.out, HB.out⟩
end Go.Proofs.Ytomolfdcdmncoaa
namespace Go.Proofs.Ytomolfdcdmncoaa
open Go.RowKit Go
set_option linter.unusedVariables false
set_option linter.unusedSimpArgs false
set_option maxRecDepth 100000
theorem step_app {ops : Array Oper} {o : Oper} {a : Act} {w : World} {K : Act → World → Prop} {Q : Exit → Act → World → Prop} {E : Prop} (hgd : o.guard = none) (s x : Operand)
    (ho : o.op = .call { callee := .builtin .append, args := #[s, x], argTypes := #[22, 22] }) (hty : o.type = 22)
    (base : Nat) (A0 : Option Addr) (n0 c0 : Nat) (bs : List UInt8) (hs : a.eval s = .slice A0 n0 c0) (hown : OwnB w base A0 n0 c0 bs)
    (A : Option Addr) (m c : Nat) (news : List UInt8) (hx : a.eval x = .slice A m c) (hr : RB w A m news) (hlim : n0 + m ≤ 140737488355328) (hbase : base ≤ w.heap.size)
    (h : ∀ A' c' w', OwnB w' base A' (n0 + m) c' (bs ++ news) → w.grownBy w' (blk A0) → K (a.put o.dst (.slice A' (n0 + m) c')) w') :
    if Region.wanted o (yielded ops a.tmps) = true then Oper.wp Try.prog o a w K Q else E := by
  have hw : Region.wanted o (yielded ops a.tmps) = true := by simp [Region.wanted, hgd]
  rw [if_pos hw]
  have hm := hr.1
  subst hm
  obtain ⟨A', c', w', hrun, h2, h3⟩ := run_app w base A0 n0 c0 bs hown w.heap.size A c news hr.2 (by rw [hown.len]; exact hlim) hbase
  unfold Oper.wp execOp
  simp only [ho, resolve, invoke, builtin, Sem.run_bind, Sem.run_pure, Result.andThen_ok, List.map_toArray, List.map_cons, List.map_nil, hs, hx, hty, hrun]
  exact h A' c' w' h2 h3
theorem duo_le (t : Tm) (hy : t.y ≤ 65535) : ∀ k, t.duo k ≤ 65535 := fun k => by
  have b1 := t.mo.toNat_lt
  have b2 := t.d.toNat_lt
  have b3 := t.h.toNat_lt
  have b4 := t.mi.toNat_lt
  have b5 := t.s.toNat_lt
  unfold Tm.duo
  split <;> omega
theorem wr_small (y : Int) (h0 : 0 ≤ y) (h1 : y ≤ 100000) : IntKind.i64.wrap y = y := by rw [IntKind.wrap_i64]; omega
theorem wr8_small (y : Int) (h0 : 0 ≤ y) (h1 : y ≤ 100) : IntKind.u8.wrap y = y := by rw [IntKind.wrap_u8]; omega
theorem dig_w2 (x : Nat) (hx : x ≤ 65535) : IntKind.u8.wrap (IntKind.i64.wrap (48 + (x : Int).tmod 10)) = ((dig x).toNat : Int) := by
  have t2 : (x : Int).tmod 10 = (x : Int) % 10 := Int.tmod_eq_emod_of_nonneg (by omega)
  have h1 : 0 ≤ (x : Int) % 10 := by omega
  have h2 : (x : Int) % 10 < 10 := by omega
  rw [t2, wr_small _ (by omega) (by omega), wr8_small _ (by omega) (by omega), dig_num]
  omega
theorem dig_w1 (x : Nat) (hx : x ≤ 65535) : IntKind.u8.wrap (IntKind.i64.wrap (48 + (IntKind.i64.wrap ((x : Int) / 10)).tmod 10)) = ((dig (x / 10)).toNat : Int) := by
  rw [wr_small ((x : Int) / 10) (by omega) (by omega)]
  exact dig_w2 (x / 10) (by omega)
set_option maxHeartbeats 2000000 in
theorem general_any (t : Tm) (w : World) (hy : t.y ≤ 65535) : Calls Try.prog 46 #[tmV t] w (Fresh w (wrQ 24 (textB t))) := by
  have HD := Lib.hid (duo_le t hy)
  have b1 := t.mo.toNat_lt
  have b2 := t.d.toNat_lt
  have b3 := t.h.toNat_lt
  have b4 := t.mi.toNat_lt
  have b5 := t.s.toNat_lt
  have HLD := Lib.hid (digs_len t.duo)
  have hT : textB t = digs t.duo 7 ++ [90] := rfl
  rw [hT]
  have q0 : (t.y : Int) / 100 = ((t.duo 0 : Nat) : Int) := by show _ = ((t.y / 100 : Nat) : Int); omega
  have q1 : (t.y : Int) % 100 = ((t.duo 1 : Nat) : Int) := by show _ = ((t.y % 100 : Nat) : Int); omega
  have Q0 := Lib.hid q0
  have Q1 := Lib.hid q1
  have eqs : t.mo.toNat = t.duo 2 ∧ t.d.toNat = t.duo 3 ∧ t.h.toNat = t.duo 4 ∧ t.mi.toNat = t.duo 5 ∧ t.s.toNat = t.duo 6 := ⟨rfl, rfl, rfl, rfl, rfl⟩
  clear hT q0 q1
  unfold tmV Tm.cells
  generalize t.duo = f at *
  obtain ⟨y, mo, d, h', mi, s'⟩ := t
  simp only at *
  obtain ⟨r2, r3, r4, r5, r6⟩ := eqs
  have EQ : Hid (#[Value.int .i64 ((y : Int) / 100), .int .i64 ((y : Int) % 100), .int .i64 (mo.toNat : Int), .int .i64 (d.toNat : Int), .int .i64 (h'.toNat : Int), .int .i64 (mi.toNat : Int), .int .i64 (s'.toNat : Int)] = #[.int .i64 (f 0 : Int), .int .i64 (f 1 : Int), .int .i64 (f 2 : Int), .int .i64 (f 3 : Int), .int .i64 (f 4 : Int), .int .i64 (f 5 : Int), .int .i64 (f 6 : Int)]) := by
    rw [Hid, Q0.out, Q1.out, r2, r3, r4, r5, r6]
  clear r2 r3 r4 r5 r6 Q0 Q1
  go_enter Try.func46, Try.ntmps46
  go_wp2
  refine wp_named fun W1 hW1 => ?_
  have hbw : Below w.heap.size w W1 := below_named hW1 (((Below.refl _ _).alloc (Nat.le_refl _) _).alloc (by simp) _)
  have k1 := heap_named hW1 (heap_alloc2_new w _ _)
  rw [EQ.out] at k1
  have hlt1 := heap_lt k1
  have HC : Hid (∀ (W : World), Below W1.heap.size W1 W → ∀ k, k < 7 → W.cell? ⟨w.heap.size + 1, k, none⟩ = some (.int .i64 (f k : Int))) := fun W hW => by
    have k2 := (hW.block _ hlt1).trans k1
    refine seven ?_ ?_ ?_ ?_ ?_ ?_ ?_
    · exact Lib.cell_of_heap k2 0
    · exact Lib.cell_of_heap k2 1
    · exact Lib.cell_of_heap k2 2
    · exact Lib.cell_of_heap k2 3
    · exact Lib.cell_of_heap k2 4
    · exact Lib.cell_of_heap k2 5
    · exact Lib.cell_of_heap k2 6
  have hsw := hbw.size
  clear k1 hW1 EQ hlt1
  go_loopw [3, 5] (fun v i wr => ∃ k A2 c2, k ≤ 7 ∧ i = .int .i64 (k : Nat) ∧ v = .slice A2 (2 * k) c2 ∧ OwnB wr W1.heap.size A2 (2 * k) c2 (digs f k) ∧ Below W1.heap.size W1 wr) (fun _ i _ => 7 - (intOf i).toNat)
  case atStart => exact ⟨0, none, 0, by omega, rfl, rfl, OwnB.nil _ _, Below.refl _ _⟩
  case round =>
    obtain ⟨k, A2, c2, hk, rfl, rfl, hown, hbr⟩ := hrel
    have hsr := hbr.size
    by_cases hlt : k < 7
    · have hc := HC.out wr hbr k hlt
      have hst : Hid (digs f (k + 1) = digs f k ++ dig2 (f k)) := rfl
      have hf := HD.out k
      have HX := Lib.hid (show f k = f k from rfl)
      generalize hx : f k = x at hc hst hf
      replace HX := Lib.hid hx
      clear hx
      have hd1 := dig_w1 x hf
      have hd2 := dig_w2 x hf
      have H1 := Lib.hid hd1
      have H2 := Lib.hid hd2
      clear hd1 hd2
      have q2 : (0 : Int) ≤ (k : Int) := by omega
      have q3 : (k : Int) < 7 := by omega
      have HO := Lib.hid hown
      have HBR := Lib.hid hbr
      have HC1 := Lib.hid hc
      clear hown hbr
      go_wp2
      go_region_held3 (fun W => W.cell? ⟨w.heap.size + 1, k, none⟩ = some (.int .i64 (x : Int))) (go_keep) ((refine step_app (by rfl) _ _ (by rfl) (by rfl) W1.heap.size A2 (2 * k) c2 _ (by rfl) ((HO.out.alloc _).drew) (some ⟨wr.heap.size, 0, none⟩) 2 2 (dig2 x) (by rfl) (RB.drew (rb_newM wr (dig2 x) _ _ _ (by simp [dig2, bv, H1.out, H2.out]) 2 rfl)) (by omega) (by simp; omega) ?_; intro A4 c4 w4 ho3 hg3; have hb3 : Below W1.heap.size W1 w4 := ((HBR.out.alloc hsr _).drew).grown hg3 (by simp; omega) (fun g hg => (HO.out.blk_lt hg).1); have d1' := HC.out w4 hb3 k hlt; rw [HX.out] at d1'; have HO3 := Lib.hid ho3; have HB3 := Lib.hid hb3; clear ho3 hg3 hb3))
      have he : Hid (2 * k + 2 = 2 * (k + 1)) := by show _ = _; omega
      go_wp2
      go_roundw
      case rel => exact ⟨k + 1, A4, c4, by omega, by go_num, by rw [he.out], by rw [hst.out, ← he.out]; exact HO3.out, HB3.out⟩
      case measure => simp [intOf]; omega
    · obtain rfl : k = 7 := by omega
      go_wp2_with (at_builtin; refine wpList_app _ _ rfl rfl rfl W1.heap.size A2 _ c2 _ rfl (hown.alloc _) (wr.heap.size + 1) (some ⟨wr.heap.size, 0, none⟩) 1 [90] rfl (bs_new _ _ _ _ _ rfl) (by rw [HLD.out]; simp) (by simp; omega) ?_)
      intro A4 c4 w4 hown4 hg4
      have hbr4 := (hbr.alloc hsr _).grown hg4 (by simp; omega) (fun g hg => (hown.blk_lt hg).1)
      have HO4 := Lib.hid hown4
      have HB4 := Lib.hid (hbw.trans (hbr4.mono hsw))
      clear hg4 hown hown4 hbr4
      go_wp2_with fail
      refine (rwrite_any 24 A4 _ c4 _ w4 HO4.out.rb (by omega)).mono ?_
      rintro e w5 ⟨A5, n5, c5, rfl, ho5, hb5⟩
      have HO5 := Lib.hid (ho5.lower HB4.out.size)
      have HB5 := Lib.hid (kp_call HB4.out hb5)
      clear ho5 hb5
      go_wp2
      go_ret
      exact ⟨A5, n5, c5, rfl, HO5.out, HB5.out⟩
end Go.Proofs.Ytomolfdcdmncoaa
namespace Go.Proofs.Ytomolfdcdmncoaa
open Go.RowKit Go
set_option linter.unusedVariables false
set_option linter.unusedSimpArgs false
set_option maxRecDepth 100000
theorem rows_row9 : RowT 56 22 1 24 (.slice none 0 0) := ⟨Try.underlying56, by kernel_rfl, rfl, by decide⟩
/-- Rows of bytes that one slice owns, with the rows' own bytes. -/
structure RowsO (w : World) (base : Nat) (A : Option Addr) (n c : Nat) (l : List Row1) : Prop where
  own : OwnR w base 22 1 A n c (l.map Row1.val)
  rb : ∀ x ∈ l, OwnB w base x.1 x.2.1 x.2.2.1 x.2.2.2
theorem RowsO.len {w : World} {base : Nat} {A : Option Addr} {n c : Nat} {l : List Row1} (h : RowsO w base A n c l) : l.length = n := by
  have := h.own.len
  simpa using this
theorem RowsO.rows {w : World} {base : Nat} {A : Option Addr} {n c : Nat} {l : List Row1} (h : RowsO w base A n c l) : RowsP w A l := ⟨h.own.reads, fun x hx => (h.rb x hx).rb⟩
theorem RowsO.nil (w : World) (base : Nat) : RowsO w base none 0 0 [] := ⟨OwnR.nil w base _ _, fun x hx => by cases hx⟩
theorem RowsO.below {w w' : World} {base : Nat} {A : Option Addr} {n c : Nat} {l : List Row1} (h : RowsO w base A n c l) (hb : Below w.heap.size w w') : RowsO w' base A n c l := ⟨h.own.below hb (Nat.le_refl _), fun x hx => (h.rb x hx).below hb (Nat.le_refl _)⟩
theorem RowsO.lower {w : World} {base base' : Nat} {A : Option Addr} {n c : Nat} {l : List Row1} (h : RowsO w base A n c l) (hb : base' ≤ base) : RowsO w base' A n c l := ⟨h.own.lower hb, fun x hx => (h.rb x hx).lower hb⟩
theorem RowsO.new {w : World} {base : Nat} {cs : Array Value} {l : List Row1} (n : Nat) (h : cs.toList = l.map Row1.val) (hn : l.length = n) (hm : n ≤ 1000) (hbase : base ≤ w.heap.size) (hR : ∀ x ∈ l, OwnB w base x.1 x.2.1 x.2.2.1 x.2.2.2) : RowsO (w.alloc (.cells cs 22)) base (some ⟨w.heap.size, 0, none⟩) n n l := by
  refine ⟨?_, fun x hx => (hR x hx).alloc _⟩
  rw [← h]
  refine (OwnR.lit w 22 1 cs n (by unfold maxLen; omega) ?_).lower hbase
  have := congrArg List.length h
  simp at this
  omega
theorem wpList_ap1 {w : World} {ops : Array Oper} {rest : List Oper} {o : Oper} {a : Act} {Q : Exit → Act → World → Prop} (sOp xOp : Operand) (ho : o.op = .call { callee := .builtin .append, args := #[sOp, xOp], argTypes := #[56, 56] }) (hgd : o.guard = none) (hty : o.type = 56)
    (base : Nat) (A : Option Addr) (n c0 : Nat) (l : List Row1) (hs : a.eval sOp = .slice A n c0) (hown : RowsO w base A n c0 l) (x : Row1) (cs : Array Value) (hcs : cs.toList = [Row1.val x]) (hx : a.eval xOp = .slice (some ⟨w.heap.size, 0, none⟩) 1 1) (hr : OwnB w base x.1 x.2.1 x.2.2.1 x.2.2.2) (hn : n ≤ 1000) (hbase : base ≤ w.heap.size)
    (h : ∀ V' c' w', RowsO w' base V' (n + 1) c' (l ++ [x]) → (w.alloc (.cells cs 22)).grownBy w' (blk A) → wpList Try.prog ops Q rest (a.put o.dst (.slice V' (n + 1) c')) w') : wpList Try.prog ops Q (o :: rest) a (w.alloc (.cells cs 22)) := by
  have hl1 : cs.size = 1 := by rw [← Array.length_toList, hcs]; rfl
  refine wpList_appL rows_row9 sOp xOp ho hgd hty base A n c0 _ hs (hown.own.alloc _) w.heap.size 1 1 cs _ hx (heap_alloc_new _ _) (by rw [hl1]) (by rw [hcs]; intro u hu; simp at hu; subst hu; rfl) (by unfold maxLen; omega) (by omega) (by simp; omega) ?_
  intro V' c' w' h1 h2
  refine h V' c' w' ⟨by rw [hcs] at h1; simpa using h1, fun y hy => ?_⟩ h2
  have hy2 : OwnB w base y.1 y.2.1 y.2.2.1 y.2.2.2 := by
    rw [List.mem_append, List.mem_singleton] at hy
    rcases hy with hy | rfl
    · exact hown.rb y hy
    · exact hr
  have hy3 : OwnR (w.alloc (.cells cs 22)) base 5 1 y.1 y.2.1 y.2.2.1 (y.2.2.2.map bv) := OwnB.row (hy2.alloc _)
  have hA3 : OwnR (w.alloc (.cells cs 22)) base 22 1 A n c0 (l.map Row1.val) := hown.own.alloc _
  exact OwnR.kept hy3 h2 (OwnR.ne hy3 hA3 (by decide))
theorem RowsO.two {w : World} {base : Nat} {cs : Array Value} {l : List Row1} (n C : Nat) (h : cs.toList = l.map Row1.val) (hn : l.length = n) (h1 : n ≤ C) (h2 : C ≤ maxLen) (hbase : base ≤ w.heap.size) (hR : ∀ x ∈ l, OwnB w base x.1 x.2.1 x.2.2.1 x.2.2.2) :
    RowsO ((w.alloc (.cells (cs ++ Builtin.zeroCells #[.slice none 0 0] (C - n)) 22)).drew) base (some ⟨w.heap.size, 0, none⟩) n C l := by
  have hl : cs.size = n := by rw [← Array.length_toList, h, List.length_map, hn]
  refine ⟨⟨by simp [hn], .inr ⟨w.heap.size, C, _, rfl, hbase, heap_alloc_new w _, h1, h2, by rw [Array.size_append, size_zeroCells]; simp; omega, ?_⟩⟩, fun x hx => OwnR.drew (OwnB.row ((hR x hx).alloc _))⟩
  rw [Array.toList_append, h, List.take_left' (by simp; omega)]
theorem flat_app (a b : List Row1) : flatR (a ++ b) = flatR a ++ flatR b := by unfold flatR; simp
theorem flat_one (x : Row1) : flatR [x] = x.2.2.2 := by simp [flatR]
/-- An extension of the statements. -/
def extO (oid : List UInt8) (crit : Bool) (body : List UInt8) : List UInt8 := wrQ 48 (wrQ 6 oid ++ ((if crit then [1, 1, 255] else []) ++ wrQ 4 body))
set_option maxHeartbeats 2000000 in
theorem extO_any (A : Option Addr) (n c : Nat) (oid : List UInt8) (crit : Bool) (B : Option Addr) (m k : Nat) (body : List UInt8) (w : World) (hA : RB w A n oid) (hB : RB w B m body) (hn : n ≤ 100000) (hm : m ≤ 100000) :
    Calls Try.prog 25 #[.slice A n c, .bool crit, .slice B m k] w (Fresh w (extO oid crit body)) := by
  have HA := Lib.hid hA
  have HB0 := Lib.hid hB
  clear hA hB
  cases crit
  · go_enter Try.func25, Try.ntmps25
    go_wp2_with fail
    refine (rwrite_any 6 A n c oid w HA.out (by omega)).mono ?_
    rintro e w1 ⟨A1, n1, c1, rfl, ho, hb⟩
    have HB1 := Lib.hid hb
    have HO1 := Lib.hid ho
    have hl1 := ho.len
    have hw1 := wrQ_len 6 oid (by rw [HA.out.1]; omega)
    rw [HA.out.1] at hw1
    have HR1 := Lib.hid (RowsO.new (w := w1) (base := w.heap.size) (cs := #[.slice A1 n1 c1]) (l := [(A1, n1, c1, wrQ 6 oid)]) 1 rfl rfl (by omega) hb.size (by intro x hx; simp only [List.mem_singleton] at hx; subst hx; exact ho))
    have HB2 := Lib.hid (kp_alloc hb (.cells #[.slice A1 n1 c1] 22))
    clear ho hb
    go_wp2_with fail
    refine (rwrite_any 4 B m k body _ (HB0.out.below HB2.out) (by omega)).mono ?_
    rintro e w3 ⟨A3, n3, c3, rfl, ho, hb⟩
    have hz := HB2.out.size
    have HR3 := Lib.hid (HR1.out.below hb)
    have HB4 := Lib.hid (kp_call HB2.out hb)
    have HO3 := Lib.hid (ho.lower (base' := w.heap.size) hz)
    have hl3 := ho.len
    have hw3 := wrQ_len 4 body (by rw [HB0.out.1]; omega)
    rw [HB0.out.1] at hw3
    clear ho hb
    go_wp2_with (at_builtin; refine wpList_ap1 _ _ rfl rfl rfl w.heap.size _ 1 _ _ rfl HR3.out (A3, n3, c3, wrQ 4 body) _ rfl rfl HO3.out (by omega) HB4.out.size ?_)
    intro A4 c4 w4 ho4 hg4
    have HR4 := Lib.hid ho4
    have HB5 := Lib.hid (show Below w.heap.size w w4 from (kp_alloc HB4.out _).grown hg4 (by have := HB4.out.size; simp at this ⊢; omega) (fun g hg => (HR3.out.own.blk_lt hg).1))
    clear ho4 hg4
    go_wp2_with fail
    refine (seq_any A4 2 c4 _ w4 HR4.out.rows HR4.out.len (by omega) (by simp only [flatR, List.flatMap_append, List.flatMap_cons, List.flatMap_nil, List.append_nil, List.length_append, List.length_cons, List.length_nil]; omega)).mono ?_
    rintro e w5 ⟨A5, n5, c5, rfl, ho, hb⟩
    have HO5 := Lib.hid (ho.lower HB5.out.size)
    have HB6 := Lib.hid (kp_call HB5.out hb)
    clear ho hb
    go_wp2
    go_ret
    refine ⟨A5, n5, c5, rfl, ?_, HB6.out⟩
    have h9 := HO5.out
    simpa [flatR, extO] using h9
  · go_enter Try.func25, Try.ntmps25
    go_wp2_with fail
    refine (rwrite_any 6 A n c oid w HA.out (by omega)).mono ?_
    rintro e w1 ⟨A1, n1, c1, rfl, ho, hb⟩
    have HB1 := Lib.hid hb
    have HO1 := Lib.hid ho
    have hl1 := ho.len
    have hw1 := wrQ_len 6 oid (by rw [HA.out.1]; omega)
    rw [HA.out.1] at hw1
    have HR1 := Lib.hid (RowsO.new (w := w1) (base := w.heap.size) (cs := #[.slice A1 n1 c1]) (l := [(A1, n1, c1, wrQ 6 oid)]) 1 rfl rfl (by omega) hb.size (by intro x hx; simp only [List.mem_singleton] at hx; subst hx; exact ho))
    have HB2 := Lib.hid (kp_alloc hb (.cells #[.slice A1 n1 c1] 22))
    clear ho hb
    have HL := Lib.hid (show OwnB ((w1.alloc (.cells #[.slice A1 n1 c1] 22)).alloc (.cells #[.int .u8 1, .int .u8 1, .int .u8 255] 5)) w.heap.size (some ⟨w1.heap.size + 1, 0, none⟩) 3 3 [1, 1, 255] by have h9 := (own_lit (w1.alloc (.cells #[.slice A1 n1 c1] 22)) [1, 1, 255] 3 #[.int .u8 1, .int .u8 1, .int .u8 255] rfl rfl (by omega)).lower (base' := w.heap.size) HB2.out.size; simpa using h9)
    have HR1b := Lib.hid (HR1.out.below (kp_alloc (Below.refl _ _) (.cells #[.int .u8 1, .int .u8 1, .int .u8 255] 5)))
    have HB2b := Lib.hid (kp_alloc HB2.out (.cells #[.int .u8 1, .int .u8 1, .int .u8 255] 5))
    have hge := grownCap_ge w1 2 1 22
    have hle := grownCap_le_maxLen w1 2 1 22 (by unfold maxLen; omega)
    have hR2 : RowsO (((((w1.alloc (.cells #[.slice A1 n1 c1] 22)).alloc (.cells #[.int .u8 1, .int .u8 1, .int .u8 255] 5)).alloc (.cells #[.slice (some ⟨w1.heap.size + 1, 0, none⟩) 3 3] 22)).alloc (.cells (#[.slice A1 n1 c1, .slice (some ⟨w1.heap.size + 1, 0, none⟩) 3 3] ++ Builtin.zeroCells #[.slice none 0 0] (grownCap w1 2 1 22 - 2)) 22)).drew) w.heap.size (some ⟨w1.heap.size + 1 + 1 + 1, 0, none⟩) 2 (grownCap w1 2 1 22) [(A1, n1, c1, wrQ 6 oid), (some ⟨w1.heap.size + 1, 0, none⟩, 3, 3, [1, 1, 255])] := by
      have h9 := RowsO.two (w := ((w1.alloc (.cells #[.slice A1 n1 c1] 22)).alloc (.cells #[.int .u8 1, .int .u8 1, .int .u8 255] 5)).alloc (.cells #[.slice (some ⟨w1.heap.size + 1, 0, none⟩) 3 3] 22)) (base := w.heap.size) (cs := #[.slice A1 n1 c1, .slice (some ⟨w1.heap.size + 1, 0, none⟩) 3 3]) (l := [(A1, n1, c1, wrQ 6 oid), (some ⟨w1.heap.size + 1, 0, none⟩, 3, 3, [1, 1, 255])]) 2 _ rfl rfl hge hle (by have := HB2b.out.size; simp at this ⊢; omega) (by
        intro x hx
        simp only [List.mem_cons, List.not_mem_nil, or_false] at hx
        rcases hx with rfl | rfl
        · exact (((HO1.out.alloc _).alloc _).alloc _)
        · exact HL.out.alloc _)
      simpa only [World.size_alloc] using h9
    have HR2 := Lib.hid hR2
    clear hR2
    have HB3 := Lib.hid (kp_drew (kp_alloc (kp_alloc HB2b.out (.cells #[.slice (some ⟨w1.heap.size + 1, 0, none⟩) 3 3] 22)) (.cells (#[.slice A1 n1 c1, .slice (some ⟨w1.heap.size + 1, 0, none⟩) 3 3] ++ Builtin.zeroCells #[.slice none 0 0] (grownCap w1 2 1 22 - 2)) 22)))
    clear hge hle
    go_wp2_with fail
    refine (rwrite_any 4 B m k body _ (HB0.out.below HB3.out) (by omega)).mono ?_
    rintro e w3 ⟨A3, n3, c3, rfl, ho, hb⟩
    have hz := HB3.out.size
    have HR3 := Lib.hid (HR2.out.below hb)
    have HB4 := Lib.hid (kp_call HB3.out hb)
    have HO3 := Lib.hid (ho.lower (base' := w.heap.size) hz)
    have hl3 := ho.len
    have hw3 := wrQ_len 4 body (by rw [HB0.out.1]; omega)
    rw [HB0.out.1] at hw3
    clear ho hb
    go_wp2_with (at_builtin; refine wpList_ap1 _ _ rfl rfl rfl w.heap.size _ 2 _ _ rfl HR3.out (A3, n3, c3, wrQ 4 body) _ rfl rfl HO3.out (by omega) HB4.out.size ?_)
    intro A4 c4 w4 ho4 hg4
    have HR4 := Lib.hid ho4
    have HB5 := Lib.hid (show Below w.heap.size w w4 from (kp_alloc HB4.out _).grown hg4 (by have := HB4.out.size; simp at this ⊢; omega) (fun g hg => (HR3.out.own.blk_lt hg).1))
    clear ho4 hg4
    go_wp2_with fail
    refine (seq_any A4 3 c4 _ w4 HR4.out.rows HR4.out.len (by omega) (by simp only [flatR, List.flatMap_append, List.flatMap_cons, List.flatMap_nil, List.append_nil, List.length_append, List.length_cons, List.length_nil]; omega)).mono ?_
    rintro e w5 ⟨A5, n5, c5, rfl, ho, hb⟩
    have HO5 := Lib.hid (ho.lower HB5.out.size)
    have HB6 := Lib.hid (kp_call HB5.out hb)
    clear ho hb
    go_wp2
    go_ret
    refine ⟨A5, n5, c5, rfl, ?_, HB6.out⟩
    have h9 := HO5.out
    simpa [flatR, extO] using h9
end Go.Proofs.Ytomolfdcdmncoaa
namespace Go.Proofs.Ytomolfdcdmncoaa
open Go.RowKit Go
set_option linter.unusedVariables false
set_option linter.unusedSimpArgs false
set_option maxRecDepth 100000
def bitU (v i : Nat) : Nat := v / 2 ^ i % 2
def usN (v : Nat) : Nat → Nat
  | 0 => 0
  | k + 1 => if k = 0 then 1 else if bitU v k = 0 then usN v k else k + 1
def usL (v n : Nat) : Nat → List UInt8
  | 0 => (List.replicate (1 + (n + 7) / 8) 0).set 0 (UInt8.ofNat ((8 - n % 8) % 8))
  | i + 1 => (usL v n i).set (1 + i / 8) ((usL v n i).getD (1 + i / 8) 0 ||| UInt8.ofNat (bitU v i * 2 ^ (7 - i % 8)))
/-- The bits of a usage. -/
def usB (v : Nat) : List UInt8 := usL v (usN v 9) (usN v 9)
theorem usL_len (v n : Nat) : ∀ i, (usL v n i).length = 1 + (n + 7) / 8
  | 0 => by simp [usL]
  | i + 1 => by simp only [usL, List.length_set]; exact usL_len v n i
theorem OwnB.free0 {w : World} {base g n c : Nat} {bs : List UInt8} (h : OwnB w base (some ⟨g, 0, none⟩) n c bs) (j : Nat) : w.frozen? ⟨g, j, none⟩ = false := OwnR.free (OwnB.row h) j
theorem OwnB.at0 {w : World} {base g n c : Nat} {bs : List UInt8} (h : OwnB w base (some ⟨g, 0, none⟩) n c bs) {j : Nat} (hj : j < bs.length) : w.cell? ⟨g, j, none⟩ = some (.int .u8 ((bs.getD j 0).toNat : Int)) := by
  obtain ⟨b, off, e, _, hc⟩ := OwnR.reads (OwnB.row h) (by intro e; have h5 := congrArg List.length e; rw [List.length_map] at h5; simp only [List.length_nil] at h5; omega)
  cases e
  have h9 := hc j (.int .u8 ((bs.getD j 0).toNat : Int)) (by rw [List.getElem?_map, List.getElem?_eq_getElem hj, List.getD_eq_getElem?_getD, List.getElem?_eq_getElem hj]; rfl)
  rwa [Nat.zero_add] at h9
theorem OwnB.zero0 {w : World} {base g n c : Nat} (h : OwnB w base (some ⟨g, 0, none⟩) n c (List.replicate n 0)) (hn : 0 < n) : w.cell? ⟨g, 0, none⟩ = some (.int .u8 0) := by
  have h9 := OwnB.at0 h (j := 0) (by simpa using hn)
  rw [h9]
  obtain ⟨k, rfl⟩ : ∃ k, n = k + 1 := ⟨n - 1, by omega⟩
  simp [List.replicate_succ]
theorem OwnB.stored0 {w : World} {base g n c : Nat} {bs : List UInt8} (h : OwnB w base (some ⟨g, 0, none⟩) n c bs) (j : Nat) (x : UInt8) : OwnB (w.setCell ⟨g, j, none⟩ (.int .u8 (x.toNat : Int))) base (some ⟨g, 0, none⟩) n c (bs.set j x) := by
  have h9 := OwnR.stored (OwnB.row h) j (.int .u8 (x.toNat : Int))
  have e : (bs.map bv).set j (.int .u8 (x.toNat : Int)) = (bs.set j x).map bv := by rw [List.map_set]
  rw [e] at h9
  exact h9
theorem usN_one (v k : Nat) (h1 : 1 ≤ k) (h2 : k ≤ 1) : usN v k = k := by
  obtain rfl : k = 1 := by omega
  simp [usN]
theorem usN_go (v j : Nat) (h : 1 ≤ j) (hb : bitU v j = 0) : usN v (j + 1) = usN v j := by
  simp only [usN]
  rw [if_neg (by omega), if_pos hb]
theorem usN_stop (v j : Nat) (h : 1 ≤ j) (hb : ¬ bitU v j = 0) : usN v (j + 1) = j + 1 := by
  simp only [usN]
  rw [if_neg (by omega), if_neg hb]
theorem and1_small : ∀ n : Nat, n < 512 → bits BinOp.and IntKind.i64 (n : Int) 1 = ((n % 2 : Nat) : Int) := by decide +kernel
theorem and_bit (v q : Nat) (hv : v ≤ 511) : bits BinOp.and IntKind.i64 ((v : Int) / 2 ^ q) 1 = ((bitU v q : Nat) : Int) := by
  have e1 : (v : Int) / 2 ^ q = ((v / 2 ^ q : Nat) : Int) := by push_cast; rfl
  have hle : v / 2 ^ q ≤ v := Nat.div_le_self ..
  rw [e1, and1_small _ (by omega)]
  rfl
theorem pow_use : ∀ b, b < 2 → ∀ s, s < 8 → ((b : Nat) : Int) % 256 * 2 ^ s % 256 = ((b * 2 ^ s : Nat) : Int) ∧ b * 2 ^ s < 256 := by decide +kernel
theorem or_use (y : UInt8) (v q : Nat) (hv : v ≤ 511) : bits BinOp.or IntKind.u8 (y.toNat : Int) (bits BinOp.and IntKind.i64 ((v : Int) / 2 ^ q) 1 % 256 * 2 ^ (7 - q % 8) % 256) = ((y ||| UInt8.ofNat (bitU v q * 2 ^ (7 - q % 8))).toNat : Int) := by
  rw [and_bit v q hv]
  obtain ⟨h1, h2⟩ := pow_use (bitU v q) (by unfold bitU; omega) (7 - q % 8) (by omega)
  rw [h1, u8_or_nat _ _ y.toNat_lt h2, UInt8.toNat_or, UInt8.toNat_ofNat', Nat.mod_eq_of_lt h2]
theorem pad_use (k : Nat) (h : k ≤ 9) : (8 - (k : Int) % 8) % 8 = (((UInt8.ofNat ((8 - k % 8) % 8)).toNat : Nat) : Int) := by
  rw [UInt8.toNat_ofNat', Nat.mod_eq_of_lt (by omega)]; omega
set_option maxHeartbeats 2000000 in
theorem usagebits_any (v : Nat) (w : World) (hv : v ≤ 511) : Calls Try.prog 45 #[.int .i64 (v : Int)] w (Fresh w (wrQ 3 (usB v))) := by
  go_enter Try.func45, Try.ntmps45
  go_wp2
  go_loopw [3] (fun i wr => ∃ k : Nat, 1 ≤ k ∧ k ≤ 9 ∧ i = .int .i64 (k : Nat) ∧ usN v 9 = usN v k ∧ w = wr) (fun i _ => (intOf i).toNat)
  case atStart => exact ⟨9, by omega, by omega, rfl, rfl, rfl⟩
  case round =>
    obtain ⟨k, h1, h2, rfl, hk, rfl⟩ := hrel
    obtain ⟨m, hm⟩ : ∃ m : Nat, m = 1 + (k + 7) / 8 := ⟨_, rfl⟩
    have HM := Lib.hid (show (1 : Int) + ((k : Int) + 7) / 8 = (m : Int) by omega)
    have hm1 : 2 ≤ m := by omega
    have hm2 : m ≤ 3 := by omega
    have HMN := Lib.hid hm
    clear hm
    obtain h3 | h3 : 1 < k ∨ k ≤ 1 := by omega
    · obtain ⟨j, hj⟩ : ∃ j, k = j + 1 := ⟨k - 1, by omega⟩
      have q1 : (1 : Int) < (k : Int) := by omega
      have q2 : (k : Int) - 1 = (j : Int) := by omega
      have hj1 : 1 ≤ j := by omega
      have HJ := Lib.hid hj
      by_cases hb : bitU v j = 0
      · have q4 : (bits BinOp.and IntKind.i64 ((v : Int) / 2 ^ j) 1 == 0) = true := by rw [and_bit v j hv, hb]; rfl
        clear hj
        go_wp2
        go_roundw
        case rel => exact ⟨j, hj1, by have := HJ.out; omega, rfl, hk.trans (by rw [HJ.out]; exact usN_go v j hj1 hb), trivial⟩
        case measure => have := HJ.out; simp [intOf]; omega
      · have q4 : (bits BinOp.and IntKind.i64 ((v : Int) / 2 ^ j) 1 == 0) = false := by rw [and_bit v j hv]; exact beq_eq_false_iff_ne.2 (by omega)
        have HN := Lib.hid (hk.trans (show usN v k = k by rw [hj]; exact usN_stop v j hj1 hb))
        clear hj
        go_wp2_with (refine wpList_mkw _ _ rfl (by rfl) .i64 .i64 m (congrArg (Value.int .i64) HM.out) (congrArg (Value.int .i64) HM.out) (by omega) ?_)
        intro w1 ho1 hg1
        have HB1 := Lib.hid (show Below w.heap.size w w1 from (Below.refl _ _).grown hg1 (Nat.le_refl _) (by intro k hk; cases hk))
        have HO1 := Lib.hid ho1
        have hf0 := ho1.free0 0
        have hc0 : w1.cell? ⟨w.heap.size, 0, none⟩ = some (.int .u8 0) := ho1.zero0 (by omega)
        clear ho1 hg1
        go_wp2
        have HPD := Lib.hid (pad_use k h2)
        have HO2 := Lib.hid (HO1.out.stored0 0 (UInt8.ofNat ((8 - k % 8) % 8)))
        go_loopw [5] (fun i wr => ∃ q, q ≤ k ∧ i = .int .i64 (q : Nat) ∧ OwnB wr w.heap.size (some ⟨w.heap.size, 0, none⟩) m m (usL v k q) ∧ Below w.heap.size w wr) (fun i _ => k - (intOf i).toNat)
        case atStart => exact ⟨0, by omega, rfl, by have h9 := HO2.out; rw [← HPD.out] at h9; simpa [usL, HMN.out] using h9, kp_set HB1.out (Nat.le_refl _)⟩
        case round =>
          obtain ⟨q, hq, rfl, ho, hb⟩ := hrel
          by_cases hlt : q < k
          · have q3 : (q : Int) < (k : Int) := by omega
            have HO := Lib.hid ho
            have HB := Lib.hid hb
            obtain ⟨p, hp⟩ : ∃ p : Nat, p = 1 + q / 8 := ⟨_, rfl⟩
            have hf := ho.free0 p
            obtain ⟨y, hy⟩ : ∃ y, (usL v k q).getD p 0 = y := ⟨_, rfl⟩
            have hc : wr.cell? ⟨w.heap.size, p, none⟩ = some (.int .u8 (y.toNat : Int)) := by rw [← hy]; exact ho.at0 (by rw [usL_len]; have := HMN.out; omega)
            have hp2 : (1 : Int) + (q : Int) / 8 = (p : Int) := by omega
            have HY := Lib.hid hy
            have HP := Lib.hid hp
            have hpm : p < m := by have := HMN.out; omega
            have hpm2 : (p : Int) < (m : Int) := by omega
            clear ho hb hy hp
            go_wp2
            have HS := Lib.hid (HO.out.stored0 p (y ||| UInt8.ofNat (bitU v q * 2 ^ (7 - q % 8))))
            go_roundw
            case rel => exact ⟨q + 1, by omega, by go_num, by have h9 := HS.out; rw [← or_use y v q hv] at h9; simp only [usL]; rw [← HP.out, HY.out]; exact h9, kp_set HB.out (Nat.le_refl _)⟩
            case measure => simp [intOf]; omega
          · obtain rfl : q = k := by omega
            have HO := Lib.hid ho.rb
            have HB := Lib.hid hb
            clear ho hb
            go_wp2_with fail
            refine (rwrite_any 3 (some ⟨w.heap.size, 0, none⟩) m m (usL v q q) wr HO.out (by omega)).mono ?_
            rintro e w5 ⟨A5, n5, c5, rfl, ho5, hb5⟩
            have HO5 := Lib.hid (ho5.lower HB.out.size)
            have HB5 := Lib.hid (kp_call HB.out hb5)
            clear ho5 hb5
            go_wp2
            go_ret
            refine ⟨A5, n5, c5, rfl, ?_, HB5.out⟩
            have h9 := HO5.out
            rw [usB, HN.out]
            exact h9
    · have q1 : ¬ (1 : Int) < (k : Int) := by omega
      have HN := Lib.hid (hk.trans (usN_one v k h1 h3))
      go_wp2_with (refine wpList_mkw _ _ rfl (by rfl) .i64 .i64 m (congrArg (Value.int .i64) HM.out) (congrArg (Value.int .i64) HM.out) (by omega) ?_)
      intro w1 ho1 hg1
      have HB1 := Lib.hid (show Below w.heap.size w w1 from (Below.refl _ _).grown hg1 (Nat.le_refl _) (by intro k hk; cases hk))
      have HO1 := Lib.hid ho1
      have hf0 := ho1.free0 0
      have hc0 : w1.cell? ⟨w.heap.size, 0, none⟩ = some (.int .u8 0) := ho1.zero0 (by omega)
      clear ho1 hg1
      go_wp2
      have HPD := Lib.hid (pad_use k h2)
      have HO2 := Lib.hid (HO1.out.stored0 0 (UInt8.ofNat ((8 - k % 8) % 8)))
      go_loopw [5] (fun i wr => ∃ q, q ≤ k ∧ i = .int .i64 (q : Nat) ∧ OwnB wr w.heap.size (some ⟨w.heap.size, 0, none⟩) m m (usL v k q) ∧ Below w.heap.size w wr) (fun i _ => k - (intOf i).toNat)
      case atStart => exact ⟨0, by omega, rfl, by have h9 := HO2.out; rw [← HPD.out] at h9; simpa [usL, HMN.out] using h9, kp_set HB1.out (Nat.le_refl _)⟩
      case round =>
        obtain ⟨q, hq, rfl, ho, hb⟩ := hrel
        by_cases hlt : q < k
        · have q3 : (q : Int) < (k : Int) := by omega
          have HO := Lib.hid ho
          have HB := Lib.hid hb
          obtain ⟨p, hp⟩ : ∃ p : Nat, p = 1 + q / 8 := ⟨_, rfl⟩
          have hf := ho.free0 p
          obtain ⟨y, hy⟩ : ∃ y, (usL v k q).getD p 0 = y := ⟨_, rfl⟩
          have hc : wr.cell? ⟨w.heap.size, p, none⟩ = some (.int .u8 (y.toNat : Int)) := by rw [← hy]; exact ho.at0 (by rw [usL_len]; have := HMN.out; omega)
          have hp2 : (1 : Int) + (q : Int) / 8 = (p : Int) := by omega
          have HY := Lib.hid hy
          have HP := Lib.hid hp
          have hpm : p < m := by have := HMN.out; omega
          have hpm2 : (p : Int) < (m : Int) := by omega
          clear ho hb hy hp
          go_wp2
          have HS := Lib.hid (HO.out.stored0 p (y ||| UInt8.ofNat (bitU v q * 2 ^ (7 - q % 8))))
          go_roundw
          case rel => exact ⟨q + 1, by omega, by go_num, by have h9 := HS.out; rw [← or_use y v q hv] at h9; simp only [usL]; rw [← HP.out, HY.out]; exact h9, kp_set HB.out (Nat.le_refl _)⟩
          case measure => simp [intOf]; omega
        · obtain rfl : q = k := by omega
          have HO := Lib.hid ho.rb
          have HB := Lib.hid hb
          clear ho hb
          go_wp2_with fail
          refine (rwrite_any 3 (some ⟨w.heap.size, 0, none⟩) m m (usL v q q) wr HO.out (by omega)).mono ?_
          rintro e w5 ⟨A5, n5, c5, rfl, ho5, hb5⟩
          have HO5 := Lib.hid (ho5.lower HB.out.size)
          have HB5 := Lib.hid (kp_call HB.out hb5)
          clear ho5 hb5
          go_wp2
          go_ret
          refine ⟨A5, n5, c5, rfl, ?_, HB5.out⟩
          have h9 := HO5.out
          rw [usB, HN.out]
          exact h9
end Go.Proofs.Ytomolfdcdmncoaa
namespace Go.Proofs.Ytomolfdcdmncoaa
open Go.RowKit Go
set_option linter.unusedVariables false
set_option linter.unusedSimpArgs false
set_option maxRecDepth 100000
/-- Bytes that serve as a strange identifier. -/
def strQ (l : List UInt8) : List UInt8 := if l.length = 0 ∨ 300 < l.length ∨ (l.length = 3 ∧ (l.getD 0 0).toNat = 85 ∧ (l.getD 1 0).toNat = 29) then [42, 3] else l
theorem rb_at9 {w : World} {A : Option Addr} {n : Nat} {bs : List UInt8} (h : RB w A n bs) (hn : 0 < n) : ∃ b off, A = some ⟨b, off, none⟩ ∧ ∀ j, j < n → w.cell? ⟨b, off + j, none⟩ = some (.int .u8 ((bs.getD j 0).toNat : Int)) := by
  obtain ⟨hl, h2⟩ := h
  obtain ⟨b, off, e, _, hc⟩ := h2 (by intro e; subst e; simp only [List.length_nil] at hl; omega)
  refine ⟨b, off, e, fun j hj => ?_⟩
  have hj2 : j < bs.length := by omega
  have h9 := hc j hj2
  rw [h9, List.getD_eq_getElem?_getD, List.getElem?_eq_getElem hj2]
  rfl
set_option maxHeartbeats 4000000 in
theorem strange_any (A : Option Addr) (n c : Nat) (xs : List Nat) (w : World) (hR : RN w A n xs) (hnc : n ≤ c) (hn : n ≤ 1000000) (hc : c ≤ 9223372036854775807) :
    Calls Try.prog 23 #[.slice A n c] w (Fresh w (strQ (putoidQ xs))) := by
  have C := Lib.hid (rputoid_any A n c xs w hR hnc hn hc)
  clear hR hnc hc
  generalize putoidQ xs = l at *
  go_enter Try.func23, Try.ntmps23
  go_wp2_with fail
  refine C.out.mono ?_
  rintro e w1 ⟨A1, n1, c1, rfl, ho, hb⟩
  have hl := ho.len
  have HO := Lib.hid ho
  have HB := Lib.hid hb
  clear C
  obtain h | h : n1 = 0 ∨ 0 < n1 := by omega
  · have HQ : Hid (strQ l = [42, 3]) := by unfold Hid strQ; rw [if_pos (.inl (by omega))]
    have q1 : ((n1 : Int) == 0) = true := by subst h; rfl
    clear ho hb
    go_wp2
    go_ret
    rw [HQ.out]
    exact ⟨_, _, _, rfl, (own_lit w1 [42, 3] 2 _ rfl rfl (by omega)).lower HB.out.size, kp_alloc HB.out _⟩
  · have q1 : ((n1 : Int) == 0) = false := beq_eq_false_iff_ne.2 (by omega)
    obtain h2 | h2 : 300 < n1 ∨ n1 ≤ 300 := by omega
    · have HQ : Hid (strQ l = [42, 3]) := by unfold Hid strQ; rw [if_pos (.inr (.inl (by omega)))]
      have q2 : (300 : Int) < (n1 : Int) := by omega
      clear ho hb
      go_wp2
      go_ret
      rw [HQ.out]
      exact ⟨_, _, _, rfl, (own_lit w1 [42, 3] 2 _ rfl rfl (by omega)).lower HB.out.size, kp_alloc HB.out _⟩
    · have q2 : ¬ (300 : Int) < (n1 : Int) := by omega
      obtain h3 | h3 : n1 = 3 ∨ n1 ≠ 3 := by omega
      · have q3 : ((n1 : Int) == 3) = true := by subst h3; rfl
        obtain ⟨b, off, rfl, hcs⟩ := rb_at9 ho.rb (by omega)
        have c0 := hcs 0 (by omega)
        have c1' := hcs 1 (by omega)
        rw [Nat.add_zero] at c0
        have HL := Lib.hid (show l.length = 3 by omega)
        have h31 : 1 < n1 := by omega
        have h32 : (1 : Int) < (n1 : Int) := by omega
        have hN1 := Lib.hid h3
        obtain ⟨p, hp⟩ : ∃ p, l.getD 0 0 = p := ⟨_, rfl⟩
        obtain ⟨q, hq⟩ : ∃ q, l.getD 1 0 = q := ⟨_, rfl⟩
        rw [hp] at c0
        rw [hq] at c1'
        have HP := Lib.hid hp
        have HQ1 := Lib.hid hq
        clear ho hb hcs h3 hp hq hl
        obtain g1 | g1 : p.toNat = 85 ∨ p.toNat ≠ 85 := by omega
        · have q4 : ((p.toNat : Int) == 85) = true := by rw [g1]; rfl
          have G1 := Lib.hid g1
          clear g1
          obtain g2 | g2 : q.toNat = 29 ∨ q.toNat ≠ 29 := by omega
          · have q5 : ((q.toNat : Int) == 29) = true := by rw [g2]; rfl
            have HQ : Hid (strQ l = [42, 3]) := by unfold Hid strQ; rw [if_pos (.inr (.inr ⟨HL.out, by rw [HP.out]; exact G1.out, by rw [HQ1.out]; exact g2⟩))]
            clear g2
            go_wp2
            go_ret
            rw [HQ.out]
            exact ⟨_, _, _, rfl, (own_lit w1 [42, 3] 2 _ rfl rfl (by omega)).lower HB.out.size, kp_alloc HB.out _⟩
          · have q5 : ((q.toNat : Int) == 29) = false := beq_eq_false_iff_ne.2 (by omega)
            have HQ : Hid (strQ l = l) := by unfold Hid strQ; rw [if_neg (by rw [HL.out, HP.out, HQ1.out]; omega)]
            clear g2
            go_wp2
            go_ret
            rw [HQ.out]
            exact ⟨_, _, _, rfl, HO.out, HB.out⟩
        · have q4 : ((p.toNat : Int) == 85) = false := beq_eq_false_iff_ne.2 (by omega)
          have HQ : Hid (strQ l = l) := by unfold Hid strQ; rw [if_neg (by rw [HL.out, HP.out]; omega)]
          clear g1
          go_wp2
          go_ret
          rw [HQ.out]
          exact ⟨_, _, _, rfl, HO.out, HB.out⟩
      · have q3 : ((n1 : Int) == 3) = false := beq_eq_false_iff_ne.2 (by omega)
        have HQ : Hid (strQ l = l) := by unfold Hid strQ; rw [if_neg (by omega)]
        clear ho hb
        go_wp2
        go_ret
        rw [HQ.out]
        exact ⟨_, _, _, rfl, HO.out, HB.out⟩
end Go.Proofs.Ytomolfdcdmncoaa
