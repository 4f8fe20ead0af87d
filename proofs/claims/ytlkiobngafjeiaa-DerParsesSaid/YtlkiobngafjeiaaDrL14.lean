/-
  der: the statement on the first element.
-/
import Derived.Test.YtlkiobngafjeiaaDrL12
import Derived.Test.YtlkiobngafjeiaaDrM
import Derived.Test.YtlkiobngafjeiaaDrAp
namespace Go.Proofs.Ytlkiobngafjeiaa
open Go.RowKit Go
set_option linter.unusedVariables false
set_option linter.unusedSimpArgs false
set_option maxRecDepth 100000
def pTag (bs : List UInt8) : UInt8 := match splitQ bs with | none => 0 | some _ => bs.getD 0 0
def pBody (bs : List UInt8) : List UInt8 := match splitQ bs with | none => [] | some (s, t) => (bs.take t).drop s
def pRaw (bs : List UInt8) : List UInt8 := match splitQ bs with | none => [] | some (s, t) => bs.take t
def pRest (bs : List UInt8) : List UInt8 := match splitQ bs with | none => [] | some (s, t) => bs.drop t
def pErr (bs : List UInt8) : Nat := match splitQ bs with | none => 9 | some _ => 0
def ParseR (w : World) (bs : List UInt8) (e : Ending) (w' : World) : Prop :=
  (∃ A1 n1 c1 A2 n2 c2 A3 n3 c3, e = .returned (.tuple #[.agg #[.int .u8 ((pTag bs).toNat : Int), .slice A1 n1 c1, .slice A2 n2 c2], .slice A3 n3 c3, .int .i64 (pErr bs : Int)]) ∧
    OwnB w' w.heap.size A1 n1 c1 (pBody bs) ∧ OwnB w' w.heap.size A2 n2 c2 (pRaw bs) ∧ OwnB w' w.heap.size A3 n3 c3 (pRest bs) ∧
    (blk A1 = none ∨ blk A1 ≠ blk A2) ∧ (blk A1 = none ∨ blk A1 ≠ blk A3) ∧ (blk A2 = none ∨ blk A2 ≠ blk A3)) ∧ Below w.heap.size w w'
theorem parse_r {w w' : World} {bs : List UInt8} {e : Ending} (h : ParsePost w bs e w') : ParseR w bs e w' := by
  unfold ParsePost at h
  unfold ParseR pTag pBody pRaw pRest pErr
  cases hq : splitQ bs with
  | none =>
    rw [hq] at h
    obtain ⟨rfl, hb⟩ := h
    exact ⟨⟨none, 0, 0, none, 0, 0, none, 0, 0, rfl, OwnB.nil _ _, OwnB.nil _ _, OwnB.nil _ _, .inl rfl, .inl rfl, .inl rfl⟩, hb⟩
  | some p =>
    obtain ⟨s, t⟩ := p
    rw [hq] at h
    obtain ⟨⟨A1, n1, c1, A2, n2, c2, A3, n3, c3, rfl, o1, o2, o3, f1, f2, f3⟩, hb⟩ := h
    exact ⟨⟨A1, n1, c1, A2, n2, c2, A3, n3, c3, rfl, o1, o2, o3, f1, f2, f3⟩, hb⟩
theorem p_len (bs : List UInt8) : (pBody bs).length ≤ bs.length ∧ (pRaw bs).length ≤ bs.length ∧ (pRest bs).length ≤ bs.length := by
  unfold pBody pRaw pRest
  cases hq : splitQ bs with
  | none => simp
  | some p =>
    obtain ⟨s, t⟩ := p
    simp only [List.length_take, List.length_drop]
    omega
theorem one_same (t : UInt8) (A1 A2 B1 B2 : Option Addr) (n1 c1 n2 c2 m1 k1 m2 k2 : Nat) (b r : List UInt8) (w : World) (h1 : RB w A1 n1 b) (h2 : RB w A2 n2 r) (h3 : RB w B1 m1 b) (h4 : RB w B2 m2 r) :
    Calls Try.prog 26 #[.agg #[.int .u8 (t.toNat : Int), .slice A1 n1 c1, .slice A2 n2 c2], .agg #[.int .u8 (t.toNat : Int), .slice B1 m1 k1, .slice B2 m2 k2]] w fun e w' => e = .returned (.bool true) ∧ Below w.heap.size w w' := by
  have hb2 := kp_alloc (kp_alloc (Below.refl w.heap.size w) (.cells #[.int .u8 (t.toNat : Int), .slice A1 n1 c1, .slice A2 n2 c2] 27)) (.cells #[.int .u8 (t.toNat : Int), .slice B1 m1 k1, .slice B2 m2 k2] 27)
  have E1 := Lib.hid (eq_any A1 B1 n1 m1 c1 k1 _ _ _ (h1.below hb2) (h3.below hb2))
  have E2 := Lib.hid (eq_any A2 B2 n2 m2 c2 k2 _ _ _ (h2.below hb2) (h4.below hb2))
  rw [beq_self_eq_true] at E1 E2
  have HB := Lib.hid hb2
  clear h1 h2 h3 h4 hb2
  go_enter Try.func26, Try.ntmps26
  go_wp2_with fail
  refine E1.out.mono ?_
  rintro e w' ⟨rfl, rfl⟩
  go_wp2_with fail
  refine E2.out.mono ?_
  rintro e w' ⟨rfl, rfl⟩
  go_wp2
  go_ret
  exact ⟨rfl, HB.out⟩
theorem parses_big (A : Option Addr) (n c : Nat) (w : World) (hb : 8192 < n) :
    Calls Try.prog 3 #[.slice A n c] w fun e w' => e = .returned (.bool true) ∧ Below w.heap.size w w' := by
  have W := Lib.hid (works_any w)
  have L := Lib.hid (large_any A n c w)
  have hd : decide ((8192 : Int) < (n : Int)) = true := by simp; omega
  rw [hd] at L
  clear hd
  go_enter Try.func3, Try.ntmps3
  go_wp2_with fail
  refine L.out.mono ?_
  rintro e w' ⟨rfl, rfl⟩
  go_wp2_with fail
  refine W.out.mono ?_
  rintro e w' ⟨rfl, hb⟩
  go_wp2
  go_ret
  exact ⟨rfl, hb⟩
set_option maxHeartbeats 2000000 in
theorem parses_go (A : Option Addr) (n c : Nat) (bs : List UInt8) (w : World) (hb : ¬ 8192 < n) (h : IsBs w A n c bs) :
    Calls Try.prog 3 #[.slice A n c] w fun e w' => e = .returned (.bool true) ∧ Below w.heap.size w w' := by
  have W := Lib.hid (fun W => works_any W)
  have L := Lib.hid (large_any A n c w)
  have hd : decide ((8192 : Int) < (n : Int)) = false := by simp; omega
  rw [hd] at L
  have hn : n ≤ 8192 := by omega
  have hnc := h.le
  have hcc : c ≤ 9223372036854775807 := by have := h.max; unfold maxLen at this; omega
  have RA := Lib.hid h.rb
  have RM := Lib.hid (roomy_any A n c bs w h.rb (by omega))
  have HP := Lib.hid (p_len bs)
  have HLn := Lib.hid h.len
  clear hd hb h
  go_enter Try.func3, Try.ntmps3
  go_wp2_with fail
  refine L.out.mono ?_
  rintro e w' ⟨rfl, rfl⟩
  go_wp2_with fail
  refine RM.out.mono ?_
  rintro e w1 ⟨A1, c1, rfl, hrm, hb1⟩
  have hc1 : n ≤ c1 := by have := hrm.2.cap.1; omega
  have hc2 : c1 ≤ maxLen := hrm.2.cap.2
  have hc3 : c1 ≤ 9223372036854775807 := by unfold maxLen at hc2; omega
  have P2 := Lib.hid ((parse_any A1 n c1 bs w1 hrm.rb hc1 (by omega) hc3).mono fun e w' h => parse_r h)
  have HRM := Lib.hid hrm
  clear hrm hc1 hc2 hc3
  go_wp2_with fail
  refine P2.out.mono ?_
  rintro e w2 ⟨⟨X1, m1, k1, X2, m2, k2, X3, m3, k3, rfl, o1, o2, o3, f1, f2, f3⟩, hb2⟩
  have hb2' := kp_call hb1 hb2
  have hrm := HRM.out.below hb2 (Nat.le_refl _)
  have G1 := Lib.hid (far_symm (far_of HRM.out.2 o1 (Nat.le_refl _)))
  have G2 := Lib.hid (far_symm (far_of HRM.out.2 o2 (Nat.le_refl _)))
  have G3 := Lib.hid (far_symm (far_of HRM.out.2 o3 (Nat.le_refl _)))
  have FF := Lib.hid (show _ ∧ _ ∧ _ from ⟨f1, f2, f3⟩)
  have OX : Hid (∀ W, Below w2.heap.size w2 W → OwnB W w1.heap.size X1 m1 k1 (pBody bs) ∧ OwnB W w1.heap.size X2 m2 k2 (pRaw bs) ∧ OwnB W w1.heap.size X3 m3 k3 (pRest bs) ∧ Roomed W w.heap.size A1 n c1 bs) := fun W hw => ⟨o1.below hw (Nat.le_refl _), o2.below hw (Nat.le_refl _), o3.below hw (Nat.le_refl _), hrm.below hw (Nat.le_refl _)⟩
  have hm1 : m1 ≤ 8192 := by have := o1.len; have := HP.out.1; have := HLn.out; omega
  have hm2 : m2 ≤ 8192 := by have := o2.len; have := HP.out.2.1; have := HLn.out; omega
  have hm3 : m3 ≤ 8192 := by have := o3.len; have := HP.out.2.2; have := HLn.out; omega
  have HM := Lib.hid (show m1 ≤ 8192 ∧ m2 ≤ 8192 ∧ m3 ≤ 8192 from ⟨hm1, hm2, hm3⟩)
  have S1 := Lib.hid hb1.size
  obtain ⟨C, hC⟩ : ∃ C, Obj.cells #[.int .u8 ((pTag bs).toNat : Int), .slice X1 m1 k1, .slice X2 m2 k2] 27 = C := ⟨_, rfl⟩
  have HC := Lib.hid hC
  have bX := Lib.hid (kp_alloc (Below.refl w2.heap.size w2) C)
  have HX : Hid ((w2.alloc C).heap[w2.heap.size]? = some C) := has_new w2 C
  have bw2 := kp_alloc hb2' C
  have P3 := Lib.hid ((rparse_any A n c bs (w2.alloc C) (RA.out.below bw2) hnc (by omega) hcc).mono fun e w' h => parse_r h)
  rw [← hC] at P3
  clear o1 o2 o3 f1 f2 f3 hrm hm1 hm2 hm3 hb1 hb2 hC
  go_wp2_with fail
  refine P3.out.mono ?_
  rw [HC.out]
  rintro e w3 ⟨⟨Y1, i1, j1, Y2, i2, j2, Y3, i3, j3, rfl, q1, q2, q3, _, _, _⟩, hb3⟩
  obtain ⟨D, hD⟩ : ∃ D, Obj.cells #[.int .u8 ((pTag bs).toNat : Int), .slice Y1 i1 j1, .slice Y2 i2 j2] 27 = D := ⟨_, rfl⟩
  have HD := Lib.hid hD
  have b23 := kp_alloc (kp_call bX.out hb3) D
  have bw3 := kp_alloc (kp_call bw2 hb3) D
  have hh := has_alloc (has_below HX.out hb3) D
  rw [← HC.out] at hh
  obtain ⟨c80, c81, c82⟩ := cells_3 hh
  have hx3 := OX.out _ b23
  have O1 := Lib.hid (one_same (pTag bs) X1 X2 Y1 Y2 m1 k1 m2 k2 i1 j1 i2 j2 _ _ _ hx3.1.rb hx3.2.1.rb (q1.alloc D).rb (q2.alloc D).rb)
  have Q3 := Lib.hid (q3.alloc D)
  have B23 := Lib.hid b23
  have HH := Lib.hid hh
  rw [← hD] at O1 c80 c81 c82
  clear q1 q2 q3 hb3 bw2 hh hx3 b23 hD
  go_wp2_with fail
  refine O1.out.mono ?_
  rw [HD.out]
  rintro e w4 ⟨rfl, hb4⟩
  have B24 := Lib.hid (kp_call B23.out hb4)
  have bw4 := kp_call bw3 hb4
  have hh4 := has_below HH.out hb4
  obtain ⟨c90, c91, c92⟩ := cells_3 hh4
  have hx4 := OX.out _ B24.out
  have q34 := Q3.out.below hb4 (Nat.le_refl _)
  have E4 := Lib.hid (eq_any X3 Y3 m3 i3 k3 j3 _ _ w4 hx4.2.2.1.rb q34.rb)
  rw [beq_self_eq_true] at E4
  have K4 := Lib.hid (kept_any A1 A n n c1 c w.heap.size bs bs w4 hx4.2.2.2 (RA.out.below bw4) (by omega))
  rw [beq_self_eq_true] at K4
  have bF := kp_alloc (kp_alloc (Below.refl w4.heap.size w4) (.cells #[.int .u8 ((pTag bs).toNat : Int), .slice X1 m1 k1, .slice X2 m2 k2] 27)) (.cells #[.slice X3 m3 k3, .slice A1 n c1] 22)
  have hxF := OX.out _ (kp_call B24.out bF)
  have hbaseF : w.heap.size ≤ ((w4.alloc (.cells #[.int .u8 ((pTag bs).toNat : Int), .slice X1 m1 k1, .slice X2 m2 k2] 27)).alloc (.cells #[.slice X3 m3 k3, .slice A1 n c1] 22)).heap.size := Nat.le_trans bw4.size bF.size
  have AP : Hid (Calls Try.prog 29 #[.slice (some ⟨w4.heap.size, 0, none⟩) 1 1, .slice (some ⟨w4.heap.size + 1, 0, none⟩) 2 2] ((w4.alloc (.cells #[.int .u8 ((pTag bs).toNat : Int), .slice X1 m1 k1, .slice X2 m2 k2] 27)).alloc (.cells #[.slice X3 m3 k3, .slice A1 n c1] 22)) fun e w' => e = .returned (.bool true) ∧ Below w.heap.size ((w4.alloc (.cells #[.int .u8 ((pTag bs).toNat : Int), .slice X1 m1 k1, .slice X2 m2 k2] 27)).alloc (.cells #[.slice X3 m3 k3, .slice A1 n c1] 22)) w') := by
    refine apart_law _ _ 1 1 2 2 [⟨pTag bs, X1, m1, k1, X2, m2, k2, pBody bs, pRaw bs⟩] [(X3, m3, k3, pRest bs), (A1, n, c1, (bs ++ marks).take n)] _ w.heap.size rfl (by omega) ?_ ?_ rfl (by omega) (by omega) hbaseF ?_ ?_
    · intro _
      refine ⟨w4.heap.size, 0, rfl, by simp; omega, fun j u hu => ?_⟩
      rw [cell_of_row _ w4.heap.size (0 + j) _ _ _ (has_alloc (has_new w4 _) _), Nat.zero_add]
      have hu : ([Value.int .u8 ((pTag bs).toNat : Int), .slice X1 m1 k1, .slice X2 m2 k2] : List Value)[j]? = some u := by simpa [EV.cells] using hu
      simpa using hu
    · intro _
      refine ⟨w4.heap.size + 1, 0, rfl, by simp, fun j u hu => ?_⟩
      have hn1 := has_new (w4.alloc (.cells #[.int .u8 ((pTag bs).toNat : Int), .slice X1 m1 k1, .slice X2 m2 k2] 27)) (.cells #[.slice X3 m3 k3, .slice A1 n c1] 22)
      rw [World.size_alloc] at hn1
      rw [cell_of_row _ (w4.heap.size + 1) (0 + j) _ _ _ hn1, Nat.zero_add]
      have hu : ([Value.slice X3 m3 k3, .slice A1 n c1] : List Value)[j]? = some u := by simpa [Own1.val] using hu
      simpa using hu
    · have hM := HM.out
      exact fam4 ⟨hxF.1.lower S1.out, by simp only; omega⟩ ⟨hxF.2.1.lower S1.out, by simp only; omega⟩ ⟨hxF.2.2.1.lower S1.out, by simp only; omega⟩ ⟨hxF.2.2.2.2.cutTo n (by omega), by simp only; omega⟩
    · exact far4 FF.out.1 FF.out.2.1 G1.out FF.out.2.2 G2.out G3.out
  have bwF := kp_call bw4 bF
  clear hx4 q34 hh4 hb4 bw3 c80 c81 c82 hxF hbaseF bF bw4
  go_wp2_with fail
  refine E4.out.mono ?_
  rintro e w' ⟨rfl, rfl⟩
  go_wp2_with fail
  refine K4.out.mono ?_
  rintro e w' ⟨rfl, rfl⟩
  go_wp2_with fail
  refine AP.out.mono ?_
  rintro e w5 ⟨rfl, hb5⟩
  have hb5' := bwF.trans hb5
  clear bwF hb5
  go_wp2_with fail
  refine (W.out _).mono ?_
  rintro e w' ⟨rfl, hb⟩
  go_wp2
  go_ret
  exact ⟨rfl, kp_call hb5' hb⟩
theorem parses_row (A : Option Addr) (n c : Nat) (bs : List UInt8) (w : World) (h : IsBs w A n c bs) :
    Calls Try.prog 3 #[.slice A n c] w fun e w' => e = .returned (.bool true) ∧ Below w.heap.size w w' := by
  by_cases hb : 8192 < n
  · exact parses_big A n c w hb
  · exact parses_go A n c bs w hb h
end Go.Proofs.Ytlkiobngafjeiaa
