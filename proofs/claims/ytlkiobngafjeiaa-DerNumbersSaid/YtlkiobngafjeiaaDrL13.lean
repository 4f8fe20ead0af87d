/-
  der: the statement on numbers.
-/
import Derived.Test.YtlkiobngafjeiaaDrL12
namespace Go.Proofs.Ytlkiobngafjeiaa
open Go.RowKit Go
set_option linter.unusedVariables false
set_option linter.unusedSimpArgs false
set_option maxRecDepth 100000
def intB (bs : List UInt8) : Bool := (intQ bs).isSome
def intL (bs : List UInt8) : List UInt8 := (intQ bs).getD []
def IntR (w : World) (bs : List UInt8) (e : Ending) (w' : World) : Prop := (∃ A n c, e = .returned (.tuple #[.slice A n c, .bool (intB bs)]) ∧ OwnB w' w.heap.size A n c (intL bs)) ∧ Below w.heap.size w w'
theorem int_r {w w' : World} {bs : List UInt8} {e : Ending} (h : IntPost w bs e w') : IntR w bs e w' := by
  unfold IntPost at h
  unfold IntR intB intL
  cases hq : intQ bs with
  | none =>
    rw [hq] at h
    obtain ⟨rfl, hb⟩ := h
    exact ⟨⟨none, 0, 0, rfl, OwnB.nil _ _⟩, hb⟩
  | some l =>
    rw [hq] at h
    obtain ⟨⟨A, n, c, rfl, ho⟩, hb⟩ := h
    exact ⟨⟨A, n, c, rfl, ho⟩, hb⟩
def bitsB (bs : List UInt8) : Bool := (bitsQ bs).isSome
def bitsL (bs : List UInt8) : List UInt8 := ((bitsQ bs).getD ([], 0)).1
def bitsU (bs : List UInt8) : Nat := ((bitsQ bs).getD ([], 0)).2
def BitsR (w : World) (bs : List UInt8) (e : Ending) (w' : World) : Prop := (∃ A n c, e = .returned (.tuple #[.slice A n c, .int .i64 (bitsU bs : Int), .bool (bitsB bs)]) ∧ OwnB w' w.heap.size A n c (bitsL bs)) ∧ Below w.heap.size w w'
theorem bits_r {w w' : World} {bs : List UInt8} {e : Ending} (h : BitsPost w bs e w') : BitsR w bs e w' := by
  unfold BitsPost at h
  unfold BitsR bitsB bitsL bitsU
  cases hq : bitsQ bs with
  | none =>
    rw [hq] at h
    obtain ⟨rfl, hb⟩ := h
    exact ⟨⟨none, 0, 0, rfl, OwnB.nil _ _⟩, hb⟩
  | some l =>
    obtain ⟨l, u⟩ := l
    rw [hq] at h
    obtain ⟨⟨A, n, c, rfl, ho⟩, hb⟩ := h
    exact ⟨⟨A, n, c, rfl, ho⟩, hb⟩
theorem intL_len (bs : List UInt8) : (intL bs).length ≤ bs.length := by
  unfold intL
  cases hq : intQ bs with
  | none => simp
  | some l =>
    have : l = trimZ bs := by
      match bs, hq with
      | [d], hq => simp only [intQ] at hq; split at hq; cases hq; cases hq; rfl
      | d :: x :: r, hq => simp only [intQ] at hq; split at hq; cases hq; cases hq; rfl
    subst this
    exact trimZ_le bs
theorem putI_len (bs : List UInt8) : (putI bs).length ≤ bs.length + 1 := by
  have := trimZ_le bs
  unfold putI
  split
  · simp
  · rename_i d r e
    rw [e] at this
    split <;> simp at this ⊢ <;> omega
theorem bitsL_len (bs : List UInt8) : (bitsL bs).length ≤ bs.length := by
  unfold bitsL
  cases bs with
  | nil => simp [bitsQ]
  | cons d r =>
    simp only [bitsQ]
    split
    · simp
    · split <;> simp
theorem numbers_big (A : Option Addr) (n c : Nat) (w : World) (hb : 8192 < n) :
    Calls Try.prog 6 #[.slice A n c] w fun e w' => e = .returned (.bool true) ∧ Below w.heap.size w w' := by
  have W := Lib.hid (works_any w)
  have L := Lib.hid (large_any A n c w)
  have hd : decide ((8192 : Int) < (n : Int)) = true := by simp; omega
  rw [hd] at L
  clear hd
  go_enter Try.func6, Try.ntmps6
  go_wp2_with fail
  refine L.out.mono ?_
  rintro e w' ⟨rfl, rfl⟩
  go_wp2_with fail
  refine W.out.mono ?_
  rintro e w' ⟨rfl, hb⟩
  go_wp2
  go_ret
  exact ⟨rfl, hb⟩
set_option maxHeartbeats 2000000 in
theorem numbers_go (A : Option Addr) (n c : Nat) (bs : List UInt8) (w : World) (hb : ¬ 8192 < n) (h : IsBs w A n c bs) :
    Calls Try.prog 6 #[.slice A n c] w fun e w' => e = .returned (.bool true) ∧ Below w.heap.size w w' := by
  have W := Lib.hid (fun W => works_any W)
  have L := Lib.hid (large_any A n c w)
  have hd : decide ((8192 : Int) < (n : Int)) = false := by simp; omega
  rw [hd] at L
  have hn : n ≤ 8192 := by omega
  have hnc := h.le
  have hcc : c ≤ 9223372036854775807 := by have := h.max; unfold maxLen at this; omega
  have RA := Lib.hid h.rb
  have RM := Lib.hid (roomy_any A n c bs w h.rb (by omega))
  have HLi := Lib.hid (intL_len bs)
  have HLp := Lib.hid (putI_len bs)
  have HLb := Lib.hid (bitsL_len bs)
  have HLn := Lib.hid h.len
  clear hd hb h
  go_enter Try.func6, Try.ntmps6
  go_wp2_with fail
  refine L.out.mono ?_
  rintro e w' ⟨rfl, rfl⟩
  go_wp2_with fail
  refine RM.out.mono ?_
  rintro e w1 ⟨A1, c1, rfl, hrm, hb1⟩
  have hc1 : n ≤ c1 := by have := hrm.2.cap.1; omega
  have hc2 : c1 ≤ maxLen := hrm.2.cap.2
  have hc3 : c1 ≤ 9223372036854775807 := by unfold maxLen at hc2; omega
  have HC := Lib.hid (show n ≤ c1 ∧ c1 ≤ maxLen ∧ c1 ≤ 9223372036854775807 from ⟨hc1, hc2, hc3⟩)
  have I2 := Lib.hid ((int_any A1 n c1 bs w1 hrm.rb hc1 hc2 (by omega) hc3).mono fun e w' h => int_r h)
  have HRM := Lib.hid hrm
  clear hrm hc1 hc2 hc3
  go_wp2_with fail
  refine I2.out.mono ?_
  rintro e w2 ⟨⟨X2, m2, k2, rfl, ho2⟩, hb2⟩
  have hb2' := kp_call hb1 hb2
  have hrm := HRM.out.below hb2 (Nat.le_refl _)
  have F12 := Lib.hid (far_of HRM.out.2 ho2 (Nat.le_refl _))
  have I3 := Lib.hid ((rint_any A n c bs w2 (RA.out.below hb2') hnc (by omega) hcc).mono fun e w' h => int_r h)
  have HRM := Lib.hid hrm
  have HO2 := Lib.hid ho2
  have S1 := Lib.hid hb1.size
  clear hrm ho2 hb1 hb2
  go_wp2_with fail
  refine I3.out.mono ?_
  rintro e w3 ⟨⟨X3, m3, k3, rfl, ho3⟩, hb3⟩
  have hb3' := kp_call hb2' hb3
  have hrm := HRM.out.below hb3 (Nat.le_refl _)
  have ho2 := HO2.out.below hb3 (Nat.le_refl _)
  have P4 := Lib.hid (putint_any A1 n c1 bs w3 hrm.rb HC.out.1 HC.out.2.1 (by omega) HC.out.2.2)
  have HRM := Lib.hid hrm
  have HO2 := Lib.hid ho2
  have HO3 := Lib.hid ho3
  clear hrm ho2 ho3 hb3 hb2'
  go_wp2_with fail
  refine P4.out.mono ?_
  rintro e w4 ⟨X4, m4, k4, rfl, ho4, hb4⟩
  have hb4' := kp_call hb3' hb4
  have hrm := HRM.out.below hb4 (Nat.le_refl _)
  have ho2 := HO2.out.below hb4 (Nat.le_refl _)
  have ho3 := HO3.out.below hb4 (Nat.le_refl _)
  have F14 := Lib.hid (far_of HRM.out.2 ho4 (Nat.le_refl _))
  have F24 := Lib.hid (far_of HO2.out ho4 (Nat.le_refl _))
  have B5 := Lib.hid ((bits_any A1 n c1 bs w4 hrm.rb HC.out.1 (by omega) HC.out.2.2).mono fun e w' h => bits_r h)
  have HRM := Lib.hid hrm
  have HO2 := Lib.hid ho2
  have HO3 := Lib.hid ho3
  have HO4 := Lib.hid ho4
  have S3 := Lib.hid hb3'.size
  clear hrm ho2 ho3 ho4 hb4 hb3'
  go_wp2_with fail
  refine B5.out.mono ?_
  rintro e w5 ⟨⟨X5, m5, k5, rfl, ho5⟩, hb5⟩
  have hb5' := kp_call hb4' hb5
  have hrm := HRM.out.below hb5 (Nat.le_refl _)
  have ho2 := HO2.out.below hb5 (Nat.le_refl _)
  have ho3 := HO3.out.below hb5 (Nat.le_refl _)
  have ho4 := HO4.out.below hb5 (Nat.le_refl _)
  have F15 := Lib.hid (far_of HRM.out.2 ho5 (Nat.le_refl _))
  have F25 := Lib.hid (far_of HO2.out ho5 (Nat.le_refl _))
  have F45 := Lib.hid (far_of HO4.out ho5 (Nat.le_refl _))
  have B6 := Lib.hid ((rbits_any A n c bs w5 (RA.out.below hb5') hnc (by omega) hcc).mono fun e w' h => bits_r h)
  have HRM := Lib.hid hrm
  have HO2 := Lib.hid ho2
  have HO3 := Lib.hid ho3
  have HO4 := Lib.hid ho4
  have HO5 := Lib.hid ho5
  have S4 := Lib.hid hb4'.size
  clear hrm ho2 ho3 ho4 ho5 hb5 hb4'
  go_wp2_with fail
  refine B6.out.mono ?_
  rintro e w6 ⟨⟨X6, m6, k6, rfl, ho6⟩, hb6⟩
  have hb6' := kp_call hb5' hb6
  have hrm := HRM.out.below hb6 (Nat.le_refl _)
  have ho2 := HO2.out.below hb6 (Nat.le_refl _)
  have ho3 := HO3.out.below hb6 (Nat.le_refl _)
  have ho4 := HO4.out.below hb6 (Nat.le_refl _)
  have ho5 := HO5.out.below hb6 (Nat.le_refl _)
  have Q23 := Lib.hid (eq_any X2 X3 m2 m3 k2 k3 _ _ w6 ho2.rb ho3.rb)
  rw [beq_self_eq_true] at Q23
  have P7 := Lib.hid (rputint_any A n c bs w6 (RA.out.below hb6') hnc (by omega) hcc)
  have HRM := Lib.hid hrm
  have HO2 := Lib.hid ho2
  have HO4 := Lib.hid ho4
  have HO5 := Lib.hid ho5
  have HO6 := Lib.hid ho6
  clear hrm ho2 ho3 ho4 ho5 ho6 hb6 hb5' HO3 I2 I3 B5 B6
  generalize intB bs = ib at *
  generalize bitsB bs = bb at *
  generalize bitsU bs = bu at *
  go_wp2_with fail
  refine Q23.out.mono ?_
  rintro e w' ⟨rfl, rfl⟩
  go_wp2_with fail
  refine P7.out.mono ?_
  rintro e w7 ⟨X7, m7, k7, rfl, ho7, hb7⟩
  have hb7' := kp_call hb6' hb7
  have hrm := HRM.out.below hb7 (Nat.le_refl _)
  have ho2 := HO2.out.below hb7 (Nat.le_refl _)
  have ho4 := HO4.out.below hb7 (Nat.le_refl _)
  have ho5 := HO5.out.below hb7 (Nat.le_refl _)
  have ho6 := HO6.out.below hb7 (Nat.le_refl _)
  have Q47 := Lib.hid (eq_any X4 X7 m4 m7 k4 k7 _ _ w7 ho4.rb ho7.rb)
  have Q56 := Lib.hid (eq_any X5 X6 m5 m6 k5 k6 _ _ w7 ho5.rb ho6.rb)
  rw [beq_self_eq_true] at Q47 Q56
  have K7 := Lib.hid (kept_any A1 A n n c1 c w.heap.size bs bs w7 hrm (RA.out.below hb7') (by omega))
  rw [beq_self_eq_true] at K7
  have hm2 : m2 ≤ 8193 := by have := ho2.len; have := HLi.out; have := HLn.out; omega
  have hm4 : m4 ≤ 8193 := by have := ho4.len; have := HLp.out; have := HLn.out; omega
  have hm5 : m5 ≤ 8193 := by have := ho5.len; have := HLb.out; have := HLn.out; omega
  have AP : Hid (Calls Try.prog 41 #[.slice (some ⟨w7.heap.size, 0, none⟩) 4 4] (w7.alloc (.cells #[.slice X2 m2 k2, .slice X4 m4 k4, .slice X5 m5 k5, .slice A1 n c1] 22)) fun e w' => e = .returned (.bool true) ∧ Below w.heap.size w7 w') :=
    apart_list w7 w.heap.size [(X2, m2, k2, _), (X4, m4, k4, _), (X5, m5, k5, _), (A1, n, c1, (bs ++ marks).take n)] 4 _ rfl (by omega) rfl hb7'.size
      (fam4 ⟨ho2.lower S1.out, by simp only; omega⟩ ⟨ho4.lower S3.out, by simp only; omega⟩ ⟨ho5.lower S4.out, by simp only; omega⟩ ⟨hrm.2.cutTo n (by omega), by simp only; omega⟩)
      (far4 F24.out F25.out (far_symm F12.out) F45.out (far_symm F14.out) (far_symm F15.out))
  clear hrm ho2 ho4 ho5 ho6 ho7 hb7 hb6' hm2 hm4 hm5
  go_wp2_with fail
  refine Q47.out.mono ?_
  rintro e w' ⟨rfl, rfl⟩
  go_wp2_with fail
  refine Q56.out.mono ?_
  rintro e w' ⟨rfl, rfl⟩
  go_wp2_with fail
  refine K7.out.mono ?_
  rintro e w' ⟨rfl, rfl⟩
  go_wp2_with fail
  refine AP.out.mono ?_
  rintro e w8 ⟨rfl, hb8⟩
  have hb8' := hb7'.trans hb8
  clear hb7' hb8
  go_wp2_with fail
  refine (W.out _).mono ?_
  rintro e w' ⟨rfl, hb⟩
  go_wp2
  go_ret
  exact ⟨rfl, kp_call hb8' hb⟩
theorem numbers_row (A : Option Addr) (n c : Nat) (bs : List UInt8) (w : World) (h : IsBs w A n c bs) :
    Calls Try.prog 6 #[.slice A n c] w fun e w' => e = .returned (.bool true) ∧ Below w.heap.size w w' := by
  by_cases hb : 8192 < n
  · exact numbers_big A n c w hb
  · exact numbers_go A n c bs w hb h
end Go.Proofs.Ytlkiobngafjeiaa
