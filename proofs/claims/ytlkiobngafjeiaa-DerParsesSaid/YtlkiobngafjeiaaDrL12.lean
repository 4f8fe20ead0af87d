/-
  der: the statements on what is written, and on numbers.
-/
import Derived.Test.YtlkiobngafjeiaaDrL8
import Derived.Test.YtlkiobngafjeiaaDrZ
import Derived.Test.YtlkiobngafjeiaaRoomy
import Derived.Test.YtlkiobngafjeiaaFam
namespace Go.Proofs.Ytlkiobngafjeiaa
open Go.RowKit Go
set_option linter.unusedVariables false
set_option linter.unusedSimpArgs false
set_option maxRecDepth 100000
theorem wr_bound6 (t : UInt8) (b : List UInt8) (h : b.length ≤ 1000000) : (wrQ t b).length ≤ b.length + 6 := by
  have h1 := lenB_len 4 b.length (by omega)
  rw [wr_len]
  split <;> omega
theorem join1_any (X1 : Option Addr) (m1 k1 : Nat) (r1 : List UInt8) (w : World) (g : Nat) (hg : w.heap.size = g) (h1 : RB w X1 m1 r1) (hlen : m1 ≤ 140737488355328) :
    Calls Try.prog 38 #[.slice (some ⟨g, 0, none⟩) 1 1] (w.alloc (.cells #[.slice X1 m1 k1] 22)) (Fresh w r1) := by
  have := joins_any [(X1, m1, k1, r1)] 1 #[.slice X1 m1 k1] w g hg rfl (by omega) rfl (by
    intro x hx
    simp only [List.mem_cons, List.not_mem_nil, or_false] at hx
    subst hx
    exact h1) (by simp [h1.1]; omega)
  simpa only [List.flatMap_cons, List.flatMap_nil, List.append_nil] using this
theorem join0_any (w : World) : Calls Try.prog 38 #[.slice none 0 0] w (Fresh w []) :=
  join_any none 0 0 (fun _ => (none, 0, 0)) (fun _ => []) w (fun h => absurd h (by omega)) (by omega) (by simp [joinN])
theorem fam4 {W : World} {base : Nat} {x1 x2 x3 x4 : Own1} (h1 : OwnB W base x1.1 x1.2.1 x1.2.2.1 x1.2.2.2 ∧ x1.2.1 ≤ 1000000) (h2 : OwnB W base x2.1 x2.2.1 x2.2.2.1 x2.2.2.2 ∧ x2.2.1 ≤ 1000000)
    (h3 : OwnB W base x3.1 x3.2.1 x3.2.2.1 x3.2.2.2 ∧ x3.2.1 ≤ 1000000) (h4 : OwnB W base x4.1 x4.2.1 x4.2.2.1 x4.2.2.2 ∧ x4.2.1 ≤ 1000000) : ∀ x ∈ [x1, x2, x3, x4], OwnB W base x.1 x.2.1 x.2.2.1 x.2.2.2 ∧ x.2.1 ≤ 1000000 := by
  intro x hx
  simp only [List.mem_cons, List.not_mem_nil, or_false] at hx
  rcases hx with rfl | rfl | rfl | rfl
  · exact h1
  · exact h2
  · exact h3
  · exact h4
theorem far4 {x1 x2 x3 x4 : Own1} (h12 : blk x1.1 = none ∨ blk x1.1 ≠ blk x2.1) (h13 : blk x1.1 = none ∨ blk x1.1 ≠ blk x3.1) (h14 : blk x1.1 = none ∨ blk x1.1 ≠ blk x4.1) (h23 : blk x2.1 = none ∨ blk x2.1 ≠ blk x3.1) (h24 : blk x2.1 = none ∨ blk x2.1 ≠ blk x4.1) (h34 : blk x3.1 = none ∨ blk x3.1 ≠ blk x4.1) :
    [x1, x2, x3, x4].Pairwise fun x y => blk x.1 = none ∨ blk x.1 ≠ blk y.1 := by
  simp only [List.pairwise_cons, List.mem_cons, List.not_mem_nil, or_false]
  refine ⟨?_, ?_, ?_, by simp, List.Pairwise.nil⟩
  · rintro y (rfl | rfl | rfl)
    · exact h12
    · exact h13
    · exact h14
  · rintro y (rfl | rfl)
    · exact h23
    · exact h24
  · rintro y rfl
    exact h34
/-! ### What is written -/
theorem writes_big1 (t : UInt8) (A B : Option Addr) (n c m k : Nat) (w : World) (h : 131072 < n) :
    Calls Try.prog 5 #[.int .u8 (t.toNat : Int), .slice A n c, .slice B m k] w fun e w' => e = .returned (.bool true) ∧ Below w.heap.size w w' := by
  have W := Lib.hid (works_any w)
  have q1 : decide ((131072 : Int) < (n : Int)) = true := by simp; omega
  clear h
  go_enter Try.func5, Try.ntmps5
  go_wp2_with fail
  refine W.out.mono ?_
  rintro e w' ⟨rfl, hb⟩
  go_wp2
  go_ret
  exact ⟨rfl, hb⟩
theorem writes_big2 (t : UInt8) (A B : Option Addr) (n c m k : Nat) (w : World) (h : ¬ 131072 < n) (h2 : 131072 < m) :
    Calls Try.prog 5 #[.int .u8 (t.toNat : Int), .slice A n c, .slice B m k] w fun e w' => e = .returned (.bool true) ∧ Below w.heap.size w w' := by
  have W := Lib.hid (works_any w)
  have q1 : decide ((131072 : Int) < (n : Int)) = false := by simp; omega
  have q2 : decide ((131072 : Int) < (m : Int)) = true := by simp; omega
  clear h h2
  go_enter Try.func5, Try.ntmps5
  go_wp2_with fail
  refine W.out.mono ?_
  rintro e w' ⟨rfl, hb⟩
  go_wp2
  go_ret
  exact ⟨rfl, hb⟩
set_option maxHeartbeats 1000000 in
theorem writes_go (t : UInt8) (A B : Option Addr) (n c m k : Nat) (a b : List UInt8) (w : World) (h : ¬ 131072 < n) (h2 : ¬ 131072 < m) (Ra : RB w A n a) (Rb : RB w B m b) :
    Calls Try.prog 5 #[.int .u8 (t.toNat : Int), .slice A n c, .slice B m k] w fun e w' => e = .returned (.bool true) ∧ Below w.heap.size w w' := by
  have W := Lib.hid (fun W => works_any W)
  have q1 : decide ((131072 : Int) < (n : Int)) = false := by simp; omega
  have q2 : decide ((131072 : Int) < (m : Int)) = false := by simp; omega
  have RM := Lib.hid (roomy_any A n c a w Ra (by omega))
  have RA := Lib.hid Ra
  have RBb := Lib.hid Rb
  have HW := Lib.hid (wr_bound6 t a (by rw [Ra.1]; omega))
  have J0 := Lib.hid (fun W => join0_any W)
  have hn1 : n ≤ 131072 := by omega
  have hm1 : m ≤ 131072 := by omega
  clear h h2 Ra Rb
  go_enter Try.func5, Try.ntmps5
  go_wp2_with fail
  refine RM.out.mono ?_
  rintro e w1 ⟨A1, c1, rfl, hrm, hb1⟩
  have W2 := Lib.hid (write_any t A1 n c1 a w1 hrm.rb (by omega))
  have HRM := Lib.hid hrm
  clear hrm
  go_wp2_with fail
  refine W2.out.mono ?_
  rintro e w2 ⟨X2, m2, k2, rfl, ho2, hb2⟩
  have hb2' := kp_call hb1 hb2
  have hrm := HRM.out.below hb2 (Nat.le_refl _)
  have F12 := Lib.hid (far_of HRM.out.2 ho2 (Nat.le_refl _))
  have hm2 : m2 ≤ 131078 := by have := ho2.len; have := HW.out; have := RA.out.1; omega
  have J3 := Lib.hid (join3_any A1 B A1 n m n c1 k c1 _ _ _ w2 w2.heap.size rfl hrm.rb (RBb.out.below hb2') hrm.rb (by omega))
  have HRM := Lib.hid hrm
  have HO2 := Lib.hid ho2
  have S1 := Lib.hid hb1.size
  have S2 := Lib.hid hb2'.size
  clear hrm ho2 hb1 hb2
  go_wp2_with fail
  refine J3.out.mono ?_
  rintro e w3 ⟨X3, m3, k3, rfl, ho3, hb3⟩
  have hb3' := kp_call hb2' hb3
  have hrm := HRM.out.below hb3 (Nat.le_refl _)
  have ho2 := HO2.out.below hb3 (Nat.le_refl _)
  have F13 := Lib.hid (far_of HRM.out.2 ho3 (Nat.le_refl _))
  have F23 := Lib.hid (far_of HO2.out ho3 (Nat.le_refl _))
  have hm3 : m3 ≤ 393216 := by have := ho3.len; simp only [List.length_append] at this; have := RA.out.1; have := RBb.out.1; omega
  have RW := Lib.hid (rwrite_any t A n c a w3 (RA.out.below hb3') (by omega))
  have HRM := Lib.hid hrm
  have HO2 := Lib.hid ho2
  have HO3 := Lib.hid ho3
  clear hrm ho2 ho3 hb3 hb2'
  go_wp2_with fail
  refine RW.out.mono ?_
  rintro e w4 ⟨X4, m4, k4, rfl, ho4, hb4⟩
  have hb4' := kp_call hb3' hb4
  have hrm := HRM.out.below hb4 (Nat.le_refl _)
  have ho2 := HO2.out.below hb4 (Nat.le_refl _)
  have ho3 := HO3.out.below hb4 (Nat.le_refl _)
  have Q4 := Lib.hid (eq_any X2 X4 m2 m4 k2 k4 _ _ w4 ho2.rb ho4.rb)
  rw [beq_self_eq_true] at Q4
  have RJ := Lib.hid (rjoin3_any A B A n m n c k c _ _ _ w4 w4.heap.size rfl (RA.out.below hb4') (RBb.out.below hb4') (RA.out.below hb4') (by omega))
  have HRM := Lib.hid hrm
  have HO2 := Lib.hid ho2
  have HO3 := Lib.hid ho3
  clear hrm ho2 ho3 ho4 hb4 hb3'
  go_wp2_with fail
  refine Q4.out.mono ?_
  rintro e w' ⟨rfl, rfl⟩
  go_wp2_with fail
  refine RJ.out.mono ?_
  rintro e w5 ⟨X5, m5, k5, rfl, ho5, hb5⟩
  have hb5' := kp_call hb4' hb5
  have hrm := HRM.out.below hb5 (Nat.le_refl _)
  have ho2 := HO2.out.below hb5 (Nat.le_refl _)
  have ho3 := HO3.out.below hb5 (Nat.le_refl _)
  have Q5 := Lib.hid (eq_any X3 X5 m3 m5 k3 k5 _ _ w5 ho3.rb ho5.rb)
  rw [beq_self_eq_true] at Q5
  have K5 := Lib.hid (kept_any A1 A n n c1 c w.heap.size a a w5 hrm (RA.out.below hb5') (by omega))
  rw [beq_self_eq_true] at K5
  have HRM := Lib.hid hrm
  have HO2 := Lib.hid ho2
  have HO3 := Lib.hid ho3
  clear hrm ho2 ho3 ho5 hb5 hb4'
  go_wp2_with fail
  refine Q5.out.mono ?_
  rintro e w' ⟨rfl, rfl⟩
  go_wp2_with fail
  refine K5.out.mono ?_
  rintro e w' ⟨rfl, rfl⟩
  go_wp2_with fail
  refine (J0.out _).mono ?_
  rintro e w6 ⟨X6, m6, k6, rfl, ho6, hb6⟩
  obtain rfl : m6 = 0 := by rw [← ho6.len]; rfl
  have hb6' := kp_call hb5' hb6
  have hrm := HRM.out.below hb6 (Nat.le_refl _)
  have ho2 := HO2.out.below hb6 (Nat.le_refl _)
  have ho3 := HO3.out.below hb6 (Nat.le_refl _)
  have J1 := Lib.hid (join1_any A1 n c1 _ w6 w6.heap.size rfl hrm.rb (by omega))
  have HRM := Lib.hid hrm
  have HO2 := Lib.hid ho2
  have HO3 := Lib.hid ho3
  clear hrm ho2 ho3 ho6 hb6 hb5'
  go_wp2_with fail
  refine J1.out.mono ?_
  rintro e w7 ⟨X7, m7, k7, rfl, ho7, hb7⟩
  have hb7' := kp_call hb6' hb7
  have hrm := HRM.out.below hb7 (Nat.le_refl _)
  have ho2 := HO2.out.below hb7 (Nat.le_refl _)
  have ho3 := HO3.out.below hb7 (Nat.le_refl _)
  have hm7 : m7 ≤ 131072 := by have := ho7.len; have := RA.out.1; omega
  have F17 := far_of HRM.out.2 ho7 (Nat.le_refl _)
  have F27 := far_of HO2.out ho7 (Nat.le_refl _)
  have F37 := far_of HO3.out ho7 (Nat.le_refl _)
  have AP : Hid (Calls Try.prog 41 #[.slice (some ⟨w7.heap.size, 0, none⟩) 4 4] (w7.alloc (.cells #[.slice X2 m2 k2, .slice X3 m3 k3, .slice X7 m7 k7, .slice A1 n c1] 22)) fun e w' => e = .returned (.bool true) ∧ Below w.heap.size w7 w') :=
    apart_list w7 w.heap.size [(X2, m2, k2, _), (X3, m3, k3, _), (X7, m7, k7, _), (A1, n, c1, (a ++ marks).take n)] 4 _ rfl (by omega) rfl hb7'.size
      (fam4 ⟨ho2.lower S1.out, by simp only; omega⟩ ⟨ho3.lower S2.out, by simp only; omega⟩ ⟨ho7.lower hb6'.size, by simp only; omega⟩ ⟨hrm.2.cutTo n (by omega), by simp only; omega⟩)
      (far4 F23.out F27 (far_symm F12.out) F37 (far_symm F13.out) (far_symm F17))
  clear hrm ho2 ho3 ho7 hb7 F17 F27 F37 hb6'
  go_wp2_with fail
  refine AP.out.mono ?_
  rintro e w8 ⟨rfl, hb8⟩
  have hb8' := hb7'.trans hb8
  clear hb7' hb8
  go_wp2_with fail
  refine (W.out _).mono ?_
  rintro e w' ⟨rfl, hb⟩
  go_wp2
  go_ret
  exact ⟨rfl, kp_call hb8' hb⟩
theorem writes_row (t : Int) (A : Option Addr) (n c : Nat) (a : List UInt8) (B : Option Addr) (m k : Nat) (b : List UInt8) (w : World) (h0 : (Lit.int .u8 t).wf = true) (h1 : IsBs w A n c a) (h2 : IsBs w B m k b) :
    Calls Try.prog 5 #[.int .u8 t, .slice A n c, .slice B m k] w fun e w' => e = .returned (.bool true) ∧ Below w.heap.size w w' := by
  have b0 := bounds_u8 h0
  have e0 : t = ((UInt8.ofNat t.toNat).toNat : Int) := by rw [UInt8.toNat_ofNat']; omega
  rw [e0]
  by_cases hn : 131072 < n
  · exact writes_big1 _ A B n c m k w hn
  by_cases hm : 131072 < m
  · exact writes_big2 _ A B n c m k w hn hm
  exact writes_go _ A B n c m k a b w hn hm h1.rb h2.rb
end Go.Proofs.Ytlkiobngafjeiaa
