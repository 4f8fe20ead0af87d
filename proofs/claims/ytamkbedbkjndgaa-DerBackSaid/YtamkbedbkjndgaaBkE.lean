/-
  der: the statement on what is written and read, in all cases.
-/
import Derived.Test.YtamkbedbkjndgaaBkD
namespace Go.Proofs.Ytamkbedbkjndgaa
open Go.RowKit Go
set_option linter.unusedVariables false
set_option linter.unusedSimpArgs false
set_option maxRecDepth 100000
theorem back_big1 (t : UInt8) (A1 A2 A3 : Option Addr) (n1 c1 n2 c2 n3 c3 : Nat) (w : World) (h : 8192 < n1) (h3 : n3 ≤ 9223372036854775807) :
    Calls Try.prog 5 #[.agg #[.int .u8 (t.toNat : Int), .slice A1 n1 c1, .slice A2 n2 c2, .slice A3 n3 c3]] w fun e w' => e = .returned (.bool true) ∧ Below w.heap.size w w' := by
  have W := Lib.hid (fun W => works_any W)
  have L1 := Lib.hid (fun W => large_any A1 n1 c1 W)
  have L2 := Lib.hid (fun W => large_any A2 n2 c2 W)
  have q1 : decide ((8192 : Int) < (n1 : Int)) = true := by simp; omega
  rw [q1] at L1
  clear q1
  go_enter Try.func5, Try.ntmps5
  go_wp2_with fail
  refine (L1.out _).mono ?_
  rintro e w' ⟨rfl, rfl⟩
  go_wp2_with fail
  refine (W.out _).mono ?_
  rintro e w' ⟨rfl, hb⟩
  go_wp2
  go_ret
  exact ⟨rfl, kp_call (kp_alloc (Below.refl w.heap.size w) _) hb⟩
theorem back_big2 (t : UInt8) (A1 A2 A3 : Option Addr) (n1 c1 n2 c2 n3 c3 : Nat) (w : World) (h : ¬ 8192 < n1) (h2 : 8192 < n2) (h3 : n3 ≤ 9223372036854775807) :
    Calls Try.prog 5 #[.agg #[.int .u8 (t.toNat : Int), .slice A1 n1 c1, .slice A2 n2 c2, .slice A3 n3 c3]] w fun e w' => e = .returned (.bool true) ∧ Below w.heap.size w w' := by
  have W := Lib.hid (fun W => works_any W)
  have L1 := Lib.hid (fun W => large_any A1 n1 c1 W)
  have L2 := Lib.hid (fun W => large_any A2 n2 c2 W)
  have q1 : decide ((8192 : Int) < (n1 : Int)) = false := by simp; omega
  rw [q1] at L1
  clear q1
  have q2 : decide ((8192 : Int) < (n2 : Int)) = true := by simp; omega
  rw [q2] at L2
  clear q2
  go_enter Try.func5, Try.ntmps5
  go_wp2_with fail
  refine (L1.out _).mono ?_
  rintro e w' ⟨rfl, rfl⟩
  go_wp2_with fail
  refine (L2.out _).mono ?_
  rintro e w' ⟨rfl, rfl⟩
  go_wp2_with fail
  refine (W.out _).mono ?_
  rintro e w' ⟨rfl, hb⟩
  go_wp2
  go_ret
  exact ⟨rfl, kp_call (kp_alloc (Below.refl w.heap.size w) _) hb⟩
theorem back_big3 (t : UInt8) (A1 A2 A3 : Option Addr) (n1 c1 n2 c2 n3 c3 : Nat) (w : World) (h : ¬ 8192 < n1) (h2 : ¬ 8192 < n2) (h4 : 100 < n3) (h3 : n3 ≤ 9223372036854775807) :
    Calls Try.prog 5 #[.agg #[.int .u8 (t.toNat : Int), .slice A1 n1 c1, .slice A2 n2 c2, .slice A3 n3 c3]] w fun e w' => e = .returned (.bool true) ∧ Below w.heap.size w w' := by
  have W := Lib.hid (fun W => works_any W)
  have L1 := Lib.hid (fun W => large_any A1 n1 c1 W)
  have L2 := Lib.hid (fun W => large_any A2 n2 c2 W)
  have q1 : decide ((8192 : Int) < (n1 : Int)) = false := by simp; omega
  rw [q1] at L1
  clear q1
  have q2 : decide ((8192 : Int) < (n2 : Int)) = false := by simp; omega
  rw [q2] at L2
  clear q2
  have i1 : (100 : Int) < (n3 : Int) := by omega
  go_enter Try.func5, Try.ntmps5
  go_wp2_with fail
  refine (L1.out _).mono ?_
  rintro e w' ⟨rfl, rfl⟩
  go_wp2_with fail
  refine (L2.out _).mono ?_
  rintro e w' ⟨rfl, rfl⟩
  go_wp2_with fail
  refine (W.out _).mono ?_
  rintro e w' ⟨rfl, hb⟩
  go_wp2
  go_ret
  exact ⟨rfl, kp_call (kp_alloc (Below.refl w.heap.size w) _) hb⟩
theorem back_row (o : CaseP) (w : World) (h : IsCaseP w o) :
    Calls Try.prog 5 #[o.val] w fun e w' => e = .returned (.bool true) ∧ Below w.heap.size w w' := by
  obtain ⟨t, A1, n1, c1, b, A2, n2, c2, m, A3, n3, c3, xs⟩ := o
  obtain ⟨h1, h2, h3⟩ := h
  have hl : n3 ≤ 9223372036854775807 := by have e1 := h3.le; have e2 := h3.max; unfold maxLen at e2; simp only at e1 e2; omega
  by_cases a1 : 8192 < n1
  · exact back_big1 t A1 A2 A3 n1 c1 n2 c2 n3 c3 w a1 hl
  by_cases a2 : 8192 < n2
  · exact back_big2 t A1 A2 A3 n1 c1 n2 c2 n3 c3 w a1 a2 hl
  by_cases a3 : 100 < n3
  · exact back_big3 t A1 A2 A3 n1 c1 n2 c2 n3 c3 w a1 a2 a3 hl
  · exact back_go t A1 A2 A3 n1 c1 n2 c2 n3 c3 b m xs w (by omega) (by omega) (by omega) h1 h2 h3
end Go.Proofs.Ytamkbedbkjndgaa
