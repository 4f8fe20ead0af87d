/-
  stamp: the document's answer whether a moment is one.
-/
import Derived.Test.YtfampefflkkckaaDoorStN
import Derived.IntWalk
namespace Go.Proofs.YtfampefflkkckaaDoor
open Go.RowKit Go
set_option linter.unusedVariables false
set_option maxRecDepth 100000
/-- How many days a month has, by definition. -/
def daysR (y m : Nat) : Nat := if m = 1 ∨ m = 3 ∨ m = 5 ∨ m = 7 ∨ m = 8 ∨ m = 10 ∨ m = 12 then 31 else if m = 4 ∨ m = 6 ∨ m = 9 ∨ m = 11 then 30 else if m = 2 then (if y % 4 = 0 ∧ (y % 100 ≠ 0 ∨ y % 400 = 0) then 29 else 28) else 0
theorem refDays_any (y m : Nat) (w : World) (hy : y < 65536) (hm : m < 256) : Calls Tryd.prog 60 #[.int .i64 (y : Int), .int .i64 (m : Int)] w fun e w' => e = .returned (.int .i64 (daysR y m : Nat)) ∧ w' = w := by
  by_cases h1 : m = 1
  · subst h1
    rw [show daysR y 1 = 31 from rfl]
    go_enter Tryd.func60, Tryd.ntmps60
    go_wp2
    go_ret
    exact ⟨rfl, rfl⟩
  by_cases h3 : m = 3
  · subst h3
    rw [show daysR y 3 = 31 from rfl]
    go_enter Tryd.func60, Tryd.ntmps60
    go_wp2
    go_ret
    exact ⟨rfl, rfl⟩
  by_cases h5 : m = 5
  · subst h5
    rw [show daysR y 5 = 31 from rfl]
    go_enter Tryd.func60, Tryd.ntmps60
    go_wp2
    go_ret
    exact ⟨rfl, rfl⟩
  by_cases h7 : m = 7
  · subst h7
    rw [show daysR y 7 = 31 from rfl]
    go_enter Tryd.func60, Tryd.ntmps60
    go_wp2
    go_ret
    exact ⟨rfl, rfl⟩
  by_cases h8 : m = 8
  · subst h8
    rw [show daysR y 8 = 31 from rfl]
    go_enter Tryd.func60, Tryd.ntmps60
    go_wp2
    go_ret
    exact ⟨rfl, rfl⟩
  by_cases h10 : m = 10
  · subst h10
    rw [show daysR y 10 = 31 from rfl]
    go_enter Tryd.func60, Tryd.ntmps60
    go_wp2
    go_ret
    exact ⟨rfl, rfl⟩
  by_cases h12 : m = 12
  · subst h12
    rw [show daysR y 12 = 31 from rfl]
    go_enter Tryd.func60, Tryd.ntmps60
    go_wp2
    go_ret
    exact ⟨rfl, rfl⟩
  by_cases h4 : m = 4
  · subst h4
    rw [show daysR y 4 = 30 from rfl]
    go_enter Tryd.func60, Tryd.ntmps60
    go_wp2
    go_ret
    exact ⟨rfl, rfl⟩
  by_cases h6 : m = 6
  · subst h6
    rw [show daysR y 6 = 30 from rfl]
    go_enter Tryd.func60, Tryd.ntmps60
    go_wp2
    go_ret
    exact ⟨rfl, rfl⟩
  by_cases h9 : m = 9
  · subst h9
    rw [show daysR y 9 = 30 from rfl]
    go_enter Tryd.func60, Tryd.ntmps60
    go_wp2
    go_ret
    exact ⟨rfl, rfl⟩
  by_cases h11 : m = 11
  · subst h11
    rw [show daysR y 11 = 30 from rfl]
    go_enter Tryd.func60, Tryd.ntmps60
    go_wp2
    go_ret
    exact ⟨rfl, rfl⟩
  by_cases h2 : m = 2
  · subst h2
    have e : daysR y 2 = if y % 4 = 0 ∧ (y % 100 ≠ 0 ∨ y % 400 = 0) then 29 else 28 := rfl
    rw [e]
    have QE : Hid (∀ a : Int, a = 0 → ((a == 0) = true ∧ (a != 0) = false)) := fun a h => by subst h; exact ⟨rfl, rfl⟩
    have QN : Hid (∀ a : Int, a ≠ 0 → ((a == 0) = false ∧ (a != 0) = true)) := fun a h => ⟨beq_eq_false_iff_ne.2 h, by rw [bne_iff_ne]; exact h⟩
    have hc : (y % 4 ≠ 0) ∨ (y % 4 = 0 ∧ y % 100 ≠ 0) ∨ (y % 4 = 0 ∧ y % 100 = 0 ∧ y % 400 = 0) ∨ (y % 4 = 0 ∧ y % 100 = 0 ∧ y % 400 ≠ 0) := by omega
    rcases hc with h | h | h | h
    · rw [if_neg (by omega)]
      obtain ⟨e4, n4⟩ := QN.out ((y : Int) % 4) (by omega)
      clear e h QE QN
      go_enter Tryd.func60, Tryd.ntmps60
      go_wp2
      go_ret
      exact ⟨rfl, rfl⟩
    · rw [if_pos (by omega)]
      obtain ⟨e4, n4⟩ := QE.out ((y : Int) % 4) (by omega)
      obtain ⟨e100, n100⟩ := QN.out ((y : Int) % 100) (by omega)
      clear e h QE QN
      go_enter Tryd.func60, Tryd.ntmps60
      go_wp2
      go_ret
      exact ⟨rfl, rfl⟩
    · rw [if_pos (by omega)]
      obtain ⟨e4, n4⟩ := QE.out ((y : Int) % 4) (by omega)
      obtain ⟨e100, n100⟩ := QE.out ((y : Int) % 100) (by omega)
      obtain ⟨e400, n400⟩ := QE.out ((y : Int) % 400) (by omega)
      clear e h QE QN
      go_enter Tryd.func60, Tryd.ntmps60
      go_wp2
      go_ret
      exact ⟨rfl, rfl⟩
    · rw [if_neg (by omega)]
      obtain ⟨e4, n4⟩ := QE.out ((y : Int) % 4) (by omega)
      obtain ⟨e100, n100⟩ := QE.out ((y : Int) % 100) (by omega)
      obtain ⟨e400, n400⟩ := QN.out ((y : Int) % 400) (by omega)
      clear e h QE QN
      go_enter Tryd.func60, Tryd.ntmps60
      go_wp2
      go_ret
      exact ⟨rfl, rfl⟩
  · have e : daysR y m = 0 := by
      unfold daysR
      rw [if_neg (by omega), if_neg (by omega), if_neg h2]
    rw [e]
    have b1 : ((m : Int) == 1) = false := beq_eq_false_iff_ne.2 (by omega)
    have b3 : ((m : Int) == 3) = false := beq_eq_false_iff_ne.2 (by omega)
    have b5 : ((m : Int) == 5) = false := beq_eq_false_iff_ne.2 (by omega)
    have b7 : ((m : Int) == 7) = false := beq_eq_false_iff_ne.2 (by omega)
    have b8 : ((m : Int) == 8) = false := beq_eq_false_iff_ne.2 (by omega)
    have b10 : ((m : Int) == 10) = false := beq_eq_false_iff_ne.2 (by omega)
    have b12 : ((m : Int) == 12) = false := beq_eq_false_iff_ne.2 (by omega)
    have b4 : ((m : Int) == 4) = false := beq_eq_false_iff_ne.2 (by omega)
    have b6 : ((m : Int) == 6) = false := beq_eq_false_iff_ne.2 (by omega)
    have b9 : ((m : Int) == 9) = false := beq_eq_false_iff_ne.2 (by omega)
    have b11 : ((m : Int) == 11) = false := beq_eq_false_iff_ne.2 (by omega)
    have b2 : ((m : Int) == 2) = false := beq_eq_false_iff_ne.2 (by omega)
    clear e h1 h3 h5 h7 h8 h10 h12 h4 h6 h9 h11 h2
    go_enter Tryd.func60, Tryd.ntmps60
    go_wp2
    go_ret
    exact ⟨rfl, rfl⟩
theorem daysR_le (y m : Nat) : daysR y m ≤ 31 := by
  unfold daysR
  repeat' split
  all_goals omega
theorem rightR (t : Tm) : rightB t = decide (1900 ≤ t.y ∧ t.y ≤ 9999 ∧ 1 ≤ t.d.toNat ∧ t.d.toNat ≤ daysR t.y t.mo.toNat ∧ t.h.toNat ≤ 23 ∧ t.mi.toNat ≤ 59 ∧ t.s.toNat ≤ 59) := by
  unfold rightB
  rw [decide_eq_decide]
  unfold daysN daysR
  constructor
  · rintro ⟨h1, h2, h3, h4, h5, h6, h7, h8, h9⟩
    refine ⟨h1, h2, h5, ?_, h7, h8, h9⟩
    generalize t.mo.toNat = m at *
    clear h1 h2 h7 h8 h9
    have hm : m = 1 ∨ m = 2 ∨ m = 3 ∨ m = 4 ∨ m = 5 ∨ m = 6 ∨ m = 7 ∨ m = 8 ∨ m = 9 ∨ m = 10 ∨ m = 11 ∨ m = 12 := by omega
    rcases hm with rfl | rfl | rfl | rfl | rfl | rfl | rfl | rfl | rfl | rfl | rfl | rfl <;> simpa using h6
  · rintro ⟨h1, h2, h5, h6, h7, h8, h9⟩
    generalize t.mo.toNat = m at *
    by_cases hm : m = 1 ∨ m = 2 ∨ m = 3 ∨ m = 4 ∨ m = 5 ∨ m = 6 ∨ m = 7 ∨ m = 8 ∨ m = 9 ∨ m = 10 ∨ m = 11 ∨ m = 12
    · refine ⟨h1, h2, by omega, by omega, h5, ?_, h7, h8, h9⟩
      clear h1 h2 h7 h8 h9
      rcases hm with rfl | rfl | rfl | rfl | rfl | rfl | rfl | rfl | rfl | rfl | rfl | rfl <;> simpa using h6
    · rw [if_neg (by omega), if_neg (by omega), if_neg (by omega)] at h6
      omega
set_option maxHeartbeats 800000 in
theorem refRight_any (t : Tm) (w : World) (hy : t.y < 65536) : Calls Tryd.prog 50 #[tmV t] w fun e w' => e = .returned (.bool (rightB t)) ∧ Below w.heap.size w w' := by
  have DR := Lib.hid (fun W => refDays_any t.y t.mo.toNat W hy t.mo.toNat_lt)
  have hb0 : ∀ cs, Below w.heap.size w (w.alloc (.cells cs 71)) := fun cs => (Below.refl _ _).alloc (Nat.le_refl _) _
  have hR := rightR t
  have b1 := t.mo.toNat_lt
  have b2 := t.d.toNat_lt
  have b3 := t.h.toNat_lt
  have b4 := t.mi.toNat_lt
  have b5 := t.s.toNat_lt
  have hD := daysR_le t.y t.mo.toNat
  generalize rightB t = R at hR
  generalize daysR t.y t.mo.toNat = N at DR hR hD
  unfold tmV Tm.cells
  obtain ⟨y, mo, d, h', mi, s'⟩ := t
  simp only at *
  have v1 : IntKind.i64.wrap (y : Int) = (y : Int) := IntWalk.i64_in _ (by omega)
  have v2 : IntKind.i64.wrap (mo.toNat : Int) = (mo.toNat : Int) := IntWalk.i64_in _ (by omega)
  have v3 : IntKind.i64.wrap (d.toNat : Int) = (d.toNat : Int) := IntWalk.i64_in _ (by omega)
  have V1 := Lib.hid v1
  have V2 := Lib.hid v2
  have V3 := Lib.hid v3
  clear v1 v2 v3
  have HR := Lib.hid hR
  clear hR
  have hc : y < 1900 ∨ (1900 ≤ y ∧ 9999 < y) ∨ (1900 ≤ y ∧ y ≤ 9999 ∧ d.toNat < 1) ∨ (1900 ≤ y ∧ y ≤ 9999 ∧ 1 ≤ d.toNat ∧ N < d.toNat) ∨ (1900 ≤ y ∧ y ≤ 9999 ∧ 1 ≤ d.toNat ∧ d.toNat ≤ N ∧ 24 ≤ h'.toNat) ∨ (1900 ≤ y ∧ y ≤ 9999 ∧ 1 ≤ d.toNat ∧ d.toNat ≤ N ∧ h'.toNat < 24 ∧ 60 ≤ mi.toNat) ∨ (1900 ≤ y ∧ y ≤ 9999 ∧ 1 ≤ d.toNat ∧ d.toNat ≤ N ∧ h'.toNat < 24 ∧ mi.toNat < 60 ∧ 60 ≤ s'.toNat) ∨ (1900 ≤ y ∧ y ≤ 9999 ∧ 1 ≤ d.toNat ∧ d.toNat ≤ N ∧ h'.toNat < 24 ∧ mi.toNat < 60 ∧ s'.toNat < 60) := by omega
  rcases hc with hc | hc | hc | hc | hc | hc | hc | hc
  · obtain rfl : R = false := by rw [HR.out]; exact decide_eq_false (by omega)
    have g0 : decide (1900 ≤ (y : Int)) = false := decide_eq_false (by omega)
    clear hc HR
    go_enter Tryd.func50, Tryd.ntmps50
    go_wp2
    have v1 := V1.out
    have v2 := V2.out
    have v3 := V3.out
    go_quiet ((go_at_call 60; exact Calls.quiet_of_same (DR.out _)))
    go_wp2
    go_ret
    exact ⟨rfl, below_dn (hb0 _) _⟩
  · obtain rfl : R = false := by rw [HR.out]; exact decide_eq_false (by omega)
    have g0 : decide (1900 ≤ (y : Int)) = true := decide_eq_true (by omega)
    have g1 : decide ((y : Int) ≤ 9999) = false := decide_eq_false (by omega)
    clear hc HR
    go_enter Tryd.func50, Tryd.ntmps50
    go_wp2
    have v1 := V1.out
    have v2 := V2.out
    have v3 := V3.out
    go_quiet ((go_at_call 60; exact Calls.quiet_of_same (DR.out _)))
    go_wp2
    go_ret
    exact ⟨rfl, below_dn (hb0 _) _⟩
  · obtain rfl : R = false := by rw [HR.out]; exact decide_eq_false (by omega)
    have g0 : decide (1900 ≤ (y : Int)) = true := decide_eq_true (by omega)
    have g1 : decide ((y : Int) ≤ 9999) = true := decide_eq_true (by omega)
    have g2 : decide (1 ≤ (d.toNat : Int)) = false := decide_eq_false (by omega)
    clear hc HR
    go_enter Tryd.func50, Tryd.ntmps50
    go_wp2
    have v1 := V1.out
    have v2 := V2.out
    have v3 := V3.out
    go_quiet ((go_at_call 60; exact Calls.quiet_of_same (DR.out _)))
    go_wp2
    go_ret
    exact ⟨rfl, below_dn (hb0 _) _⟩
  · obtain rfl : R = false := by rw [HR.out]; exact decide_eq_false (by omega)
    have g0 : decide (1900 ≤ (y : Int)) = true := decide_eq_true (by omega)
    have g1 : decide ((y : Int) ≤ 9999) = true := decide_eq_true (by omega)
    have g2 : decide (1 ≤ (d.toNat : Int)) = true := decide_eq_true (by omega)
    have g3 : decide ((d.toNat : Int) ≤ (N : Int)) = false := decide_eq_false (by omega)
    have g9 : decide (d.toNat ≤ N) = false := decide_eq_false (by omega)
    clear hc HR
    go_enter Tryd.func50, Tryd.ntmps50
    go_wp2
    have v1 := V1.out
    have v2 := V2.out
    have v3 := V3.out
    go_quiet ((go_at_call 60; exact Calls.quiet_of_same (DR.out _)))
    go_wp2
    go_ret
    exact ⟨rfl, below_dn (hb0 _) _⟩
  · obtain rfl : R = false := by rw [HR.out]; exact decide_eq_false (by omega)
    have g0 : decide (1900 ≤ (y : Int)) = true := decide_eq_true (by omega)
    have g1 : decide ((y : Int) ≤ 9999) = true := decide_eq_true (by omega)
    have g2 : decide (1 ≤ (d.toNat : Int)) = true := decide_eq_true (by omega)
    have g3 : decide ((d.toNat : Int) ≤ (N : Int)) = true := decide_eq_true (by omega)
    have g4 : decide ((h'.toNat : Int) < 24) = false := decide_eq_false (by omega)
    have g9 : decide (d.toNat ≤ N) = true := decide_eq_true (by omega)
    clear hc HR
    go_enter Tryd.func50, Tryd.ntmps50
    go_wp2
    have v1 := V1.out
    have v2 := V2.out
    have v3 := V3.out
    go_quiet ((go_at_call 60; exact Calls.quiet_of_same (DR.out _)))
    go_wp2
    go_ret
    exact ⟨rfl, below_dn (hb0 _) _⟩
  · obtain rfl : R = false := by rw [HR.out]; exact decide_eq_false (by omega)
    have g0 : decide (1900 ≤ (y : Int)) = true := decide_eq_true (by omega)
    have g1 : decide ((y : Int) ≤ 9999) = true := decide_eq_true (by omega)
    have g2 : decide (1 ≤ (d.toNat : Int)) = true := decide_eq_true (by omega)
    have g3 : decide ((d.toNat : Int) ≤ (N : Int)) = true := decide_eq_true (by omega)
    have g4 : decide ((h'.toNat : Int) < 24) = true := decide_eq_true (by omega)
    have g5 : decide ((mi.toNat : Int) < 60) = false := decide_eq_false (by omega)
    have g9 : decide (d.toNat ≤ N) = true := decide_eq_true (by omega)
    clear hc HR
    go_enter Tryd.func50, Tryd.ntmps50
    go_wp2
    have v1 := V1.out
    have v2 := V2.out
    have v3 := V3.out
    go_quiet ((go_at_call 60; exact Calls.quiet_of_same (DR.out _)))
    go_wp2
    go_ret
    exact ⟨rfl, below_dn (hb0 _) _⟩
  · obtain rfl : R = false := by rw [HR.out]; exact decide_eq_false (by omega)
    have g0 : decide (1900 ≤ (y : Int)) = true := decide_eq_true (by omega)
    have g1 : decide ((y : Int) ≤ 9999) = true := decide_eq_true (by omega)
    have g2 : decide (1 ≤ (d.toNat : Int)) = true := decide_eq_true (by omega)
    have g3 : decide ((d.toNat : Int) ≤ (N : Int)) = true := decide_eq_true (by omega)
    have g4 : decide ((h'.toNat : Int) < 24) = true := decide_eq_true (by omega)
    have g5 : decide ((mi.toNat : Int) < 60) = true := decide_eq_true (by omega)
    have g6 : decide ((s'.toNat : Int) < 60) = false := decide_eq_false (by omega)
    have g9 : decide (d.toNat ≤ N) = true := decide_eq_true (by omega)
    clear hc HR
    go_enter Tryd.func50, Tryd.ntmps50
    go_wp2
    have v1 := V1.out
    have v2 := V2.out
    have v3 := V3.out
    go_quiet ((go_at_call 60; exact Calls.quiet_of_same (DR.out _)))
    go_wp2
    go_ret
    exact ⟨rfl, below_dn (hb0 _) _⟩
  · obtain rfl : R = true := by rw [HR.out]; exact decide_eq_true (by omega)
    have g0 : decide (1900 ≤ (y : Int)) = true := decide_eq_true (by omega)
    have g1 : decide ((y : Int) ≤ 9999) = true := decide_eq_true (by omega)
    have g2 : decide (1 ≤ (d.toNat : Int)) = true := decide_eq_true (by omega)
    have g3 : decide ((d.toNat : Int) ≤ (N : Int)) = true := decide_eq_true (by omega)
    have g4 : decide ((h'.toNat : Int) < 24) = true := decide_eq_true (by omega)
    have g5 : decide ((mi.toNat : Int) < 60) = true := decide_eq_true (by omega)
    have g6 : decide ((s'.toNat : Int) < 60) = true := decide_eq_true (by omega)
    have g9 : decide (d.toNat ≤ N) = true := decide_eq_true (by omega)
    clear hc HR
    go_enter Tryd.func50, Tryd.ntmps50
    go_wp2
    have v1 := V1.out
    have v2 := V2.out
    have v3 := V3.out
    go_quiet ((go_at_call 60; exact Calls.quiet_of_same (DR.out _)))
    go_wp2
    go_ret
    exact ⟨rfl, below_dn (hb0 _) _⟩
end Go.Proofs.YtfampefflkkckaaDoor
