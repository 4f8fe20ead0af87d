/-
  stamp: blocks of six cells; what is told is right.
-/
import Derived.Test.YtomolfdcdmncoaaCb7
import Derived.IntWalk
import Derived.Test.YtomolfdcdmncoaaStJ
import Derived.Test.YtomolfdcdmncoaaCb1
import Derived.LoopTactic
import Derived.Test.YtomolfdcdmncoaaCb6
import Derived.Test.YtomolfdcdmncoaaCb3
import Derived.Test.YtomolfdcdmncoaaCb8
import Derived.Test.YtomolfdcdmncoaaCb2
import Derived.Deep.RegionHeld3
namespace Go.Proofs.Ytomolfdcdmncoaa
open Go.RowKit Go
set_option linter.unusedVariables false
set_option maxRecDepth 100000
section
variable {w : World} {g : Nat} {a0 a1 a2 a3 a4 a5 : Value}
theorem cells6 (hk : w.heap[g]? = some (.cells #[a0, a1, a2, a3, a4, a5] 25)) :
    w.cell? ⟨g, 0, none⟩ = some a0 ∧ w.cell? ⟨g, 1, none⟩ = some a1 ∧ w.cell? ⟨g, 2, none⟩ = some a2 ∧ w.cell? ⟨g, 3, none⟩ = some a3 ∧ w.cell? ⟨g, 4, none⟩ = some a4 ∧ w.cell? ⟨g, 5, none⟩ = some a5 :=
  ⟨Lib.cell_of_heap hk 0, Lib.cell_of_heap hk 1, Lib.cell_of_heap hk 2, Lib.cell_of_heap hk 3, Lib.cell_of_heap hk 4, Lib.cell_of_heap hk 5⟩
theorem free6 (hk : w.heap[g]? = some (.cells #[a0, a1, a2, a3, a4, a5] 25)) :
    w.frozen? ⟨g, 0, none⟩ = false ∧ w.frozen? ⟨g, 1, none⟩ = false ∧ w.frozen? ⟨g, 2, none⟩ = false ∧ w.frozen? ⟨g, 3, none⟩ = false ∧ w.frozen? ⟨g, 4, none⟩ = false ∧ w.frozen? ⟨g, 5, none⟩ = false :=
  ⟨Lib.frozen_of_heap hk 0, Lib.frozen_of_heap hk 1, Lib.frozen_of_heap hk 2, Lib.frozen_of_heap hk 3, Lib.frozen_of_heap hk 4, Lib.frozen_of_heap hk 5⟩
variable {v0 v1 v2 v3 v4 v5 : Value}
theorem set6 (hk : w.heap[g]? = some (.cells #[a0, a1, a2, a3, a4, a5] 25)) :
    ((((((w.setCell ⟨g, 0, none⟩ v0).setCell ⟨g, 1, none⟩ v1).setCell ⟨g, 2, none⟩ v2).setCell ⟨g, 3, none⟩ v3).setCell ⟨g, 4, none⟩ v4).setCell ⟨g, 5, none⟩ v5).heap[g]? = some (.cells #[v0, v1, v2, v3, v4, v5] 25) :=
  heap_set_here _ _ _ _ _ _ _ (heap_set_here _ _ _ _ _ _ _ (heap_set_here _ _ _ _ _ _ _ (heap_set_here _ _ _ _ _ _ _ (heap_set_here _ _ _ _ _ _ _ (heap_set_here _ _ _ _ _ _ _ hk)))))
theorem below6 {B : Nat} {u : World} (h : Below B u w) (hg : B ≤ g) :
    Below B u ((((((w.setCell ⟨g, 0, none⟩ v0).setCell ⟨g, 1, none⟩ v1).setCell ⟨g, 2, none⟩ v2).setCell ⟨g, 3, none⟩ v3).setCell ⟨g, 4, none⟩ v4).setCell ⟨g, 5, none⟩ v5) :=
  (((((h.setCell hg _).setCell hg _).setCell hg _).setCell hg _).setCell hg _).setCell hg _
end
theorem calls_named {P : Program} {f : FuncId} {args : Array Value} {w : World} {Q : Ending → World → Prop} (h : ∀ W, w = W → Calls P f args W Q) : Calls P f args w Q := h w rfl
theorem heap_lt {w : World} {g : Nat} {o : Obj} (h : w.heap[g]? = some o) : g < w.heap.size := (Array.getElem?_eq_some_iff.1 h).1
theorem rightO_some {t u : Tm} (h : rightO t = some u) : rightB u = true ∧ t = u := by
  unfold rightO at h
  split at h
  · rename_i hr
    injection h with h
    subst h
    exact ⟨hr, rfl⟩
  · cases h
theorem utcO_some {bs : List UInt8} {u : Tm} (h : utcO bs = some u) : rightB u = true ∧ 1950 ≤ u.y ∧ u.y < 2050 := by
  unfold utcO at h
  split at h
  · unfold numsO at h
    split at h
    · rename_i hn
      obtain ⟨h1, h2⟩ := rightO_some h
      refine ⟨h1, ?_⟩
      have hy : u.y = (yearU (pairAt bs 0)).toNat := by rw [← h2]; rfl
      have hp := pairI_le (bs.getD 0 0) (bs.getD (0 + 1) 0)
      have hp : -1 ≤ pairAt bs 0 ∧ pairAt bs 0 ≤ 99 := hp
      have h0 := hn.1
      rw [hy]
      unfold yearU at h0 ⊢
      split at h0
      · omega
      · rw [if_neg (by omega)]
        split <;> omega
    · cases h
  · cases h
theorem right_year {u : Tm} (h : rightB u = true) : 1900 ≤ u.y ∧ u.y ≤ 9999 := by
  have := of_decide_eq_true h
  exact ⟨this.1, this.2.1⟩
theorem genO_some {bs : List UInt8} {u : Tm} (h : genO bs = some u) : rightB u = true := by
  unfold genO at h
  split at h
  · unfold numsO at h
    split at h
    · exact (rightO_some h).1
    · cases h
  · cases h
theorem right_zero : rightB Tm.zero = false := by decide
end Go.Proofs.Ytomolfdcdmncoaa
namespace Go.Proofs.Ytomolfdcdmncoaa
open Go.RowKit Go
set_option linter.unusedVariables false
set_option maxRecDepth 100000
/-- How many days a month has, by definition. -/
def daysR (y m : Nat) : Nat := if m = 1 ∨ m = 3 ∨ m = 5 ∨ m = 7 ∨ m = 8 ∨ m = 10 ∨ m = 12 then 31 else if m = 4 ∨ m = 6 ∨ m = 9 ∨ m = 11 then 30 else if m = 2 then (if y % 4 = 0 ∧ (y % 100 ≠ 0 ∨ y % 400 = 0) then 29 else 28) else 0
theorem refDays_any (y m : Nat) (w : World) (hy : y < 65536) (hm : m < 256) : Calls Try.prog 40 #[.int .i64 (y : Int), .int .i64 (m : Int)] w fun e w' => e = .returned (.int .i64 (daysR y m : Nat)) ∧ w' = w := by
  by_cases h1 : m = 1
  · subst h1
    rw [show daysR y 1 = 31 from rfl]
    go_enter Try.func40, Try.ntmps40
    go_wp2
    go_ret
    exact ⟨rfl, rfl⟩
  by_cases h3 : m = 3
  · subst h3
    rw [show daysR y 3 = 31 from rfl]
    go_enter Try.func40, Try.ntmps40
    go_wp2
    go_ret
    exact ⟨rfl, rfl⟩
  by_cases h5 : m = 5
  · subst h5
    rw [show daysR y 5 = 31 from rfl]
    go_enter Try.func40, Try.ntmps40
    go_wp2
    go_ret
    exact ⟨rfl, rfl⟩
  by_cases h7 : m = 7
  · subst h7
    rw [show daysR y 7 = 31 from rfl]
    go_enter Try.func40, Try.ntmps40
    go_wp2
    go_ret
    exact ⟨rfl, rfl⟩
  by_cases h8 : m = 8
  · subst h8
    rw [show daysR y 8 = 31 from rfl]
    go_enter Try.func40, Try.ntmps40
    go_wp2
    go_ret
    exact ⟨rfl, rfl⟩
  by_cases h10 : m = 10
  · subst h10
    rw [show daysR y 10 = 31 from rfl]
    go_enter Try.func40, Try.ntmps40
    go_wp2
    go_ret
    exact ⟨rfl, rfl⟩
  by_cases h12 : m = 12
  · subst h12
    rw [show daysR y 12 = 31 from rfl]
    go_enter Try.func40, Try.ntmps40
    go_wp2
    go_ret
    exact ⟨rfl, rfl⟩
  by_cases h4 : m = 4
  · subst h4
    rw [show daysR y 4 = 30 from rfl]
    go_enter Try.func40, Try.ntmps40
    go_wp2
    go_ret
    exact ⟨rfl, rfl⟩
  by_cases h6 : m = 6
  · subst h6
    rw [show daysR y 6 = 30 from rfl]
    go_enter Try.func40, Try.ntmps40
    go_wp2
    go_ret
    exact ⟨rfl, rfl⟩
  by_cases h9 : m = 9
  · subst h9
    rw [show daysR y 9 = 30 from rfl]
    go_enter Try.func40, Try.ntmps40
    go_wp2
    go_ret
    exact ⟨rfl, rfl⟩
  by_cases h11 : m = 11
  · subst h11
    rw [show daysR y 11 = 30 from rfl]
    go_enter Try.func40, Try.ntmps40
    go_wp2
    go_ret
    exact ⟨rfl, rfl⟩
  by_cases h2 : m = 2
  · subst h2
    have e : daysR y 2 = if y % 4 = 0 ∧ (y % 100 ≠ 0 ∨ y % 400 = 0) then 29 else 28 := rfl
    rw [e]
    have QE : Hid (∀ a : Int, a = 0 → ((a == 0) = true ∧ (a != 0) = false)) := fun a h => by subst h; exact ⟨rfl, rfl⟩
    have QN : Hid (∀ a : Int, a ≠ 0 → ((a == 0) = false ∧ (a != 0) = true)) := fun a h => ⟨beq_eq_false_iff_ne.2 h, by rw [bne_iff_ne]; exact h⟩
    have hc : (y % 4 ≠ 0) ∨ (y % 4 = 0 ∧ y % 100 ≠ 0) ∨ (y % 4 = 0 ∧ y % 100 = 0 ∧ y % 400 = 0) ∨ (y % 4 = 0 ∧ y % 100 = 0 ∧ y % 400 ≠ 0) := by omega
    rcases hc with h | h | h | h
    · rw [if_neg (by omega)]
      obtain ⟨e4, n4⟩ := QN.out ((y : Int) % 4) (by omega)
      clear e h QE QN
      go_enter Try.func40, Try.ntmps40
      go_wp2
      go_ret
      exact ⟨rfl, rfl⟩
    · rw [if_pos (by omega)]
      obtain ⟨e4, n4⟩ := QE.out ((y : Int) % 4) (by omega)
      obtain ⟨e100, n100⟩ := QN.out ((y : Int) % 100) (by omega)
      clear e h QE QN
      go_enter Try.func40, Try.ntmps40
      go_wp2
      go_ret
      exact ⟨rfl, rfl⟩
    · rw [if_pos (by omega)]
      obtain ⟨e4, n4⟩ := QE.out ((y : Int) % 4) (by omega)
      obtain ⟨e100, n100⟩ := QE.out ((y : Int) % 100) (by omega)
      obtain ⟨e400, n400⟩ := QE.out ((y : Int) % 400) (by omega)
      clear e h QE QN
      go_enter Try.func40, Try.ntmps40
      go_wp2
      go_ret
      exact ⟨rfl, rfl⟩
    · rw [if_neg (by omega)]
      obtain ⟨e4, n4⟩ := QE.out ((y : Int) % 4) (by omega)
      obtain ⟨e100, n100⟩ := QE.out ((y : Int) % 100) (by omega)
      obtain ⟨e400, n400⟩ := QN.out ((y : Int) % 400) (by omega)
      clear e h QE QN
      go_enter Try.func40, Try.ntmps40
      go_wp2
      go_ret
      exact ⟨rfl, rfl⟩
  · have e : daysR y m = 0 := by
      unfold daysR
      rw [if_neg (by omega), if_neg (by omega), if_neg h2]
    rw [e]
    have b1 : ((m : Int) == 1) = false := beq_eq_false_iff_ne.2 (by omega)
    have b3 : ((m : Int) == 3) = false := beq_eq_false_iff_ne.2 (by omega)
    have b5 : ((m : Int) == 5) = false := beq_eq_false_iff_ne.2 (by omega)
    have b7 : ((m : Int) == 7) = false := beq_eq_false_iff_ne.2 (by omega)
    have b8 : ((m : Int) == 8) = false := beq_eq_false_iff_ne.2 (by omega)
    have b10 : ((m : Int) == 10) = false := beq_eq_false_iff_ne.2 (by omega)
    have b12 : ((m : Int) == 12) = false := beq_eq_false_iff_ne.2 (by omega)
    have b4 : ((m : Int) == 4) = false := beq_eq_false_iff_ne.2 (by omega)
    have b6 : ((m : Int) == 6) = false := beq_eq_false_iff_ne.2 (by omega)
    have b9 : ((m : Int) == 9) = false := beq_eq_false_iff_ne.2 (by omega)
    have b11 : ((m : Int) == 11) = false := beq_eq_false_iff_ne.2 (by omega)
    have b2 : ((m : Int) == 2) = false := beq_eq_false_iff_ne.2 (by omega)
    clear e h1 h3 h5 h7 h8 h10 h12 h4 h6 h9 h11 h2
    go_enter Try.func40, Try.ntmps40
    go_wp2
    go_ret
    exact ⟨rfl, rfl⟩
theorem daysR_le (y m : Nat) : daysR y m ≤ 31 := by
  unfold daysR
  repeat' split
  all_goals omega
theorem rightR (t : Tm) : rightB t = decide (1900 ≤ t.y ∧ t.y ≤ 9999 ∧ 1 ≤ t.d.toNat ∧ t.d.toNat ≤ daysR t.y t.mo.toNat ∧ t.h.toNat ≤ 23 ∧ t.mi.toNat ≤ 59 ∧ t.s.toNat ≤ 59) := by
  unfold rightB
  rw [decide_eq_decide]
  unfold daysN daysR
  constructor
  · rintro ⟨h1, h2, h3, h4, h5, h6, h7, h8, h9⟩
    refine ⟨h1, h2, h5, ?_, h7, h8, h9⟩
    generalize t.mo.toNat = m at *
    clear h1 h2 h7 h8 h9
    have hm : m = 1 ∨ m = 2 ∨ m = 3 ∨ m = 4 ∨ m = 5 ∨ m = 6 ∨ m = 7 ∨ m = 8 ∨ m = 9 ∨ m = 10 ∨ m = 11 ∨ m = 12 := by omega
    rcases hm with rfl | rfl | rfl | rfl | rfl | rfl | rfl | rfl | rfl | rfl | rfl | rfl <;> simpa using h6
  · rintro ⟨h1, h2, h5, h6, h7, h8, h9⟩
    generalize t.mo.toNat = m at *
    by_cases hm : m = 1 ∨ m = 2 ∨ m = 3 ∨ m = 4 ∨ m = 5 ∨ m = 6 ∨ m = 7 ∨ m = 8 ∨ m = 9 ∨ m = 10 ∨ m = 11 ∨ m = 12
    · refine ⟨h1, h2, by omega, by omega, h5, ?_, h7, h8, h9⟩
      clear h1 h2 h7 h8 h9
      rcases hm with rfl | rfl | rfl | rfl | rfl | rfl | rfl | rfl | rfl | rfl | rfl | rfl <;> simpa using h6
    · rw [if_neg (by omega), if_neg (by omega), if_neg (by omega)] at h6
      omega
set_option maxHeartbeats 800000 in
theorem refRight_any (t : Tm) (w : World) (hy : t.y < 65536) : Calls Try.prog 22 #[tmV t] w fun e w' => e = .returned (.bool (rightB t)) ∧ Below w.heap.size w w' := by
  have DR := Lib.hid (fun W => refDays_any t.y t.mo.toNat W hy t.mo.toNat_lt)
  have hb0 : ∀ cs, Below w.heap.size w (w.alloc (.cells cs 25)) := fun cs => (Below.refl _ _).alloc (Nat.le_refl _) _
  have hR := rightR t
  have b1 := t.mo.toNat_lt
  have b2 := t.d.toNat_lt
  have b3 := t.h.toNat_lt
  have b4 := t.mi.toNat_lt
  have b5 := t.s.toNat_lt
  have hD := daysR_le t.y t.mo.toNat
  generalize rightB t = R at hR
  generalize daysR t.y t.mo.toNat = N at DR hR hD
  unfold tmV Tm.cells
  obtain ⟨y, mo, d, h', mi, s'⟩ := t
  simp only at *
  have v1 : IntKind.i64.wrap (y : Int) = (y : Int) := IntWalk.i64_in _ (by omega)
  have v2 : IntKind.i64.wrap (mo.toNat : Int) = (mo.toNat : Int) := IntWalk.i64_in _ (by omega)
  have v3 : IntKind.i64.wrap (d.toNat : Int) = (d.toNat : Int) := IntWalk.i64_in _ (by omega)
  have V1 := Lib.hid v1
  have V2 := Lib.hid v2
  have V3 := Lib.hid v3
  clear v1 v2 v3
  have HR := Lib.hid hR
  clear hR
  have hc : y < 1900 ∨ (1900 ≤ y ∧ 9999 < y) ∨ (1900 ≤ y ∧ y ≤ 9999 ∧ d.toNat < 1) ∨ (1900 ≤ y ∧ y ≤ 9999 ∧ 1 ≤ d.toNat ∧ N < d.toNat) ∨ (1900 ≤ y ∧ y ≤ 9999 ∧ 1 ≤ d.toNat ∧ d.toNat ≤ N ∧ 24 ≤ h'.toNat) ∨ (1900 ≤ y ∧ y ≤ 9999 ∧ 1 ≤ d.toNat ∧ d.toNat ≤ N ∧ h'.toNat < 24 ∧ 60 ≤ mi.toNat) ∨ (1900 ≤ y ∧ y ≤ 9999 ∧ 1 ≤ d.toNat ∧ d.toNat ≤ N ∧ h'.toNat < 24 ∧ mi.toNat < 60 ∧ 60 ≤ s'.toNat) ∨ (1900 ≤ y ∧ y ≤ 9999 ∧ 1 ≤ d.toNat ∧ d.toNat ≤ N ∧ h'.toNat < 24 ∧ mi.toNat < 60 ∧ s'.toNat < 60) := by omega
  rcases hc with hc | hc | hc | hc | hc | hc | hc | hc
  · obtain rfl : R = false := by rw [HR.out]; exact decide_eq_false (by omega)
    have g0 : decide (1900 ≤ (y : Int)) = false := decide_eq_false (by omega)
    clear hc HR
    go_enter Try.func22, Try.ntmps22
    go_wp2
    have v1 := V1.out
    have v2 := V2.out
    have v3 := V3.out
    go_quiet ((go_at_call 40; exact Calls.quiet_of_same (DR.out _)))
    go_wp2
    go_ret
    exact ⟨rfl, below_dn (hb0 _) _⟩
  · obtain rfl : R = false := by rw [HR.out]; exact decide_eq_false (by omega)
    have g0 : decide (1900 ≤ (y : Int)) = true := decide_eq_true (by omega)
    have g1 : decide ((y : Int) ≤ 9999) = false := decide_eq_false (by omega)
    clear hc HR
    go_enter Try.func22, Try.ntmps22
    go_wp2
    have v1 := V1.out
    have v2 := V2.out
    have v3 := V3.out
    go_quiet ((go_at_call 40; exact Calls.quiet_of_same (DR.out _)))
    go_wp2
    go_ret
    exact ⟨rfl, below_dn (hb0 _) _⟩
  · obtain rfl : R = false := by rw [HR.out]; exact decide_eq_false (by omega)
    have g0 : decide (1900 ≤ (y : Int)) = true := decide_eq_true (by omega)
    have g1 : decide ((y : Int) ≤ 9999) = true := decide_eq_true (by omega)
    have g2 : decide (1 ≤ (d.toNat : Int)) = false := decide_eq_false (by omega)
    clear hc HR
    go_enter Try.func22, Try.ntmps22
    go_wp2
    have v1 := V1.out
    have v2 := V2.out
    have v3 := V3.out
    go_quiet ((go_at_call 40; exact Calls.quiet_of_same (DR.out _)))
    go_wp2
    go_ret
    exact ⟨rfl, below_dn (hb0 _) _⟩
  · obtain rfl : R = false := by rw [HR.out]; exact decide_eq_false (by omega)
    have g0 : decide (1900 ≤ (y : Int)) = true := decide_eq_true (by omega)
    have g1 : decide ((y : Int) ≤ 9999) = true := decide_eq_true (by omega)
    have g2 : decide (1 ≤ (d.toNat : Int)) = true := decide_eq_true (by omega)
    have g3 : decide ((d.toNat : Int) ≤ (N : Int)) = false := decide_eq_false (by omega)
    have g9 : decide (d.toNat ≤ N) = false := decide_eq_false (by omega)
    clear hc HR
    go_enter Try.func22, Try.ntmps22
    go_wp2
    have v1 := V1.out
    have v2 := V2.out
    have v3 := V3.out
    go_quiet ((go_at_call 40; exact Calls.quiet_of_same (DR.out _)))
    go_wp2
    go_ret
    exact ⟨rfl, below_dn (hb0 _) _⟩
  · obtain rfl : R = false := by rw [HR.out]; exact decide_eq_false (by omega)
    have g0 : decide (1900 ≤ (y : Int)) = true := decide_eq_true (by omega)
    have g1 : decide ((y : Int) ≤ 9999) = true := decide_eq_true (by omega)
    have g2 : decide (1 ≤ (d.toNat : Int)) = true := decide_eq_true (by omega)
    have g3 : decide ((d.toNat : Int) ≤ (N : Int)) = true := decide_eq_true (by omega)
    have g4 : decide ((h'.toNat : Int) < 24) = false := decide_eq_false (by omega)
    have g9 : decide (d.toNat ≤ N) = true := decide_eq_true (by omega)
    clear hc HR
    go_enter Try.func22, Try.ntmps22
    go_wp2
    have v1 := V1.out
    have v2 := V2.out
    have v3 := V3.out
    go_quiet ((go_at_call 40; exact Calls.quiet_of_same (DR.out _)))
    go_wp2
    go_ret
    exact ⟨rfl, below_dn (hb0 _) _⟩
  · obtain rfl : R = false := by rw [HR.out]; exact decide_eq_false (by omega)
    have g0 : decide (1900 ≤ (y : Int)) = true := decide_eq_true (by omega)
    have g1 : decide ((y : Int) ≤ 9999) = true := decide_eq_true (by omega)
    have g2 : decide (1 ≤ (d.toNat : Int)) = true := decide_eq_true (by omega)
    have g3 : decide ((d.toNat : Int) ≤ (N : Int)) = true := decide_eq_true (by omega)
    have g4 : decide ((h'.toNat : Int) < 24) = true := decide_eq_true (by omega)
    have g5 : decide ((mi.toNat : Int) < 60) = false := decide_eq_false (by omega)
    have g9 : decide (d.toNat ≤ N) = true := decide_eq_true (by omega)
    clear hc HR
    go_enter Try.func22, Try.ntmps22
    go_wp2
    have v1 := V1.out
    have v2 := V2.out
    have v3 := V3.out
    go_quiet ((go_at_call 40; exact Calls.quiet_of_same (DR.out _)))
    go_wp2
    go_ret
    exact ⟨rfl, below_dn (hb0 _) _⟩
  · obtain rfl : R = false := by rw [HR.out]; exact decide_eq_false (by omega)
    have g0 : decide (1900 ≤ (y : Int)) = true := decide_eq_true (by omega)
    have g1 : decide ((y : Int) ≤ 9999) = true := decide_eq_true (by omega)
    have g2 : decide (1 ≤ (d.toNat : Int)) = true := decide_eq_true (by omega)
    have g3 : decide ((d.toNat : Int) ≤ (N : Int)) = true := decide_eq_true (by omega)
    have g4 : decide ((h'.toNat : Int) < 24) = true := decide_eq_true (by omega)
    have g5 : decide ((mi.toNat : Int) < 60) = true := decide_eq_true (by omega)
    have g6 : decide ((s'.toNat : Int) < 60) = false := decide_eq_false (by omega)
    have g9 : decide (d.toNat ≤ N) = true := decide_eq_true (by omega)
    clear hc HR
    go_enter Try.func22, Try.ntmps22
    go_wp2
    have v1 := V1.out
    have v2 := V2.out
    have v3 := V3.out
    go_quiet ((go_at_call 40; exact Calls.quiet_of_same (DR.out _)))
    go_wp2
    go_ret
    exact ⟨rfl, below_dn (hb0 _) _⟩
  · obtain rfl : R = true := by rw [HR.out]; exact decide_eq_true (by omega)
    have g0 : decide (1900 ≤ (y : Int)) = true := decide_eq_true (by omega)
    have g1 : decide ((y : Int) ≤ 9999) = true := decide_eq_true (by omega)
    have g2 : decide (1 ≤ (d.toNat : Int)) = true := decide_eq_true (by omega)
    have g3 : decide ((d.toNat : Int) ≤ (N : Int)) = true := decide_eq_true (by omega)
    have g4 : decide ((h'.toNat : Int) < 24) = true := decide_eq_true (by omega)
    have g5 : decide ((mi.toNat : Int) < 60) = true := decide_eq_true (by omega)
    have g6 : decide ((s'.toNat : Int) < 60) = true := decide_eq_true (by omega)
    have g9 : decide (d.toNat ≤ N) = true := decide_eq_true (by omega)
    clear hc HR
    go_enter Try.func22, Try.ntmps22
    go_wp2
    have v1 := V1.out
    have v2 := V2.out
    have v3 := V3.out
    go_quiet ((go_at_call 40; exact Calls.quiet_of_same (DR.out _)))
    go_wp2
    go_ret
    exact ⟨rfl, below_dn (hb0 _) _⟩
end Go.Proofs.Ytomolfdcdmncoaa
namespace Go.Proofs.Ytomolfdcdmncoaa
open Go.RowKit Go
set_option linter.unusedVariables false
set_option maxRecDepth 100000
theorem alloc4_2 (w : World) (a b c d : Obj) : ((((w.alloc a).alloc b).alloc c).alloc d).heap[w.heap.size + 1 + 1]? = some c := by
  rw [heap_alloc_old _ _ (by simp)]
  have := heap_alloc_new ((w.alloc a).alloc b) c
  simpa using this
theorem alloc4_3 (w : World) (a b c d : Obj) : ((((w.alloc a).alloc b).alloc c).alloc d).heap[w.heap.size + 1 + 1 + 1]? = some d := by
  have := heap_alloc_new (((w.alloc a).alloc b).alloc c) d
  simpa using this
theorem below4 (w : World) (a b c d : Obj) : Below w.heap.size w ((((w.alloc a).alloc b).alloc c).alloc d) :=
  ((((Below.refl _ _).alloc (Nat.le_refl _) _).alloc (by simp) _).alloc (by simp; omega) _).alloc (by simp; omega) _
set_option maxHeartbeats 1600000 in
theorem refLess_any (t u : Tm) (w : World) (hy : t.y < 65536) (hu : u.y < 65536) : Calls Try.prog 21 #[tmV t, tmV u] w fun e w' => e = .returned (.bool (lessB t u)) ∧ Below w.heap.size w w' := by
  obtain ⟨B, hB⟩ : ∃ B, lessB t u = B := ⟨_, rfl⟩
  rw [hB]
  have HB := Lib.hid hB
  clear hB
  have z0 := t.mo.toNat_lt
  have z1 := t.d.toNat_lt
  have z2 := t.h.toNat_lt
  have z3 := t.mi.toNat_lt
  have z4 := t.s.toNat_lt
  have z5 := u.mo.toNat_lt
  have z6 := u.d.toNat_lt
  have z7 := u.h.toNat_lt
  have z8 := u.mi.toNat_lt
  have z9 := u.s.toNat_lt
  obtain ⟨yt_, mot_, dt_, ht_, mit_, st_⟩ := t
  obtain ⟨yu_, mou_, du_, hu_, miu_, su_⟩ := u
  unfold tmV Tm.cells
  simp only at *
  go_enter Try.func21, Try.ntmps21
  go_wp2
  refine wp_named fun W1 hW1 => ?_
  have hbw : Below w.heap.size w W1 := below_named hW1 (below4 w _ _ _ _)
  have k5 := heap_named hW1 (alloc4_2 w _ _ _ _)
  have k6 := heap_named hW1 (alloc4_3 w _ _ _ _)
  have tw5 : Two5 W1 (w.heap.size + 1 + 1) (w.heap.size + 1 + 1 + 1) ⟨yt_, mot_, dt_, ht_, mit_, st_⟩ ⟨yu_, mou_, du_, hu_, miu_, su_⟩ :=
    ⟨six (Lib.cell_of_heap k5 0) (Lib.cell_of_heap k5 1) (Lib.cell_of_heap k5 2) (Lib.cell_of_heap k5 3) (Lib.cell_of_heap k5 4) (Lib.cell_of_heap k5 5),
     six (Lib.cell_of_heap k6 0) (Lib.cell_of_heap k6 1) (Lib.cell_of_heap k6 2) (Lib.cell_of_heap k6 3) (Lib.cell_of_heap k6 4) (Lib.cell_of_heap k6 5)⟩
  clear k5 k6 hW1
  generalize (⟨yt_, mot_, dt_, ht_, mit_, st_⟩ : Tm) = T at tw5 HB
  generalize (⟨yu_, mou_, du_, hu_, miu_, su_⟩ : Tm) = U at tw5 HB
  have hL : Hid (B = lessFrom T U 6 0) := HB.out.symm
  clear HB
  go_loopw [7] (fun i wr => ∃ k : Nat, k ≤ 6 ∧ B = lessFrom T U (6 - k) k ∧ i = .int .i64 k ∧ Below w.heap.size w wr ∧ Two5 wr (w.heap.size + 1 + 1) (w.heap.size + 1 + 1 + 1) T U) (fun i _ => 6 - (intOf i).toNat)
  case atStart => exact ⟨0, by omega, hL.out, rfl, hbw, tw5⟩
  case round =>
    obtain ⟨k, hk, hl, rfl, hbr, t5⟩ := hrel
    have K5 := Lib.hid t5.h5
    have K6 := Lib.hid t5.h6
    have T5 := Lib.hid t5
    have HL := Lib.hid hl
    clear t5 hl
    by_cases hlt : k < 6
    · have c5 := K5.out k hlt
      have c6 := K6.out k hlt
      have q1 : (0 : Int) ≤ (k : Int) := by omega
      have q2 : (k : Int) < 6 := by omega
      have hst : Hid (lessFrom T U (6 - k) k = if T.num k = U.num k then lessFrom T U (6 - (k + 1)) (k + 1) else decide (T.num k < U.num k)) := by
        obtain ⟨m, hm⟩ : ∃ m, 6 - k = m + 1 := ⟨5 - k, by omega⟩
        have hm2 : 6 - (k + 1) = m := by omega
        rw [Hid, hm, hm2]
        rfl
      generalize T.num k = x at c5 hst
      generalize U.num k = z at c6 hst
      by_cases hxz : x = z
      · subst hxz
        have hl2 : Hid (B = lessFrom T U (6 - (k + 1)) (k + 1)) := by rw [Hid, HL.out, hst.out, if_pos rfl]
        clear HL hst
        go_wp2
        go_quiet (fail)
        go_wp2
        go_roundw
        case rel => exact ⟨k + 1, by omega, hl2.out, by go_num, below_dn hbr _, T5.out.dn _⟩
        case measure => simp [intOf]; omega
      · have hl2 : Hid (B = decide (x < z)) := by rw [Hid, HL.out, hst.out, if_neg hxz]
        have hd : ((x : Int) == (z : Int)) = false := beq_eq_false_iff_ne.2 (by omega)
        have hd2 : ((x : Int) != (z : Int)) = true := by rw [bne_iff_ne]; omega
        clear HL hst hxz
        go_wp2
        go_quiet (fail)
        go_wp2
        go_quiet (fail)
        go_wp2
        go_ret
        exact ⟨by rw [hl2.out]; simp, below_dn (below_dn hbr _) _⟩
    · obtain rfl : k = 6 := by omega
      have hl2 : Hid (B = false) := by rw [Hid, HL.out]; rfl
      clear HL
      go_wp2
      go_ret
      exact ⟨by rw [hl2.out]; rfl, hbr⟩
end Go.Proofs.Ytomolfdcdmncoaa
namespace Go.Proofs.Ytomolfdcdmncoaa
open Go.RowKit Go
set_option linter.unusedVariables false
set_option maxRecDepth 100000
def dig (x : Nat) : UInt8 := UInt8.ofNat (48 + x % 10)
def dig2 (x : Nat) : List UInt8 := [dig (x / 10), dig x]
theorem dig_num (x : Nat) : (dig x).toNat = 48 + x % 10 := by unfold dig; rw [UInt8.toNat_ofNat']; omega
theorem own_new (w : World) (bs : List UInt8) (n : Nat) (cs : Array Value) (h : cs.toList = bs.map bv) (hn : bs.length = n) (hm : n ≤ 1000000) :
    OwnB (w.alloc (.cells cs 5)) w.heap.size (some ⟨w.heap.size, 0, none⟩) n n bs := by
  have hl : cs.size = n := by rw [← Array.length_toList, h, List.length_map, hn]
  refine ⟨by simp [hn], .inr ⟨w.heap.size, n, cs, rfl, Nat.le_refl _, heap_alloc_new w _, Nat.le_refl _, by unfold maxLen; omega, by omega, ?_⟩⟩
  rw [h, List.take_of_length_le (by simp; omega)]
/-- A moment's seven numbers of two digits. -/
def Tm.duo (t : Tm) (k : Nat) : Nat := match k with
  | 0 => t.y / 100
  | 1 => t.y % 100
  | 2 => t.mo.toNat
  | 3 => t.d.toNat
  | 4 => t.h.toNat
  | 5 => t.mi.toNat
  | _ => t.s.toNat
def digs (f : Nat → Nat) : Nat → List UInt8
  | 0 => []
  | k + 1 => digs f k ++ dig2 (f k)
theorem digs_len (f : Nat → Nat) : ∀ k, (digs f k).length = 2 * k
  | 0 => rfl
  | k + 1 => by unfold digs; rw [List.length_append, digs_len f k]; show 2 * k + 2 = _; omega
/-- Its digits, with a Z. -/
def textB (t : Tm) : List UInt8 := digs t.duo 7 ++ [90]
theorem seven {P : Nat → Prop} (h0 : P 0) (h1 : P 1) (h2 : P 2) (h3 : P 3) (h4 : P 4) (h5 : P 5) (h6 : P 6) : ∀ k, k < 7 → P k := fun k hk => by
  match k, hk with
  | 0, _ => exact h0
  | 1, _ => exact h1
  | 2, _ => exact h2
  | 3, _ => exact h3
  | 4, _ => exact h4
  | 5, _ => exact h5
  | 6, _ => exact h6
theorem duo_lt {t : Tm} (h : rightB t = true) : ∀ k, k < 7 → t.duo k < 100 := by
  have := of_decide_eq_true h
  have h2 := daysN_le t.y t.mo.toNat
  refine seven ?_ ?_ ?_ ?_ ?_ ?_ ?_ <;> (unfold Tm.duo; simp only; omega)
end Go.Proofs.Ytomolfdcdmncoaa
namespace Go.Proofs.Ytomolfdcdmncoaa
open Go.RowKit Go
set_option linter.unusedVariables false
set_option maxRecDepth 100000
theorem drop_cons1 {bs : List UInt8} {j : Nat} {d : UInt8} (h : bs[j]? = some d) : bs.drop j = d :: bs.drop (j + 1) := by
  obtain ⟨hj, rfl⟩ := List.getElem?_eq_some_iff.1 h
  exact List.drop_eq_getElem_cons hj
theorem trimZ_zeros (k : Nat) (bs : List UInt8) : trimZ (List.replicate k 0 ++ bs) = trimZ bs := by
  induction k with
  | zero => rfl
  | succ k ih =>
    rw [List.replicate_succ, List.cons_append, trimZ_cons, if_pos (by decide)]
    exact ih
theorem putI_zeros (k : Nat) (bs : List UInt8) : putI (List.replicate k 0 ++ bs) = putI bs := by
  unfold putI; rw [trimZ_zeros]
theorem trimZ_head : ∀ (bs : List UInt8) (d : UInt8) (r : List UInt8), trimZ bs = d :: r → d.toNat ≠ 0
  | [], d, r, h => by cases h
  | x :: t, d, r, h => by
    rw [trimZ_cons] at h
    split at h
    · exact trimZ_head t d r h
    · cases h; assumption
theorem trimZ_self {d : UInt8} {r : List UInt8} (h : d.toNat ≠ 0) : trimZ (d :: r) = d :: r := by
  rw [trimZ_cons, if_neg h]
/-- What is put is a number's body again: what it says, and how long it is. -/
theorem putI_case (bs : List UInt8) : ∃ p0 P', putI bs = p0 :: P' ∧ p0.toNat < 128 ∧ intQ (putI bs) = some (trimZ bs) ∧
    ((trimZ bs = [] ∧ P'.length = 0) ∨ ∃ d r, trimZ bs = d :: r ∧ ((128 ≤ d.toNat ∧ P'.length = r.length + 1) ∨ (d.toNat < 128 ∧ P'.length = r.length))) := by
  unfold putI
  cases h : trimZ bs with
  | nil => exact ⟨0, [], rfl, by decide, rfl, .inl ⟨rfl, rfl⟩⟩
  | cons d r =>
    have hd := trimZ_head bs d r h
    simp only
    by_cases h8 : 128 ≤ d.toNat
    · rw [if_pos h8]
      refine ⟨0, d :: r, rfl, by decide, ?_, .inr ⟨d, r, rfl, .inl ⟨h8, rfl⟩⟩⟩
      simp only [intQ]
      rw [if_neg (by rintro (h | ⟨_, h⟩); exact absurd h (by decide); omega), trimZ_cons, if_pos (by decide), trimZ_self hd]
    · rw [if_neg h8]
      refine ⟨d, r, rfl, by omega, ?_, .inr ⟨d, r, rfl, .inr ⟨by omega, rfl⟩⟩⟩
      cases r with
      | nil => simp only [intQ]; rw [if_neg h8, trimZ_self hd]
      | cons x r => simp only [intQ]; rw [if_neg (by omega), trimZ_self hd]
end Go.Proofs.Ytomolfdcdmncoaa
namespace Go.Proofs.Ytomolfdcdmncoaa
open Go.RowKit Go
set_option linter.unusedVariables false
set_option maxRecDepth 100000
theorem pair_dig2 (x : Nat) (hx : x < 100) : pairI (dig (x / 10)) (dig x) = (x : Int) := by
  have h1 := dig_num x
  have h2 := dig_num (x / 10)
  exact (pairI_yes (z := (x : Int)) (by omega) (by omega)).symm
theorem textB_eq (t : Tm) : textB t = [dig (t.y / 100 / 10), dig (t.y / 100), dig (t.y % 100 / 10), dig (t.y % 100), dig (t.mo.toNat / 10), dig t.mo.toNat, dig (t.d.toNat / 10), dig t.d.toNat, dig (t.h.toNat / 10), dig t.h.toNat, dig (t.mi.toNat / 10), dig t.mi.toNat, dig (t.s.toNat / 10), dig t.s.toNat, 90] := rfl
theorem text_len (t : Tm) : (textB t).length = 15 := rfl
theorem text_pairs {t : Tm} (h : rightB t = true) : pairAt (textB t) 0 = (t.y / 100 : Nat) ∧ pairAt (textB t) 2 = (t.y % 100 : Nat) ∧ pairAt (textB t) 4 = (t.mo.toNat : Nat) ∧ pairAt (textB t) 6 = (t.d.toNat : Nat) ∧ pairAt (textB t) 8 = (t.h.toNat : Nat) ∧ pairAt (textB t) 10 = (t.mi.toNat : Nat) ∧ pairAt (textB t) 12 = (t.s.toNat : Nat) := by
  have d := duo_lt h
  refine ⟨?_, ?_, ?_, ?_, ?_, ?_, ?_⟩
  · exact pair_dig2 _ (d 0 (by omega))
  · exact pair_dig2 _ (d 1 (by omega))
  · exact pair_dig2 _ (d 2 (by omega))
  · exact pair_dig2 _ (d 3 (by omega))
  · exact pair_dig2 _ (d 4 (by omega))
  · exact pair_dig2 _ (d 5 (by omega))
  · exact pair_dig2 _ (d 6 (by omega))
theorem drop_pairs (bs : List UInt8) (k : Nat) : pairAt (bs.drop 2) k = pairAt bs (2 + k) := by
  unfold pairAt
  simp only [List.getD_eq_getElem?_getD, List.getElem?_drop, Nat.add_assoc]
theorem ofNat_u8 (a : UInt8) : UInt8.ofNat a.toNat = a := by simp
theorem tmOf_text (t : Tm) (y : Nat) : tmOf (y : Nat) (t.mo.toNat : Nat) (t.d.toNat : Nat) (t.h.toNat : Nat) (t.mi.toNat : Nat) (t.s.toNat : Nat) = ⟨y, t.mo, t.d, t.h, t.mi, t.s⟩ := by
  unfold tmOf
  simp only [Int.toNat_natCast, ofNat_u8]
theorem nums_text (t : Tm) (y : Nat) : numsO (y : Nat) (t.mo.toNat : Nat) (t.d.toNat : Nat) (t.h.toNat : Nat) (t.mi.toNat : Nat) (t.s.toNat : Nat) = rightO ⟨y, t.mo, t.d, t.h, t.mi, t.s⟩ := by
  unfold numsO
  rw [if_pos (by omega), tmOf_text]
theorem gen_text {t : Tm} (h : rightB t = true) : genO (textB t) = some t := by
  obtain ⟨p0, p1, p2, p3, p4, p5, p6⟩ := text_pairs h
  unfold genO
  rw [if_pos ⟨rfl, rfl⟩, p0, p1, p2, p3, p4, p5, p6]
  have e : yearG ((t.y / 100 : Nat) : Int) ((t.y % 100 : Nat) : Int) = ((t.y : Nat) : Int) := by
    unfold yearG
    rw [if_neg (by omega)]
    omega
  rw [e, nums_text]
  unfold rightO
  rw [if_pos h]
/-- The year that two digits tell. -/
def year2 (y : Nat) : Nat := if y % 100 < 50 then y % 100 + 2000 else y % 100 + 1900
theorem utc_text {t : Tm} (h : rightB t = true) : utcO ((textB t).drop 2) = rightO ⟨year2 t.y, t.mo, t.d, t.h, t.mi, t.s⟩ := by
  obtain ⟨p0, p1, p2, p3, p4, p5, p6⟩ := text_pairs h
  unfold utcO
  rw [if_pos ⟨rfl, rfl⟩]
  simp only [drop_pairs]
  rw [p1, p2, p3, p4, p5, p6]
  have e : yearU ((t.y % 100 : Nat) : Int) = ((year2 t.y : Nat) : Int) := by
    unfold yearU year2
    rw [if_neg (by omega)]
    by_cases q : t.y % 100 < 50
    · rw [if_pos (by omega), if_pos q]; omega
    · rw [if_neg (by omega), if_neg q]; omega
  rw [e, nums_text]
theorem year2_eq (y : Nat) : (year2 y = y ↔ (1950 ≤ y ∧ y < 2050)) ∧ year2 y % 100 = y % 100 ∧ 1950 ≤ year2 y ∧ year2 y < 2050 := by
  unfold year2
  split <;> omega
theorem gen_len {bs : List UInt8} (h : bs.length ≠ 15) : genO bs = none := if_neg (fun x => h x.1)
theorem utc_len {bs : List UInt8} (h : bs.length ≠ 13) : utcO bs = none := if_neg (fun x => h x.1)
theorem pairI_bad {p q : UInt8} (h : digit p = false ∨ digit q = false) : pairI p q = -1 := by
  unfold pairI
  rw [if_neg]
  rcases h with h | h <;> simp [h]
theorem pairI_neg {p q : UInt8} (h : digit p = false ∨ digit q = false) : pairI p q < 0 := by rw [pairI_bad h]; omega
theorem numsO_bad {yv z1 z2 z3 z4 z5 : Int} (h : yv < 0 ∨ z1 < 0 ∨ z2 < 0 ∨ z3 < 0 ∨ z4 < 0 ∨ z5 < 0) : numsO yv z1 z2 z3 z4 z5 = none := if_neg (by omega)
theorem yearG_bad {u v : Int} (h : u = -1 ∨ v = -1) : yearG u v < 0 := by unfold yearG; rw [if_pos (by omega)]; omega
/-- A digit turned to what is none. -/
theorem gen_turned (t : Tm) (k : Nat) (x : UInt8) (hk : k < 14) (hx : digit x = false) : genO ((textB t).set k x) = none := by
  unfold genO
  split
  · match k, hk with
    | 0, _ => exact numsO_bad (.inl (yearG_bad (.inl (pairI_bad (.inl hx)))))
    | 1, _ => exact numsO_bad (.inl (yearG_bad (.inl (pairI_bad (.inr hx)))))
    | 2, _ => exact numsO_bad (.inl (yearG_bad (.inr (pairI_bad (.inl hx)))))
    | 3, _ => exact numsO_bad (.inl (yearG_bad (.inr (pairI_bad (.inr hx)))))
    | 4, _ => exact numsO_bad (.inr (.inl (pairI_neg (.inl hx))))
    | 5, _ => exact numsO_bad (.inr (.inl (pairI_neg (.inr hx))))
    | 6, _ => exact numsO_bad (.inr (.inr (.inl (pairI_neg (.inl hx)))))
    | 7, _ => exact numsO_bad (.inr (.inr (.inl (pairI_neg (.inr hx)))))
    | 8, _ => exact numsO_bad (.inr (.inr (.inr (.inl (pairI_neg (.inl hx))))))
    | 9, _ => exact numsO_bad (.inr (.inr (.inr (.inl (pairI_neg (.inr hx))))))
    | 10, _ => exact numsO_bad (.inr (.inr (.inr (.inr (.inl (pairI_neg (.inl hx)))))))
    | 11, _ => exact numsO_bad (.inr (.inr (.inr (.inr (.inl (pairI_neg (.inr hx)))))))
    | 12, _ => exact numsO_bad (.inr (.inr (.inr (.inr (.inr (pairI_neg (.inl hx)))))))
    | 13, _ => exact numsO_bad (.inr (.inr (.inr (.inr (.inr (pairI_neg (.inr hx)))))))
  · rfl
theorem gen_noZ (t : Tm) (x : UInt8) (hx : x ≠ 90) : genO ((textB t).set 14 x) = none := by
  unfold genO
  rw [if_neg]
  rintro ⟨_, h⟩
  have h : some x = some 90 := h
  injection h with h
  exact hx h
end Go.Proofs.Ytomolfdcdmncoaa
namespace Go.Proofs.Ytomolfdcdmncoaa
open Go.RowKit Go
set_option linter.unusedVariables false
set_option maxRecDepth 100000
theorem eflat_get (vs : List EV) (v : EV) (j : Nat) (h : vs[j]? = some v) : (vs.flatMap EV.cells)[j * 3]? = some (.int .u8 (v.tag.toNat : Int)) ∧ (vs.flatMap EV.cells)[j * 3 + 1]? = some (.slice v.ba v.bn v.bc) ∧ (vs.flatMap EV.cells)[j * 3 + 2]? = some (.slice v.ra v.rn v.rc) := by
  induction vs generalizing j with
  | nil => simp at h
  | cons x r ih =>
    cases j with
    | zero =>
      simp at h
      subst h
      exact ⟨rfl, rfl, rfl⟩
    | succ k =>
      simp only [List.getElem?_cons_succ] at h
      have := ih k h
      simp only [List.flatMap_cons, EV.cells, List.cons_append, List.nil_append]
      rw [show (k + 1) * 3 = k * 3 + 1 + 1 + 1 by omega]
      simp only [List.getElem?_cons_succ]
      exact this
theorem Evs.pair {w : World} {base : Nat} {vs : List EV} (h : Evs w base vs) {v : EV} (hv : v ∈ vs) : OwnB w base v.ba v.bn v.bc v.body ∧ OwnB w base v.ra v.rn v.rc v.raw :=
  ⟨h.own (v.ba, v.bn, v.bc, v.body) (List.mem_flatMap.2 ⟨v, hv, by simp [EV.own]⟩), h.own (v.ra, v.rn, v.rc, v.raw) (List.mem_flatMap.2 ⟨v, hv, by simp [EV.own]⟩)⟩
end Go.Proofs.Ytomolfdcdmncoaa
namespace Go.Proofs.Ytomolfdcdmncoaa
open Go.RowKit Go
set_option linter.unusedVariables false
set_option linter.unusedSimpArgs false
set_option maxRecDepth 100000
theorem bss_row : RowT 56 22 1 24 (.slice none 0 0) := ⟨Try.underlying56, by kernel_rfl, rfl, by decide⟩
def ownV (vs : List EV) : List Value := (vs.flatMap EV.own).map Own1.val
theorem ownV_snoc (vs : List EV) (j : Nat) (v : EV) (h : vs[j]? = some v) : ownV (vs.take (j + 1)) = ownV (vs.take j) ++ [.slice v.ba v.bn v.bc, .slice v.ra v.rn v.rc] := by
  unfold ownV
  rw [List.take_add_one, h]
  simp [EV.own, Own1.val]
end Go.Proofs.Ytomolfdcdmncoaa
namespace Go.Proofs.Ytomolfdcdmncoaa
open Go.RowKit Go
set_option linter.unusedVariables false
set_option linter.unusedSimpArgs false
set_option maxRecDepth 100000
theorem Evs.kept {w w' : World} {base base' nl cl : Nat} {L : Option Addr} {cs : List Value} {vs : List EV} (h : Evs w base vs) (hL : OwnR w base' 46 3 L nl cl cs) (hg : w.grownBy w' (blk L)) : Evs w' base vs :=
  ⟨fun x hx => (h.own x hx).kept hg ((h.own x hx).row.ne hL (by decide)), h.far, h.tag⟩
def sLen (v : Value) : Nat := match v with | .slice _ k _ => k | _ => 0
/-- What is left: of the bytes themselves, or a copy. -/
def RestR (w0 : World) (base : Nat) (A : Option Addr) (n c : Nat) (rest : List UInt8) (w : World) : Prop := (RB w0 A n rest ∧ Below w0.heap.size w0 w) ∨ OwnB w base A n c rest
theorem RestR.rb {w0 w : World} {base n c : Nat} {A : Option Addr} {rest : List UInt8} (h : RestR w0 base A n c rest w) : RB w A n rest := by
  rcases h with ⟨h, hb⟩ | h
  · exact h.below hb
  · exact h.rb
set_option maxHeartbeats 2000000 in
theorem rall_any (A0 : Option Addr) (n0 c0 : Nat) (bs : List UInt8) (w : World) (hR0 : RB w A0 n0 bs) (hnc : n0 ≤ c0) (hn : n0 ≤ 1000000000) (hc : c0 ≤ 9223372036854775807) :
    Calls Try.prog 42 #[.slice A0 n0 c0] w (AllPost w bs) := by
  have HR0 := Lib.hid hR0
  clear hR0
  go_enter Try.func42, Try.ntmps42
  go_wp2
  go_loopw [0, 4] (fun v u wl => ∃ (A1 : Option Addr) (n1 c1 : Nat) (rest : List UInt8) (A2 : Option Addr) (n2 c2 : Nat) (vs : List EV), v = .slice A1 n1 c1 ∧ u = .slice A2 n2 c2 ∧ RestR w w.heap.size A1 n1 c1 rest wl ∧ n1 ≤ c1 ∧ c1 ≤ 9223372036854775807 ∧ OwnR wl w.heap.size 46 3 A2 n2 c2 (vs.flatMap EV.cells) ∧ Evs wl w.heap.size vs ∧ Below w.heap.size w wl ∧ Hid (allQ bs = (allQ rest).map ((vs.map fun v => (v.raw, v.body)) ++ ·)) ∧ n2 + n1 ≤ n0) (fun v _ _ => sLen v)
  case atStart => exact ⟨A0, n0, c0, bs, none, 0, 0, [], rfl, rfl, .inl ⟨HR0.out, Below.refl _ _⟩, hnc, hc, OwnR.nil _ _ _ _, Evs.nil _ _, Below.refl _ _, (by unfold Hid; cases allQ bs <;> simp), by omega⟩
  case round =>
    obtain ⟨A1, n1, c1, rest, A2, n2, c2, vs, rfl, rfl, hrest, hnc1, hcc1, ho, hev, hb, HX, hcnt⟩ := hrel
    have hR1 := hrest.rb
    have hsz := hb.size
    by_cases h0 : n1 = 0
    · subst h0
      have hr : rest = [] := List.length_eq_zero_iff.1 hR1.1
      subst hr
      have HN : Hid (allQ bs = some (vs.map fun v => (v.raw, v.body))) := by unfold Hid; rw [HX.out, allQ_nil]; simp
      clear hR1 hrest
      go_wp2
      go_ret2
      unfold AllPost
      rw [HN.out]
      exact ⟨⟨A2, n2, c2, vs, rfl, rfl, ho, hev⟩, hb⟩
    have hne : rest ≠ [] := by rintro rfl; have := hR1.1; simp at this; omega
    have P := rparse_any A1 n1 c1 rest wr hR1 hnc1 (by omega) hcc1
    cases hq : splitQ rest with
    | none =>
      have HN : Hid (allQ bs = none) := by unfold Hid; rw [HX.out, allQ_none hne hq]; rfl
      have C : Hid (Calls Try.prog 20 #[.slice A1 n1 c1] wr fun e w' => e = .returned (.tuple #[.agg #[.int .u8 0, .slice none 0 0, .slice none 0 0], .slice none 0 0, .int .i64 9]) ∧ Below wr.heap.size wr w') := P.mono fun e w' hp => by
        unfold ParsePost at hp; rw [hq] at hp; exact hp
      have hpos : (0 : Int) < (n1 : Int) := by omega
      clear P hrest hR1 hq hne
      go_wp2_with fail
      refine C.out.mono ?_
      rintro e w3 ⟨rfl, hb3⟩
      go_wp2
      go_ret2
      unfold AllPost
      rw [HN.out]
      exact ⟨rfl, kp_alloc (kp_call hb hb3) _⟩
    | some p =>
      obtain ⟨s, t⟩ := p
      obtain ⟨hs2, hst, htn⟩ := splitQ_le hq
      rw [hR1.1] at htn
      have HNE : Hid (rest.getD 0 0 = (rest.take t).getD 0 0) := by
        unfold Hid
        rw [List.getD_eq_getElem?_getD, List.getD_eq_getElem?_getD, List.getElem?_take, if_pos (by omega)]
      have C : Hid (Calls Try.prog 20 #[.slice A1 n1 c1] wr fun e w' => (∃ A1 n1 c1 A2 n2 c2 A3 n3 c3, e = .returned (.tuple #[.agg #[.int .u8 ((rest.getD 0 0).toNat : Int), .slice A1 n1 c1, .slice A2 n2 c2], .slice A3 n3 c3, .int .i64 0]) ∧ OwnB w' wr.heap.size A1 n1 c1 ((rest.take t).drop s) ∧ OwnB w' wr.heap.size A2 n2 c2 (rest.take t) ∧ OwnB w' wr.heap.size A3 n3 c3 (rest.drop t) ∧
          (blk A1 = none ∨ blk A1 ≠ blk A2) ∧ (blk A1 = none ∨ blk A1 ≠ blk A3) ∧ (blk A2 = none ∨ blk A2 ≠ blk A3)) ∧ Below wr.heap.size wr w') := P.mono fun e w' hp => by
        unfold ParsePost at hp; rw [hq] at hp; exact hp
      have HN : Hid (allQ bs = (allQ (rest.drop t)).map (((vs.map fun v => (v.raw, v.body)) ++ [(rest.take t, (rest.take t).drop s)]) ++ ·)) := by
        unfold Hid
        rw [HX.out, allQ_some hq, Option.map_map]
        congr 1
        funext l
        simp
      have HL1 := Lib.hid hR1.1
      have hpos : (0 : Int) < (n1 : Int) := by omega
      clear P hrest hR1 hq hne HX
      obtain ⟨tag, htag⟩ : ∃ tag, rest.getD 0 0 = tag := ⟨_, rfl⟩
      rw [htag] at C HNE
      have HTG := Lib.hid htag
      clear htag
      have HO := Lib.hid ho
      have HE := Lib.hid hev
      clear ho hev
      go_wp2_with fail
      refine C.out.mono ?_
      rintro e w3 ⟨⟨X1, m1, k1, X2, m2, k2, X3, m3, k3, rfl, o1, o2, o3, f1, f2, f3⟩, hb3⟩
      have hb03 := kp_call hb hb3
      have hmax : n2 + 1 ≤ maxLen := by unfold maxLen; omega
      have HG : Hid (((w3.alloc (.cells #[.int .u8 (tag.toNat : Int), .slice X1 m1 k1, .slice X2 m2 k2] 46)).alloc (.cells #[.int .u8 (tag.toNat : Int), .slice X1 m1 k1, .slice X2 m2 k2] 46)).heap[w3.heap.size + 1]? = some (.cells #[.int .u8 (tag.toNat : Int), .slice X1 m1 k1, .slice X2 m2 k2] 46)) := has_new' _ _ _ (by simp)
      have HOW := Lib.hid (((HO.out.below hb3 (Nat.le_refl _)).alloc (.cells #[.int .u8 (tag.toNat : Int), .slice X1 m1 k1, .slice X2 m2 k2] 46)).alloc (.cells #[.int .u8 (tag.toNat : Int), .slice X1 m1 k1, .slice X2 m2 k2] 46))
      have H1 : Hid (∀ u ∈ (#[.int .u8 (tag.toNat : Int), .slice X1 m1 k1, .slice X2 m2 k2] : Array Value).toList, u.oneCell' = true) := by intro u hu; simp at hu; rcases hu with rfl | rfl | rfl <;> rfl
      have HV : Hid (Evs w3 w.heap.size (vs ++ [⟨tag, X1, m1, k1, X2, m2, k2, (rest.take t).drop s, rest.take t⟩])) := HE.out.snoc hb3 hsz _ o1 o2 f1 HNE.out.symm
      have hln := o3.len
      have hl3 : m3 + t = n1 := by rw [List.length_drop, HL1.out] at hln; omega
      have hs3 := hb3.size
      have HS3 := Lib.hid (show _ ∧ _ ∧ _ from ⟨hb03, hl3, o3.lower hsz⟩)
      have hcp := o3.cap
      have hcp2 : k3 ≤ 9223372036854775807 := by have := hcp.2; unfold maxLen at this; omega
      have hcp1 := hcp.1
      clear o1 o2 o3 f1 f2 f3 hb3 hb hln hl3 hb03 hcp
      go_wp2_with (at_builtin; refine wpList_appL el_row _ _ rfl rfl rfl w.heap.size A2 n2 c2 _ rfl HOW.out (w3.heap.size + 1) 1 1 #[.int .u8 (tag.toNat : Int), .slice X1 m1 k1, .slice X2 m2 k2] _ rfl HG.out rfl H1.out hmax (by omega) (by simp; omega) ?_)
      intro V' c' w5 ho5 hg5
      obtain ⟨hb03, hl3, o3⟩ := HS3.out
      have hev5 : Evs w5 w.heap.size (vs ++ [⟨tag, X1, m1, k1, X2, m2, k2, (rest.take t).drop s, rest.take t⟩]) := (HV.out.below (kp_alloc (kp_alloc (Below.refl _ _) _) _) (Nat.le_refl _)).kept HOW.out hg5
      have o35 := ((o3.alloc (.cells #[.int .u8 (tag.toNat : Int), .slice X1 m1 k1, .slice X2 m2 k2] 46)).alloc (.cells #[.int .u8 (tag.toNat : Int), .slice X1 m1 k1, .slice X2 m2 k2] 46))
      have o36 := o35.kept hg5 (o35.row.ne HOW.out (by decide))
      have hb5 : Below w.heap.size w w5 := (kp_alloc (kp_alloc hb03 _) _).grown hg5 (by simp; omega) (fun g hg => (HOW.out.blk_lt hg).1)
      have HF := Lib.hid (show _ ∧ _ ∧ _ ∧ _ from ⟨ho5, hev5, o36, hb5⟩)
      clear ho5 hev5 o35 o36 hb5 o3 hb03
      go_wp2
      obtain ⟨r1, r2, r3, r4⟩ := HF.out
      go_roundw
      case rel => exact ⟨X3, m3, k3, rest.drop t, V', n2 + 1, c', vs ++ [⟨tag, X1, m1, k1, X2, m2, k2, (rest.take t).drop s, rest.take t⟩], rfl, rfl, .inr r3, hcp1, hcp2, by rw [List.flatMap_append]; exact r1, r2, r4, by unfold Hid; rw [HN.out, List.map_append]; rfl, by omega⟩
      case measure => simp [sLen]; omega
end Go.Proofs.Ytomolfdcdmncoaa
