/-
  stamp: moments as the model holds them; which of them are right.
-/
import Derived.Test.YtfampefflkkckaaDoorOwn
import Derived.Test.YtfampefflkkckaaDoorOctA
import Derived.Lib.SmallJoins
import Derived.RegionTactic
import Derived.BigRegion
import Derived.ChangeAlike
import Derived.Deep.QuietTactic
import Derived.BigQuiet
namespace Go.Proofs.YtfampefflkkckaaDoor
open Go.RowKit Go
set_option linter.unusedVariables false
set_option maxRecDepth 100000
/-- A moment: its year and five bytes. -/
structure Tm where
  y : Nat
  mo : UInt8
  d : UInt8
  h : UInt8
  mi : UInt8
  s : UInt8
deriving DecidableEq
def Tm.zero : Tm := ⟨0, 0, 0, 0, 0, 0⟩
/-- Its six numbers. -/
def Tm.nums (t : Tm) : List Nat := [t.y, t.mo.toNat, t.d.toNat, t.h.toNat, t.mi.toNat, t.s.toNat]
def Tm.cells (t : Tm) : Array Value := #[.int .u16 (t.y : Int), .int .u8 (t.mo.toNat : Int), .int .u8 (t.d.toNat : Int), .int .u8 (t.h.toNat : Int), .int .u8 (t.mi.toNat : Int), .int .u8 (t.s.toNat : Int)]
def tmV (t : Tm) : Value := .agg t.cells
def IsTm (_w : World) (t : Tm) : Prop := t.y < 65536
section
open Go.ChangeShapes Go.WideShapes Go.ChangeAt Go.Joins
theorem open_p71 {H : Type} {enc : TypeId × Value → H} {W : World} {r : Reach} {b0 : Nat} {v : Value} {d : DataW H} {p : List MemPlace} (hv : Value.okWide Tryd.prog W r b0 71 v)
    (h : DataW.Trod enc Tryd.prog W 0 (fun _ => true) true 71 v d p) : ∃ x, v = tmV x ∧ IsTm W x := by
  obtain ⟨cs, rfl, hsz⟩ := okWide_struct Tryd.underlying71 hv
  have hsz6 : cs.size = 6 := hsz.trans (by kernel_rfl)
  obtain ⟨l⟩ := cs
  obtain ⟨fuel, hf⟩ := h
  obtain ⟨xs, n, _, _, _, hlen, hg⟩ := DataW.trod_struct Tryd.underlying71 hf
  match l, hsz6 with
  | [c0, c1, c2, c3, c4, c5], _ =>
    match xs, hlen with
    | [x0, x1, x2, x3, x4, x5], _ =>
      have cu8 : Tryd.prog.cellsOf 5 = 1 := by kernel_rfl
      have cu16 : Tryd.prog.cellsOf 43 = 1 := by kernel_rfl
      have g0 : DataW.trod enc Tryd.prog W 0 (fun _ => true) true n 43 [c0] = some x0 := by simpa [Value.cells, cu16] using hg 0 _ rfl
      have g1 : DataW.trod enc Tryd.prog W 0 (fun _ => true) true n 5 [c1] = some x1 := by simpa [Value.cells, cu8] using hg 1 _ rfl
      have g2 : DataW.trod enc Tryd.prog W 0 (fun _ => true) true n 5 [c2] = some x2 := by simpa [Value.cells, cu8] using hg 2 _ rfl
      have g3 : DataW.trod enc Tryd.prog W 0 (fun _ => true) true n 5 [c3] = some x3 := by simpa [Value.cells, cu8] using hg 3 _ rfl
      have g4 : DataW.trod enc Tryd.prog W 0 (fun _ => true) true n 5 [c4] = some x4 := by simpa [Value.cells, cu8] using hg 4 _ rfl
      have g5 : DataW.trod enc Tryd.prog W 0 (fun _ => true) true n 5 [c5] = some x5 := by simpa [Value.cells, cu8] using hg 5 _ rfl
      obtain ⟨z0, e0, _, w0⟩ := DataW.trod_int Tryd.underlying43 g0
      obtain ⟨z1, e1, _, w1⟩ := DataW.trod_int Tryd.underlying5 g1
      obtain ⟨z2, e2, _, w2⟩ := DataW.trod_int Tryd.underlying5 g2
      obtain ⟨z3, e3, _, w3⟩ := DataW.trod_int Tryd.underlying5 g3
      obtain ⟨z4, e4, _, w4⟩ := DataW.trod_int Tryd.underlying5 g4
      obtain ⟨z5, e5, _, w5⟩ := DataW.trod_int Tryd.underlying5 g5
      injection e0 with e0 _
      injection e1 with e1 _
      injection e2 with e2 _
      injection e3 with e3 _
      injection e4 with e4 _
      injection e5 with e5 _
      subst e0 e1 e2 e3 e4 e5
      have b0 := bounds_u16 w0
      have y0 : ((z0.toNat : Nat) : Int) = z0 := by omega
      have y1 := byte_of_wf w1
      have y2 := byte_of_wf w2
      have y3 := byte_of_wf w3
      have y4 := byte_of_wf w4
      have y5 := byte_of_wf w5
      refine ⟨⟨z0.toNat, UInt8.ofNat z1.toNat, UInt8.ofNat z2.toNat, UInt8.ofNat z3.toNat, UInt8.ofNat z4.toNat, UInt8.ofNat z5.toNat⟩, ?_, ?_⟩
      · unfold tmV Tm.cells
        simp only [y0, y1, y2, y3, y4, y5]
      · show z0.toNat < 65536
        omega
end
theorem leap_any (y : Nat) (w : World) (hy : y < 65536) : Calls Tryd.prog 62 #[.int .u16 (y : Int)] w fun e w' => e = .returned (.bool (decide (y % 4 = 0 ∧ (y % 100 ≠ 0 ∨ y % 400 = 0)))) ∧ w = w' := by
  go_enter Tryd.func62, Tryd.ntmps62
  go_wp2
  all_goals go_ret
  all_goals (refine ⟨congrArg (fun b => Ending.returned (Value.bool b)) ?_, rfl⟩; rw [Bool.eq_iff_iff]; simp; omega)
def daysN (y m : Nat) : Nat := if m = 4 ∨ m = 6 ∨ m = 9 ∨ m = 11 then 30 else if m = 2 then (if y % 4 = 0 ∧ (y % 100 ≠ 0 ∨ y % 400 = 0) then 29 else 28) else 31
theorem days_any (y : Nat) (m : UInt8) (w : World) (hy : y < 65536) : Calls Tryd.prog 61 #[.int .u16 (y : Int), .int .u8 (m.toNat : Int)] w fun e w' => e = .returned (.int .u8 (daysN y m.toNat : Nat)) ∧ w' = w := by
  have L := Lib.hid (leap_any y w hy)
  generalize m.toNat = k
  by_cases h4 : k = 4
  · subst h4
    have e : daysN y 4 = 30 := rfl
    rw [e]
    go_enter Tryd.func61, Tryd.ntmps61
    go_wp2
    go_ret
    exact ⟨rfl, rfl⟩
  by_cases h6 : k = 6
  · subst h6
    have e : daysN y 6 = 30 := rfl
    rw [e]
    go_enter Tryd.func61, Tryd.ntmps61
    go_wp2
    go_ret
    exact ⟨rfl, rfl⟩
  by_cases h9 : k = 9
  · subst h9
    have e : daysN y 9 = 30 := rfl
    rw [e]
    go_enter Tryd.func61, Tryd.ntmps61
    go_wp2
    go_ret
    exact ⟨rfl, rfl⟩
  by_cases h11 : k = 11
  · subst h11
    have e : daysN y 11 = 30 := rfl
    rw [e]
    go_enter Tryd.func61, Tryd.ntmps61
    go_wp2
    go_ret
    exact ⟨rfl, rfl⟩
  by_cases h2 : k = 2
  · subst h2
    have e : daysN y 2 = if decide (y % 4 = 0 ∧ (y % 100 ≠ 0 ∨ y % 400 = 0)) = true then 29 else 28 := by simp [daysN]
    rw [e]
    generalize decide (y % 4 = 0 ∧ (y % 100 ≠ 0 ∨ y % 400 = 0)) = b at L
    cases b
    · go_enter Tryd.func61, Tryd.ntmps61
      go_wp2_with fail
      refine L.out.mono ?_
      rintro e w' ⟨rfl, rfl⟩
      go_wp2
      go_ret
      exact ⟨rfl, rfl⟩
    · go_enter Tryd.func61, Tryd.ntmps61
      go_wp2_with fail
      refine L.out.mono ?_
      rintro e w' ⟨rfl, rfl⟩
      go_wp2
      go_ret
      exact ⟨rfl, rfl⟩
  · have e : daysN y k = 31 := by unfold daysN; rw [if_neg (by omega), if_neg h2]
    rw [e]
    have b4 : ((k : Int) == 4) = false := beq_eq_false_iff_ne.2 (by omega)
    have b6 : ((k : Int) == 6) = false := beq_eq_false_iff_ne.2 (by omega)
    have b9 : ((k : Int) == 9) = false := beq_eq_false_iff_ne.2 (by omega)
    have b11 : ((k : Int) == 11) = false := beq_eq_false_iff_ne.2 (by omega)
    have b2 : ((k : Int) == 2) = false := beq_eq_false_iff_ne.2 (by omega)
    clear e h2 h4 h6 h9 h11
    go_enter Tryd.func61, Tryd.ntmps61
    go_wp2
    go_ret
    exact ⟨rfl, rfl⟩
/-- Is there such a moment? -/
def rightB (t : Tm) : Bool := decide (1900 ≤ t.y ∧ t.y ≤ 9999 ∧ 1 ≤ t.mo.toNat ∧ t.mo.toNat ≤ 12 ∧ 1 ≤ t.d.toNat ∧ t.d.toNat ≤ daysN t.y t.mo.toNat ∧ t.h.toNat ≤ 23 ∧ t.mi.toNat ≤ 59 ∧ t.s.toNat ≤ 59)
theorem daysN_le (y m : Nat) : daysN y m ≤ 31 := by
  unfold daysN
  repeat' split
  all_goals omega
theorem below_dn {B : Nat} {a b : World} (h : Below B a b) (k : Nat) : Below B a (b.drewN k) := ⟨h.os, h.tape, h.output, h.size, h.block⟩
theorem right_any (t : Tm) (w : World) (hy : t.y < 65536) : Calls Tryd.prog 55 #[tmV t] w fun e w' => e = .returned (.bool (rightB t)) ∧ Below w.heap.size w w' := by
  have D := Lib.hid (fun W => days_any t.y t.mo W hy)
  have hb0 : ∀ cs, Below w.heap.size w (w.alloc (.cells cs 71)) := fun cs => (Below.refl _ _).alloc (Nat.le_refl _) _
  have hr : ∀ b : Bool, ((1900 ≤ t.y ∧ t.y ≤ 9999 ∧ 1 ≤ t.mo.toNat ∧ t.mo.toNat ≤ 12 ∧ 1 ≤ t.d.toNat ∧ t.d.toNat ≤ daysN t.y t.mo.toNat ∧ t.h.toNat ≤ 23 ∧ t.mi.toNat ≤ 59 ∧ t.s.toNat ≤ 59) ↔ b = true) → rightB t = b := by
    intro b hb
    cases b
    · exact decide_eq_false (fun h => by have := hb.1 h; cases this)
    · exact decide_eq_true (hb.2 rfl)
  have hdl := daysN_le t.y t.mo.toNat
  unfold tmV
  unfold Tm.cells
  obtain ⟨y, mo, d, h, mi, s⟩ := t
  simp only at hr D hy hdl ⊢
  generalize rightB ⟨y, mo, d, h, mi, s⟩ = R at hr
  generalize daysN y mo.toNat = N at hr D hdl
  generalize mo.toNat = mo' at hr D
  generalize d.toNat = d' at hr
  generalize h.toNat = h' at hr
  generalize mi.toNat = mi' at hr
  generalize s.toNat = s' at hr
  have HR := Lib.hid hr
  clear hr
  by_cases q1 : 1900 ≤ y
  · by_cases q2 : y ≤ 9999
    · by_cases q3 : 1 ≤ mo'
      · by_cases q4 : mo' ≤ 12
        · by_cases q5 : 1 ≤ d'
          · have g5 : decide ((d' : Int) < 1) = false := by simp; omega
            go_enter Tryd.func55, Tryd.ntmps55
            go_wp2
            go_quiet ((go_at_call 61; exact Calls.quiet_of_same (D.out _)))
            go_wp2
            all_goals go_ret
            all_goals (refine ⟨congrArg (fun b => Ending.returned (Value.bool b)) ?_, below_dn (hb0 _) _⟩; refine (HR.out _ ?_).symm; simp; omega)
          · rw [HR.out false (by simp; omega)]
            have g5 : decide ((d' : Int) < 1) = true := by simp; omega
            go_enter Tryd.func55, Tryd.ntmps55
            go_wp2
            go_quiet (fail)
            go_wp2
            go_ret
            exact ⟨rfl, below_dn (hb0 _) _⟩
        · rw [HR.out false (by simp; omega)]
          go_enter Tryd.func55, Tryd.ntmps55
          go_wp2
          go_ret
          exact ⟨rfl, hb0 _⟩
      · rw [HR.out false (by simp; omega)]
        go_enter Tryd.func55, Tryd.ntmps55
        go_wp2
        go_ret
        exact ⟨rfl, hb0 _⟩
    · rw [HR.out false (by simp; omega)]
      go_enter Tryd.func55, Tryd.ntmps55
      go_wp2
      go_ret
      exact ⟨rfl, hb0 _⟩
  · rw [HR.out false (by simp; omega)]
    go_enter Tryd.func55, Tryd.ntmps55
    go_wp2
    go_ret
    exact ⟨rfl, hb0 _⟩
end Go.Proofs.YtfampefflkkckaaDoor
