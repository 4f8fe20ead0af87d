/-
  octet: sizes, what is within, and numbers in bytes.
-/
import Derived.Test.YtomolfdcdmncoaaCb1
import Derived.Laws.Rows
import Derived.LoopN
import Derived.Lib.LaidTab
import Derived.WalkSmall
import Derived.Laws.BitsAllLaws
import Derived.Lib.SmallJoins
import Derived.RegionTactic
import Derived.BigRegion
import Derived.ChangeAlike
import Derived.Deep.QuietTactic
import Derived.BigQuiet
import Derived.Lib.Builder
import Derived.Laws.ResultCell
import Derived.StillTailTactics
import Derived.Deep.RegionHeld3
import Derived.Laws.StructEq
namespace Go.Proofs.Ytomolfdcdmncoaa
open Go.RowKit Go
set_option linter.unusedVariables false

def sizesZ : List Int := [1, 2, 4, 8]
/-- Are k bytes from at on within n? -/
def inB (n at_ k : Int) : Bool := decide (0 ≤ at_ ∧ 0 ≤ k ∧ at_ ≤ n ∧ k ≤ n - at_)
/-- Which sizes a number may have. -/
def isSz (n : Int) : Bool := decide (n = 1 ∨ n = 2 ∨ n = 4 ∨ n = 8)
/-- A number's bytes, the lowest first. -/
def leN : List UInt8 → Nat
  | [] => 0
  | q :: r => q.toNat + 256 * leN r
theorem leN_snoc (l : List UInt8) (q : UInt8) : leN (l ++ [q]) = leN l + q.toNat * 256 ^ l.length := by
  induction l with
  | nil => simp [leN]
  | cons p r ih =>
    rw [List.cons_append, leN, ih, leN, List.length_cons, Nat.pow_succ, Nat.mul_add, Nat.mul_comm (256 ^ r.length) 256, Nat.mul_left_comm]
    omega
theorem leN_lt (l : List UInt8) : leN l < 256 ^ l.length := by
  induction l with
  | nil => simp [leN]
  | cons p r ih =>
    rw [leN, List.length_cons, Nat.pow_succ]
    have := p.toNat_lt
    omega
/-- What is at the places pl of a number of k bytes from at on. -/
def pick (bs : List UInt8) (at_ : Nat) (pl : Nat → Nat) (k : Nat) : List UInt8 := (List.range k).map fun i => bs.getD (at_ + pl i) 0
theorem pick_succ (bs : List UInt8) (at_ : Nat) (pl : Nat → Nat) (k : Nat) : pick bs at_ pl (k + 1) = pick bs at_ pl k ++ [bs.getD (at_ + pl k) 0] := by
  unfold pick
  rw [List.range_succ, List.map_append]; rfl
theorem pick_len (bs : List UInt8) (at_ : Nat) (pl : Nat → Nat) (k : Nat) : (pick bs at_ pl k).length = k := by simp [pick]
theorem or_step (x j : Nat) (q : UInt8) (hx : x < 256 ^ j) (hj : j < 8) :
    bits BinOp.or IntKind.u64 (x : Int) (IntKind.u64.wrap ((q.toNat : Int) * 2 ^ (8 * j))) = ((x + q.toNat * 256 ^ j : Nat) : Int) := by
  have hq := q.toNat_lt
  have hp : (2 : Nat) ^ (8 * j) = 256 ^ j := by rw [Nat.pow_mul]
  have hlt : q.toNat * 256 ^ j < 18446744073709551616 := by
    have h1 : 256 ^ j ≤ 256 ^ 7 := Nat.pow_le_pow_right (by decide) (by omega)
    have h2 : q.toNat * 256 ^ j ≤ 255 * 256 ^ 7 := Nat.mul_le_mul (by omega) h1
    have h3 : (255 : Nat) * 256 ^ 7 < 18446744073709551616 := by decide
    omega
  have hxl : x < 18446744073709551616 := by
    have h1 : 256 ^ j ≤ 256 ^ 7 := Nat.pow_le_pow_right (by decide) (by omega)
    have h3 : (256 : Nat) ^ 7 < 18446744073709551616 := by decide
    omega
  have hw : IntKind.u64.wrap ((q.toNat : Int) * 2 ^ (8 * j)) = ((q.toNat * 256 ^ j : Nat) : Int) := by
    rw [show ((q.toNat : Int) * 2 ^ (8 * j)) = ((q.toNat * 2 ^ (8 * j) : Nat) : Int) by simp, hp]
    generalize q.toNat * 256 ^ j = m at hlt
    rw [IntKind.wrap_u64]
    omega
  rw [hw, u64_or_nat _ _ hxl hlt, Nat.or_comm, nat_join (8 * j) _ _ (by rw [hp]; exact Nat.mul_mod_left _ _) (by rw [hp]; exact hx), Nat.add_comm]
end Go.Proofs.Ytomolfdcdmncoaa
namespace Go.Proofs.Ytomolfdcdmncoaa
open Go.RowKit Go
set_option linter.unusedVariables false
set_option maxRecDepth 100000
/-- A moment: its year and five bytes. -/
structure Tm where
  y : Nat
  mo : UInt8
  d : UInt8
  h : UInt8
  mi : UInt8
  s : UInt8
deriving DecidableEq
def Tm.zero : Tm := ⟨0, 0, 0, 0, 0, 0⟩
/-- Its six numbers. -/
def Tm.nums (t : Tm) : List Nat := [t.y, t.mo.toNat, t.d.toNat, t.h.toNat, t.mi.toNat, t.s.toNat]
def Tm.cells (t : Tm) : Array Value := #[.int .u16 (t.y : Int), .int .u8 (t.mo.toNat : Int), .int .u8 (t.d.toNat : Int), .int .u8 (t.h.toNat : Int), .int .u8 (t.mi.toNat : Int), .int .u8 (t.s.toNat : Int)]
def tmV (t : Tm) : Value := .agg t.cells
def IsTm (_w : World) (t : Tm) : Prop := t.y < 65536
section
open Go.ChangeShapes Go.WideShapes Go.ChangeAt Go.Joins
theorem open_p25 {H : Type} {enc : TypeId × Value → H} {W : World} {r : Reach} {b0 : Nat} {v : Value} {d : DataW H} {p : List MemPlace} (hv : Value.okWide Try.prog W r b0 25 v)
    (h : DataW.Trod enc Try.prog W 0 (fun _ => true) true 25 v d p) : ∃ x, v = tmV x ∧ IsTm W x := by
  obtain ⟨cs, rfl, hsz⟩ := okWide_struct Try.underlying25 hv
  have hsz6 : cs.size = 6 := hsz.trans (by kernel_rfl)
  obtain ⟨l⟩ := cs
  obtain ⟨fuel, hf⟩ := h
  obtain ⟨xs, n, _, _, _, hlen, hg⟩ := DataW.trod_struct Try.underlying25 hf
  match l, hsz6 with
  | [c0, c1, c2, c3, c4, c5], _ =>
    match xs, hlen with
    | [x0, x1, x2, x3, x4, x5], _ =>
      have cu8 : Try.prog.cellsOf 5 = 1 := by kernel_rfl
      have cu16 : Try.prog.cellsOf 23 = 1 := by kernel_rfl
      have g0 : DataW.trod enc Try.prog W 0 (fun _ => true) true n 23 [c0] = some x0 := by simpa [Value.cells, cu16] using hg 0 _ rfl
      have g1 : DataW.trod enc Try.prog W 0 (fun _ => true) true n 5 [c1] = some x1 := by simpa [Value.cells, cu8] using hg 1 _ rfl
      have g2 : DataW.trod enc Try.prog W 0 (fun _ => true) true n 5 [c2] = some x2 := by simpa [Value.cells, cu8] using hg 2 _ rfl
      have g3 : DataW.trod enc Try.prog W 0 (fun _ => true) true n 5 [c3] = some x3 := by simpa [Value.cells, cu8] using hg 3 _ rfl
      have g4 : DataW.trod enc Try.prog W 0 (fun _ => true) true n 5 [c4] = some x4 := by simpa [Value.cells, cu8] using hg 4 _ rfl
      have g5 : DataW.trod enc Try.prog W 0 (fun _ => true) true n 5 [c5] = some x5 := by simpa [Value.cells, cu8] using hg 5 _ rfl
      obtain ⟨z0, e0, _, w0⟩ := DataW.trod_int Try.underlying23 g0
      obtain ⟨z1, e1, _, w1⟩ := DataW.trod_int Try.underlying5 g1
      obtain ⟨z2, e2, _, w2⟩ := DataW.trod_int Try.underlying5 g2
      obtain ⟨z3, e3, _, w3⟩ := DataW.trod_int Try.underlying5 g3
      obtain ⟨z4, e4, _, w4⟩ := DataW.trod_int Try.underlying5 g4
      obtain ⟨z5, e5, _, w5⟩ := DataW.trod_int Try.underlying5 g5
      injection e0 with e0 _
      injection e1 with e1 _
      injection e2 with e2 _
      injection e3 with e3 _
      injection e4 with e4 _
      injection e5 with e5 _
      subst e0 e1 e2 e3 e4 e5
      have b0 := bounds_u16 w0
      have y0 : ((z0.toNat : Nat) : Int) = z0 := by omega
      have y1 := byte_of_wf w1
      have y2 := byte_of_wf w2
      have y3 := byte_of_wf w3
      have y4 := byte_of_wf w4
      have y5 := byte_of_wf w5
      refine ⟨⟨z0.toNat, UInt8.ofNat z1.toNat, UInt8.ofNat z2.toNat, UInt8.ofNat z3.toNat, UInt8.ofNat z4.toNat, UInt8.ofNat z5.toNat⟩, ?_, ?_⟩
      · unfold tmV Tm.cells
        simp only [y0, y1, y2, y3, y4, y5]
      · show z0.toNat < 65536
        omega
end
theorem leap_any (y : Nat) (w : World) (hy : y < 65536) : Calls Try.prog 101 #[.int .u16 (y : Int)] w fun e w' => e = .returned (.bool (decide (y % 4 = 0 ∧ (y % 100 ≠ 0 ∨ y % 400 = 0)))) ∧ w = w' := by
  go_enter Try.func101, Try.ntmps101
  go_wp2
  all_goals go_ret
  all_goals (refine ⟨congrArg (fun b => Ending.returned (Value.bool b)) ?_, rfl⟩; rw [Bool.eq_iff_iff]; simp; omega)
def daysN (y m : Nat) : Nat := if m = 4 ∨ m = 6 ∨ m = 9 ∨ m = 11 then 30 else if m = 2 then (if y % 4 = 0 ∧ (y % 100 ≠ 0 ∨ y % 400 = 0) then 29 else 28) else 31
theorem days_any (y : Nat) (m : UInt8) (w : World) (hy : y < 65536) : Calls Try.prog 100 #[.int .u16 (y : Int), .int .u8 (m.toNat : Int)] w fun e w' => e = .returned (.int .u8 (daysN y m.toNat : Nat)) ∧ w' = w := by
  have L := Lib.hid (leap_any y w hy)
  generalize m.toNat = k
  by_cases h4 : k = 4
  · subst h4
    have e : daysN y 4 = 30 := rfl
    rw [e]
    go_enter Try.func100, Try.ntmps100
    go_wp2
    go_ret
    exact ⟨rfl, rfl⟩
  by_cases h6 : k = 6
  · subst h6
    have e : daysN y 6 = 30 := rfl
    rw [e]
    go_enter Try.func100, Try.ntmps100
    go_wp2
    go_ret
    exact ⟨rfl, rfl⟩
  by_cases h9 : k = 9
  · subst h9
    have e : daysN y 9 = 30 := rfl
    rw [e]
    go_enter Try.func100, Try.ntmps100
    go_wp2
    go_ret
    exact ⟨rfl, rfl⟩
  by_cases h11 : k = 11
  · subst h11
    have e : daysN y 11 = 30 := rfl
    rw [e]
    go_enter Try.func100, Try.ntmps100
    go_wp2
    go_ret
    exact ⟨rfl, rfl⟩
  by_cases h2 : k = 2
  · subst h2
    have e : daysN y 2 = if decide (y % 4 = 0 ∧ (y % 100 ≠ 0 ∨ y % 400 = 0)) = true then 29 else 28 := by simp [daysN]
    rw [e]
    generalize decide (y % 4 = 0 ∧ (y % 100 ≠ 0 ∨ y % 400 = 0)) = b at L
    cases b
    · go_enter Try.func100, Try.ntmps100
      go_wp2_with fail
      refine L.out.mono ?_
      rintro e w' ⟨rfl, rfl⟩
      go_wp2
      go_ret
      exact ⟨rfl, rfl⟩
    · go_enter Try.func100, Try.ntmps100
      go_wp2_with fail
      refine L.out.mono ?_
      rintro e w' ⟨rfl, rfl⟩
      go_wp2
      go_ret
      exact ⟨rfl, rfl⟩
  · have e : daysN y k = 31 := by unfold daysN; rw [if_neg (by omega), if_neg h2]
    rw [e]
    have b4 : ((k : Int) == 4) = false := beq_eq_false_iff_ne.2 (by omega)
    have b6 : ((k : Int) == 6) = false := beq_eq_false_iff_ne.2 (by omega)
    have b9 : ((k : Int) == 9) = false := beq_eq_false_iff_ne.2 (by omega)
    have b11 : ((k : Int) == 11) = false := beq_eq_false_iff_ne.2 (by omega)
    have b2 : ((k : Int) == 2) = false := beq_eq_false_iff_ne.2 (by omega)
    clear e h2 h4 h6 h9 h11
    go_enter Try.func100, Try.ntmps100
    go_wp2
    go_ret
    exact ⟨rfl, rfl⟩
/-- Is there such a moment? -/
def rightB (t : Tm) : Bool := decide (1900 ≤ t.y ∧ t.y ≤ 9999 ∧ 1 ≤ t.mo.toNat ∧ t.mo.toNat ≤ 12 ∧ 1 ≤ t.d.toNat ∧ t.d.toNat ≤ daysN t.y t.mo.toNat ∧ t.h.toNat ≤ 23 ∧ t.mi.toNat ≤ 59 ∧ t.s.toNat ≤ 59)
theorem daysN_le (y m : Nat) : daysN y m ≤ 31 := by
  unfold daysN
  repeat' split
  all_goals omega
theorem below_dn {B : Nat} {a b : World} (h : Below B a b) (k : Nat) : Below B a (b.drewN k) := ⟨h.os, h.tape, h.output, h.size, h.block⟩
theorem right_any (t : Tm) (w : World) (hy : t.y < 65536) : Calls Try.prog 99 #[tmV t] w fun e w' => e = .returned (.bool (rightB t)) ∧ Below w.heap.size w w' := by
  have D := Lib.hid (fun W => days_any t.y t.mo W hy)
  have hb0 : ∀ cs, Below w.heap.size w (w.alloc (.cells cs 25)) := fun cs => (Below.refl _ _).alloc (Nat.le_refl _) _
  have hr : ∀ b : Bool, ((1900 ≤ t.y ∧ t.y ≤ 9999 ∧ 1 ≤ t.mo.toNat ∧ t.mo.toNat ≤ 12 ∧ 1 ≤ t.d.toNat ∧ t.d.toNat ≤ daysN t.y t.mo.toNat ∧ t.h.toNat ≤ 23 ∧ t.mi.toNat ≤ 59 ∧ t.s.toNat ≤ 59) ↔ b = true) → rightB t = b := by
    intro b hb
    cases b
    · exact decide_eq_false (fun h => by have := hb.1 h; cases this)
    · exact decide_eq_true (hb.2 rfl)
  have hdl := daysN_le t.y t.mo.toNat
  unfold tmV
  unfold Tm.cells
  obtain ⟨y, mo, d, h, mi, s⟩ := t
  simp only at hr D hy hdl ⊢
  generalize rightB ⟨y, mo, d, h, mi, s⟩ = R at hr
  generalize daysN y mo.toNat = N at hr D hdl
  generalize mo.toNat = mo' at hr D
  generalize d.toNat = d' at hr
  generalize h.toNat = h' at hr
  generalize mi.toNat = mi' at hr
  generalize s.toNat = s' at hr
  have HR := Lib.hid hr
  clear hr
  by_cases q1 : 1900 ≤ y
  · by_cases q2 : y ≤ 9999
    · by_cases q3 : 1 ≤ mo'
      · by_cases q4 : mo' ≤ 12
        · by_cases q5 : 1 ≤ d'
          · have g5 : decide ((d' : Int) < 1) = false := by simp; omega
            go_enter Try.func99, Try.ntmps99
            go_wp2
            go_quiet ((go_at_call 100; exact Calls.quiet_of_same (D.out _)))
            go_wp2
            all_goals go_ret
            all_goals (refine ⟨congrArg (fun b => Ending.returned (Value.bool b)) ?_, below_dn (hb0 _) _⟩; refine (HR.out _ ?_).symm; simp; omega)
          · rw [HR.out false (by simp; omega)]
            have g5 : decide ((d' : Int) < 1) = true := by simp; omega
            go_enter Try.func99, Try.ntmps99
            go_wp2
            go_quiet (fail)
            go_wp2
            go_ret
            exact ⟨rfl, below_dn (hb0 _) _⟩
        · rw [HR.out false (by simp; omega)]
          go_enter Try.func99, Try.ntmps99
          go_wp2
          go_ret
          exact ⟨rfl, hb0 _⟩
      · rw [HR.out false (by simp; omega)]
        go_enter Try.func99, Try.ntmps99
        go_wp2
        go_ret
        exact ⟨rfl, hb0 _⟩
    · rw [HR.out false (by simp; omega)]
      go_enter Try.func99, Try.ntmps99
      go_wp2
      go_ret
      exact ⟨rfl, hb0 _⟩
  · rw [HR.out false (by simp; omega)]
    go_enter Try.func99, Try.ntmps99
    go_wp2
    go_ret
    exact ⟨rfl, hb0 _⟩
end Go.Proofs.Ytomolfdcdmncoaa
namespace Go.Proofs.Ytomolfdcdmncoaa
open Go.RowKit Go
set_option linter.unusedVariables false
set_option maxRecDepth 100000
def digit (p : UInt8) : Bool := decide (48 ≤ p.toNat ∧ p.toNat ≤ 57)
/-- The number of two digits, or -1. -/
def pairI (p q : UInt8) : Int := if digit p && digit q then 10 * ((p.toNat : Int) - 48) + ((q.toNat : Int) - 48) else -1
theorem pairI_le (p q : UInt8) : -1 ≤ pairI p q ∧ pairI p q ≤ 99 := by
  unfold pairI digit
  split
  · rename_i h
    simp at h
    omega
  · omega
def pairAt (bs : List UInt8) (k : Nat) : Int := pairI (bs.getD k 0) (bs.getD (k + 1) 0)
theorem getD_of {bs : List UInt8} {k : Nat} {q : UInt8} (h : bs[k]? = some q) : bs.getD k 0 = q := by rw [List.getD_eq_getElem?_getD, h]; rfl
theorem pairI_yes {p q : UInt8} {z : Int} (h : 48 ≤ p.toNat ∧ p.toNat ≤ 57 ∧ 48 ≤ q.toNat ∧ q.toNat ≤ 57) (hz : z = ((p.toNat : Int) - 48) * 10 + ((q.toNat : Int) - 48)) : z = pairI p q := by
  unfold pairI digit
  rw [if_pos (by simp; omega)]
  omega
theorem pairI_no {p q : UInt8} (h : ¬ (48 ≤ p.toNat ∧ p.toNat ≤ 57 ∧ 48 ≤ q.toNat ∧ q.toNat ≤ 57)) : -1 = pairI p q := by
  unfold pairI digit
  rw [if_neg (by simp; omega)]
theorem grown_set1 (w : World) (m g j : Nat) (u : Value) : w.grownBy ((w.drewN m).setCell ⟨g, j, none⟩ u) (some g) :=
  ⟨rfl, rfl, rfl, by simp [World.setCell, World.drewN], fun k _ hk => Below.heap_setCell (w.drewN m) ⟨g, j, none⟩ u k (fun e => hk (by rw [e]))⟩
/-- Where the closure stands. -/
structure Next (w : World) (P0 P1 : Nat) (A : Option Addr) (n c : Nat) (bs : List UInt8) (k : Nat) : Prop where
  lt : P0 < P1
  size : P1 < w.heap.size
  len : bs.length = n
  reads : Bs w P0 A bs
  text : w.cell? ⟨P0, 0, none⟩ = some (.slice A n c)
  at_ : w.cell? ⟨P1, 0, none⟩ = some (.int .i64 (k : Int))
  free : w.frozen? ⟨P1, 0, none⟩ = false
theorem Next.grown {w w' : World} {P0 P1 : Nat} {A : Option Addr} {n c : Nat} {bs : List UInt8} {k : Nat} (h : Next w P0 P1 A n c bs k) {row : Option Nat} (hg : w.grownBy w' row) (hr : ∀ g, row = some g → P1 < g) : Next w' P0 P1 A n c bs k := by
  have h0 := h.size
  have h1 := h.lt
  refine ⟨h.lt, Nat.lt_of_lt_of_le h.size hg.size, h.len, h.reads.grown hg (by omega) (fun g hh => by have := hr g hh; omega), ?_, ?_, ?_⟩
  · rw [World.cell?_of_block (w := w) (hg.block P0 (by omega) (fun e => by have := hr _ e.symm; omega))]; exact h.text
  · rw [World.cell?_of_block (w := w) (hg.block P1 (by omega) (fun e => by have := hr _ e.symm; omega))]; exact h.at_
  · rw [World.frozen?_of_block (w := w) (hg.block P1 (by omega) (fun e => by have := hr _ e.symm; omega))]; exact h.free
theorem Next.step {w : World} {P0 P1 : Nat} {A : Option Addr} {n c : Nat} {bs : List UInt8} {k m k2 : Nat} (h : Next w P0 P1 A n c bs k) :
    Next ((w.drewN m).setCell ⟨P1, 0, none⟩ (.int .i64 (k2 : Int))) P0 P1 A n c bs k2 := by
  have h0 := h.size
  have h1 := h.lt
  have hg := grown_set1 w m P1 0 (.int .i64 (k2 : Int))
  refine ⟨h.lt, Nat.lt_of_lt_of_le h.size hg.size, h.len, h.reads.grown hg (by omega) (fun g hh => by injection hh with hh; omega), ?_, ?_, ?_⟩
  · rw [World.cell?_of_block (w := w) (hg.block P0 (by omega) (fun e => by injection e with e; omega))]; exact h.text
  · exact World.cell?_setCell_same (w.drewN m) ⟨P1, 0, none⟩ _ h.at_
  · have := World.frozen?_setCell (w.drewN m) ⟨P1, 0, none⟩ ⟨P1, 0, none⟩ (.int .i64 (k2 : Int))
    rw [this]; exact h.free
theorem next_any (P0 P1 : Nat) (A : Option Addr) (n c : Nat) (bs : List UInt8) (k : Nat) (w : World) (h : Next w P0 P1 A n c bs k) (hk : k + 2 ≤ n) (hn : n ≤ 1000000) :
    Calls Try.prog 98 #[.pointer (some ⟨P0, 0, none⟩), .pointer (some ⟨P1, 0, none⟩)] w fun e w' => e = .returned (.int .i64 (pairAt bs k)) ∧ Next w' P0 P1 A n c bs (k + 2) ∧ w.grownBy w' (some P1) := by
  have HN := Lib.hid h
  obtain ⟨h1, h0, h2, h3, h4, h5, h6⟩ := h
  have hR : RB w A n bs := ⟨h2, h3.more (by omega)⟩
  obtain ⟨b, off, p, rfl, hb, hp, hcp⟩ := hR.at_ (k := k) (by omega)
  obtain ⟨b', off', q, e, _, hq, hcq⟩ := hR.at_ (k := k + 1) (by omega)
  injection e with e
  injection e with e1 e2
  subst e1; subst e2
  have hp1 := p.toNat_lt
  have hq1 := q.toNat_lt
  have hv : Hid (pairAt bs k = pairI p q) := by rw [Hid, pairAt, getD_of hp, getD_of hq]
  have hfin : ∀ (z : Int) (m : Nat), z = pairI p q → (Ending.returned (.int .i64 z) = Ending.returned (.int .i64 (pairAt bs k))) ∧ Next ((w.drewN m).setCell ⟨P1, 0, none⟩ (.int .i64 ((k : Int) + 2))) P0 P1 (some ⟨b, off, none⟩) n c bs (k + 2) ∧ w.grownBy ((w.drewN m).setCell ⟨P1, 0, none⟩ (.int .i64 ((k : Int) + 2))) (some P1) := by
    intro z m hz
    exact ⟨by rw [hz, hv.out], HN.out.step (m := m) (k2 := k + 2), grown_set1 w m P1 0 _⟩
  have HF := Lib.hid hfin
  clear hfin h3 hR h2
  go_enter Try.func98, Try.ntmps98
  go_wp2
  go_quiet (fail)
  go_wp2
  all_goals go_ret
  all_goals first | exact HF.out _ _ (pairI_no (by omega)) | exact HF.out _ _ (pairI_yes (by omega) rfl)
end Go.Proofs.Ytomolfdcdmncoaa
namespace Go.Proofs.Ytomolfdcdmncoaa
open Go.RowKit Go
set_option linter.unusedVariables false
set_option maxRecDepth 100000
def partsV (t : Tm) : Value := .agg #[.int .i64 (t.y : Int), .int .i64 (t.mo.toNat : Int), .int .i64 (t.d.toNat : Int), .int .i64 (t.h.toNat : Int), .int .i64 (t.mi.toNat : Int), .int .i64 (t.s.toNat : Int)]
def optV (r : Option Tm) : Value := .tuple #[tmV (r.getD Tm.zero), .bool r.isSome]
def rightO (t : Tm) : Option Tm := if rightB t then some t else none
theorem alloc3_2 (w : World) (a b c : Obj) : (((w.alloc a).alloc b).alloc c).heap[w.heap.size + 1 + 1]? = some c := by
  have := heap_alloc_new ((w.alloc a).alloc b) c
  simpa using this
theorem alloc3_1 (w : World) (a b c : Obj) : (((w.alloc a).alloc b).alloc c).heap[w.heap.size + 1]? = some b := by
  rw [heap_alloc_old _ _ (by simp)]
  have := heap_alloc_new (w.alloc a) b
  simpa using this
theorem heap_set_here (w : World) (g j : Nat) (cs : Array Value) (t : TypeId) (fr : Nat × Nat) (u : Value) (hg : w.heap[g]? = some (.cells cs t fr)) : (w.setCell ⟨g, j, none⟩ u).heap[g]? = some (.cells (cs.setIfInBounds j u) t fr) := by
  have hlt := (Array.getElem?_eq_some_iff.1 hg).1
  simp [World.setCell, Array.getElem?_modify, hg]
/-- A moment that is stored whole. -/
theorem heap_set_tm (w : World) (g : Nat) (t t0 : Tm) (hg : w.heap[g]? = some (.cells t0.cells 25)) :
    ((((((w.setCell ⟨g, 0, none⟩ (.int .u16 (t.y : Int))).setCell ⟨g, 1, none⟩ (.int .u8 (t.mo.toNat : Int))).setCell ⟨g, 2, none⟩ (.int .u8 (t.d.toNat : Int))).setCell ⟨g, 3, none⟩ (.int .u8 (t.h.toNat : Int))).setCell ⟨g, 4, none⟩ (.int .u8 (t.mi.toNat : Int))).setCell ⟨g, 5, none⟩ (.int .u8 (t.s.toNat : Int))).heap[g]? = some (.cells t.cells 25) :=
  heap_set_here _ _ _ _ _ _ _ (heap_set_here _ _ _ _ _ _ _ (heap_set_here _ _ _ _ _ _ _ (heap_set_here _ _ _ _ _ _ _ (heap_set_here _ _ _ _ _ _ _ (heap_set_here _ _ _ _ _ _ _ hg)))))
theorem results_tm {fn : Func} {p u : Tmp} (h : fn.results = #[.cell p 25, .tmp u]) (tmps : Array Value) (w : World) (g : Nat) (t : Tm) (hp : tmps.getD p undef = .pointer (some ⟨g, 0, none⟩)) (hg : w.heap[g]? = some (.cells t.cells 25)) :
    (results fn tmps).run Try.prog w = .ok (.tuple #[tmV t, tmps.getD u undef]) w := by
  rw [results_cell_tmp h, hp]
  simp [asAddr, run_loadVar_row w g _ 25 t.cells _ _ hg Try.underlying25 rfl (by kernel_rfl), Result.andThen, tmV]
theorem time_any (t : Tm) (w : World) (hy : t.y < 65536) : Calls Try.prog 97 #[partsV t] w fun e w' => e = .returned (optV (rightO t)) ∧ Below w.heap.size w w' := by
  have R := Lib.hid (fun W => right_any t W hy)
  have HO : ∀ b, rightB t = b → rightO t = if b then some t else none := fun b h => by unfold rightO; rw [h]
  have HO := Lib.hid HO
  have h1 := t.mo.toNat_lt
  have h2 := t.d.toNat_lt
  have h3 := t.h.toNat_lt
  have h4 := t.mi.toNat_lt
  have h5 := t.s.toNat_lt
  unfold partsV
  obtain ⟨y, mo, d, h, mi, s⟩ := t
  simp only at hy h1 h2 h3 h4 h5 ⊢
  cases hb : rightB ⟨y, mo, d, h, mi, s⟩ with
  | true =>
    rw [HO.out _ hb]
    rw [hb] at R
    clear hb HO
    go_enter Try.func97, Try.ntmps97
    go_wp2_with fail
    refine (R.out _).mono ?_
    intro e w3 hw3
    obtain ⟨rfl, hb3⟩ := hw3
    have k2 := (hb3.block (w.heap.size + 1 + 1) (by simp)).trans (alloc3_2 w _ _ _)
    have k1 := (hb3.block (w.heap.size + 1) (by simp)).trans (alloc3_1 w _ _ _)
    have hbw : Below w.heap.size w w3 := ((((Below.refl _ _).alloc (Nat.le_refl _) _).alloc (by simp) _).alloc (by simp; omega) _).trans (hb3.mono (by simp; omega))
    have l0 : w3.cell? ⟨w.heap.size + 1 + 1, 0, none⟩ = some (.int .u16 (y : Int)) := Lib.cell_of_heap k2 0
    have z0 : w3.cell? ⟨w.heap.size + 1, 0, none⟩ = some (.int .u16 0) := Lib.cell_of_heap k1 0
    have f0 : w3.frozen? ⟨w.heap.size + 1, 0, none⟩ = false := Lib.frozen_of_heap k1 0
    have l1 : w3.cell? ⟨w.heap.size + 1 + 1, 1, none⟩ = some (.int .u8 (mo.toNat : Int)) := Lib.cell_of_heap k2 1
    have z1 : w3.cell? ⟨w.heap.size + 1, 1, none⟩ = some (.int .u8 0) := Lib.cell_of_heap k1 1
    have f1 : w3.frozen? ⟨w.heap.size + 1, 1, none⟩ = false := Lib.frozen_of_heap k1 1
    have l2 : w3.cell? ⟨w.heap.size + 1 + 1, 2, none⟩ = some (.int .u8 (d.toNat : Int)) := Lib.cell_of_heap k2 2
    have z2 : w3.cell? ⟨w.heap.size + 1, 2, none⟩ = some (.int .u8 0) := Lib.cell_of_heap k1 2
    have f2 : w3.frozen? ⟨w.heap.size + 1, 2, none⟩ = false := Lib.frozen_of_heap k1 2
    have l3 : w3.cell? ⟨w.heap.size + 1 + 1, 3, none⟩ = some (.int .u8 (h.toNat : Int)) := Lib.cell_of_heap k2 3
    have z3 : w3.cell? ⟨w.heap.size + 1, 3, none⟩ = some (.int .u8 0) := Lib.cell_of_heap k1 3
    have f3 : w3.frozen? ⟨w.heap.size + 1, 3, none⟩ = false := Lib.frozen_of_heap k1 3
    have l4 : w3.cell? ⟨w.heap.size + 1 + 1, 4, none⟩ = some (.int .u8 (mi.toNat : Int)) := Lib.cell_of_heap k2 4
    have z4 : w3.cell? ⟨w.heap.size + 1, 4, none⟩ = some (.int .u8 0) := Lib.cell_of_heap k1 4
    have f4 : w3.frozen? ⟨w.heap.size + 1, 4, none⟩ = false := Lib.frozen_of_heap k1 4
    have l5 : w3.cell? ⟨w.heap.size + 1 + 1, 5, none⟩ = some (.int .u8 (s.toNat : Int)) := Lib.cell_of_heap k2 5
    have z5 : w3.cell? ⟨w.heap.size + 1, 5, none⟩ = some (.int .u8 0) := Lib.cell_of_heap k1 5
    have f5 : w3.frozen? ⟨w.heap.size + 1, 5, none⟩ = false := Lib.frozen_of_heap k1 5
    have K1 := Lib.hid k1
    clear k1 k2
    have hs : ∀ (W : World) (j : Nat) (u : Value), Below w.heap.size w W → Below w.heap.size w (W.setCell ⟨w.heap.size + 1, j, none⟩ u) := fun W j u hW => hW.setCell (by simp) u
    go_wp2
    all_goals refine bodyPost_ret (results_tm rfl _ _ (w.heap.size + 1) ⟨y, mo, d, _, mi, s⟩ rfl (heap_set_tm _ _ ⟨y, mo, d, _, mi, s⟩ Tm.zero K1.out)) rfl ?_
    all_goals exact ⟨rfl, hs _ _ _ (hs _ _ _ (hs _ _ _ (hs _ _ _ (hs _ _ _ (hs _ _ _ hbw)))))⟩
  | false =>
    rw [HO.out _ hb]
    rw [hb] at R
    clear hb HO
    go_enter Try.func97, Try.ntmps97
    go_wp2_with fail
    refine (R.out _).mono ?_
    intro e w3 hw3
    obtain ⟨rfl, hb3⟩ := hw3
    have k2 := (hb3.block (w.heap.size + 1 + 1) (by simp)).trans (alloc3_2 w _ _ _)
    have k1 := (hb3.block (w.heap.size + 1) (by simp)).trans (alloc3_1 w _ _ _)
    have hbw : Below w.heap.size w w3 := ((((Below.refl _ _).alloc (Nat.le_refl _) _).alloc (by simp) _).alloc (by simp; omega) _).trans (hb3.mono (by simp; omega))
    have l0 : w3.cell? ⟨w.heap.size + 1 + 1, 0, none⟩ = some (.int .u16 (y : Int)) := Lib.cell_of_heap k2 0
    have z0 : w3.cell? ⟨w.heap.size + 1, 0, none⟩ = some (.int .u16 0) := Lib.cell_of_heap k1 0
    have f0 : w3.frozen? ⟨w.heap.size + 1, 0, none⟩ = false := Lib.frozen_of_heap k1 0
    have l1 : w3.cell? ⟨w.heap.size + 1 + 1, 1, none⟩ = some (.int .u8 (mo.toNat : Int)) := Lib.cell_of_heap k2 1
    have z1 : w3.cell? ⟨w.heap.size + 1, 1, none⟩ = some (.int .u8 0) := Lib.cell_of_heap k1 1
    have f1 : w3.frozen? ⟨w.heap.size + 1, 1, none⟩ = false := Lib.frozen_of_heap k1 1
    have l2 : w3.cell? ⟨w.heap.size + 1 + 1, 2, none⟩ = some (.int .u8 (d.toNat : Int)) := Lib.cell_of_heap k2 2
    have z2 : w3.cell? ⟨w.heap.size + 1, 2, none⟩ = some (.int .u8 0) := Lib.cell_of_heap k1 2
    have f2 : w3.frozen? ⟨w.heap.size + 1, 2, none⟩ = false := Lib.frozen_of_heap k1 2
    have l3 : w3.cell? ⟨w.heap.size + 1 + 1, 3, none⟩ = some (.int .u8 (h.toNat : Int)) := Lib.cell_of_heap k2 3
    have z3 : w3.cell? ⟨w.heap.size + 1, 3, none⟩ = some (.int .u8 0) := Lib.cell_of_heap k1 3
    have f3 : w3.frozen? ⟨w.heap.size + 1, 3, none⟩ = false := Lib.frozen_of_heap k1 3
    have l4 : w3.cell? ⟨w.heap.size + 1 + 1, 4, none⟩ = some (.int .u8 (mi.toNat : Int)) := Lib.cell_of_heap k2 4
    have z4 : w3.cell? ⟨w.heap.size + 1, 4, none⟩ = some (.int .u8 0) := Lib.cell_of_heap k1 4
    have f4 : w3.frozen? ⟨w.heap.size + 1, 4, none⟩ = false := Lib.frozen_of_heap k1 4
    have l5 : w3.cell? ⟨w.heap.size + 1 + 1, 5, none⟩ = some (.int .u8 (s.toNat : Int)) := Lib.cell_of_heap k2 5
    have z5 : w3.cell? ⟨w.heap.size + 1, 5, none⟩ = some (.int .u8 0) := Lib.cell_of_heap k1 5
    have f5 : w3.frozen? ⟨w.heap.size + 1, 5, none⟩ = false := Lib.frozen_of_heap k1 5
    have K1 := Lib.hid k1
    clear k1 k2
    have hs : ∀ (W : World) (j : Nat) (u : Value), Below w.heap.size w W → Below w.heap.size w (W.setCell ⟨w.heap.size + 1, j, none⟩ u) := fun W j u hW => hW.setCell (by simp) u
    go_wp2
    all_goals refine bodyPost_ret (results_tm rfl _ _ (w.heap.size + 1) Tm.zero rfl (heap_set_tm _ _ Tm.zero Tm.zero K1.out)) rfl ?_
    all_goals exact ⟨rfl, hs _ _ _ (hs _ _ _ (hs _ _ _ (hs _ _ _ (hs _ _ _ (hs _ _ _ hbw)))))⟩
def yearU (v : Int) : Int := if v < 0 then v else if v < 50 then v + 2000 else v + 1900
theorem utcYear_any (P0 P1 : Nat) (A : Option Addr) (n c : Nat) (bs : List UInt8) (w : World) (h : Next w P0 P1 A n c bs 0) (hk : 2 ≤ n) (hn : n ≤ 1000000) :
    Calls Try.prog 93 #[.func (Fn.func 98) #[] #[.pointer (some ⟨P0, 0, none⟩), .pointer (some ⟨P1, 0, none⟩)]] w fun e w' => e = .returned (.int .i64 (yearU (pairAt bs 0))) ∧ Next w' P0 P1 A n c bs 2 ∧ w.grownBy w' (some P1) := by
  have X := Lib.hid (next_any P0 P1 A n c bs 0 w h (by omega) hn)
  have hb := pairI_le (bs.getD 0 0) (bs.getD (0 + 1) 0)
  have hb : -1 ≤ pairAt bs 0 ∧ pairAt bs 0 ≤ 99 := hb
  generalize pairAt bs 0 = v at X hb
  obtain ⟨b1, b2⟩ := hb
  have hfin : ∀ z : Int, z = yearU v → Ending.returned (.int .i64 z) = Ending.returned (.int .i64 (yearU v)) := fun z hz => by rw [hz]
  have HF := Lib.hid hfin
  clear hfin
  go_enter Try.func93, Try.ntmps93
  go_wp2_with fail
  refine X.out.mono ?_
  rintro e w1 ⟨rfl, hN, hg⟩
  go_wp2
  all_goals go_ret
  all_goals (refine ⟨HF.out _ ?_, hN, hg⟩; unfold yearU; repeat' split)
  all_goals omega
def yearG (u v : Int) : Int := if u < 0 ∨ v < 0 then -1 else 100 * u + v
theorem genYear_any (P0 P1 : Nat) (A : Option Addr) (n c : Nat) (bs : List UInt8) (w : World) (h : Next w P0 P1 A n c bs 0) (hk : 4 ≤ n) (hn : n ≤ 1000000) :
    Calls Try.prog 94 #[.func (Fn.func 98) #[] #[.pointer (some ⟨P0, 0, none⟩), .pointer (some ⟨P1, 0, none⟩)]] w fun e w' => e = .returned (.int .i64 (yearG (pairAt bs 0) (pairAt bs 2))) ∧ Next w' P0 P1 A n c bs 4 ∧ w.grownBy w' (some P1) := by
  have X := Lib.hid (next_any P0 P1 A n c bs 0 w h (by omega) hn)
  have Y := Lib.hid (fun W (h : Next W P0 P1 A n c bs 2) => next_any P0 P1 A n c bs 2 W h (by omega) hn)
  have hb : -1 ≤ pairAt bs 0 ∧ pairAt bs 0 ≤ 99 := pairI_le _ _
  have hc : -1 ≤ pairAt bs 2 ∧ pairAt bs 2 ≤ 99 := pairI_le _ _
  generalize pairAt bs 0 = u at X hb
  generalize pairAt bs 2 = v at Y hc
  obtain ⟨b1, b2⟩ := hb
  obtain ⟨c1, c2⟩ := hc
  have hfin : ∀ z : Int, z = yearG u v → Ending.returned (.int .i64 z) = Ending.returned (.int .i64 (yearG u v)) := fun z hz => by rw [hz]
  have HF := Lib.hid hfin
  clear hfin
  go_enter Try.func94, Try.ntmps94
  go_wp2_with fail
  refine X.out.mono ?_
  rintro e w1 ⟨rfl, hN, hg⟩
  go_wp2_with fail
  refine (Y.out w1 hN).mono ?_
  rintro e w2 ⟨rfl, hN2, hg2⟩
  have hgg : Hid (w.grownBy w2 (some P1)) := ⟨hg2.os.trans hg.os, hg2.tape.trans hg.tape, hg2.output.trans hg.output, Nat.le_trans hg.size hg2.size, fun k hk hne => (hg2.block k (Nat.lt_of_lt_of_le hk hg.size) hne).trans (hg.block k hk hne)⟩
  go_wp2
  all_goals go_ret
  all_goals (refine ⟨HF.out _ ?_, hN2, hgg.out⟩; unfold yearG; split)
  all_goals omega
end Go.Proofs.Ytomolfdcdmncoaa
namespace Go.Proofs.Ytomolfdcdmncoaa
open Go.RowKit Go
set_option linter.unusedVariables false
set_option maxRecDepth 100000
theorem pairs_any (A : Option Addr) (n c : Nat) (bs : List UInt8) (w : World) (hR : RB w A n bs) :
    Calls Try.prog 96 #[.slice A n c] w fun e w' => e = .returned (.func (Fn.func 98) #[] #[.pointer (some ⟨w.heap.size, 0, none⟩), .pointer (some ⟨w.heap.size + 1, 0, none⟩)]) ∧ Next w' w.heap.size (w.heap.size + 1) A n c bs 0 ∧ Below w.heap.size w w' ∧ w'.heap.size = w.heap.size + 2 := by
  have hN : Next ((w.alloc (.cells #[.slice A n c] 22)).alloc (.cells #[.int .i64 0] 3)) w.heap.size (w.heap.size + 1) A n c bs 0 := by
    refine ⟨by omega, by simp, hR.1, (hR.2.alloc (Nat.le_refl _) _).alloc (by simp) _, ?_, ?_, ?_⟩
    · simp
    · simp
    · simp
  have hb : Below w.heap.size w ((w.alloc (.cells #[.slice A n c] 22)).alloc (.cells #[.int .i64 0] 3)) := ((Below.refl _ _).alloc (Nat.le_refl _) _).alloc (by simp) _
  have HN := Lib.hid hN
  clear hN hR
  go_enter Try.func96, Try.ntmps96
  go_wp2
  go_ret
  exact ⟨rfl, HN.out, hb, by simp⟩
/-- The moment of a year and five numbers. -/
def tmOf (yv z1 z2 z3 z4 z5 : Int) : Tm := ⟨yv.toNat, UInt8.ofNat z1.toNat, UInt8.ofNat z2.toNat, UInt8.ofNat z3.toNat, UInt8.ofNat z4.toNat, UInt8.ofNat z5.toNat⟩
def numsO (yv z1 z2 z3 z4 z5 : Int) : Option Tm := if 0 ≤ yv ∧ 0 ≤ z1 ∧ 0 ≤ z2 ∧ 0 ≤ z3 ∧ 0 ≤ z4 ∧ 0 ≤ z5 then rightO (tmOf yv z1 z2 z3 z4 z5) else none
theorem byte_back (z : Int) (h0 : 0 ≤ z) (h1 : z ≤ 99) : ((UInt8.ofNat z.toNat).toNat : Int) = z := by
  rw [UInt8.toNat_ofNat']
  omega
theorem tmOf_parts {yv z1 z2 z3 z4 z5 : Int} (h0 : 0 ≤ yv) (h1 : 0 ≤ z1 ∧ z1 ≤ 99) (h2 : 0 ≤ z2 ∧ z2 ≤ 99) (h3 : 0 ≤ z3 ∧ z3 ≤ 99) (h4 : 0 ≤ z4 ∧ z4 ≤ 99) (h5 : 0 ≤ z5 ∧ z5 ≤ 99) :
    partsV (tmOf yv z1 z2 z3 z4 z5) = .agg #[.int .i64 yv, .int .i64 z1, .int .i64 z2, .int .i64 z3, .int .i64 z4, .int .i64 z5] := by
  unfold partsV tmOf
  simp only [byte_back _ h1.1 h1.2, byte_back _ h2.1 h2.2, byte_back _ h3.1 h3.2, byte_back _ h4.1 h4.2, byte_back _ h5.1 h5.2, Int.toNat_of_nonneg h0]
def rowP (yv : Int) (z : Nat → Int) (i : Nat) : Array Value := #[.int .i64 yv, .int .i64 (if 1 < i then z 1 else 0), .int .i64 (if 2 < i then z 2 else 0), .int .i64 (if 3 < i then z 3 else 0), .int .i64 (if 4 < i then z 4 else 0), .int .i64 (if 5 < i then z 5 else 0)]
theorem rowP_set (yv : Int) (z : Nat → Int) (i : Nat) (h1 : 1 ≤ i) (h2 : i < 6) : (rowP yv z i).setIfInBounds i (.int .i64 (z i)) = rowP yv z (i + 1) := by
  have : i = 1 ∨ i = 2 ∨ i = 3 ∨ i = 4 ∨ i = 5 := by omega
  rcases this with rfl | rfl | rfl | rfl | rfl <;> rfl
theorem grown_set0 (w : World) (g j : Nat) (u : Value) : w.grownBy (w.setCell ⟨g, j, none⟩ u) (some g) :=
  ⟨rfl, rfl, rfl, by simp [World.setCell], fun k _ hk => Below.heap_setCell w ⟨g, j, none⟩ u k (fun e => hk (by rw [e]))⟩
theorem read_in (F : Nat) (A : Option Addr) (n c : Nat) (bs : List UInt8) (ky : Nat) (yv : Int) (w : World) (hR : RB w A n bs) (hnk : n = ky + 11) (hn : n ≤ 1000000) (hz : bs[n - 1]? = some 90) (hy1 : -1 ≤ yv) (hy2 : yv ≤ 65535)
    (hC : ∀ (args : Array Value) (w : World), (callFunc F args).run Try.prog w = .ok (.enter F args) w)
    (hY : ∀ W P0 P1, Next W P0 P1 A n c bs 0 → Calls Try.prog F #[.func (Fn.func 98) #[] #[.pointer (some ⟨P0, 0, none⟩), .pointer (some ⟨P1, 0, none⟩)]] W fun e w' => e = .returned (.int .i64 yv) ∧ Next w' P0 P1 A n c bs ky ∧ W.grownBy w' (some P1)) :
    Calls Try.prog 92 #[.slice A n c, .int .i64 (n : Int), .func (Fn.func F) #[] #[]] w fun e w' => e = .returned (optV (numsO yv (pairAt bs ky) (pairAt bs (ky + 2)) (pairAt bs (ky + 4)) (pairAt bs (ky + 6)) (pairAt bs (ky + 8)))) ∧ Below w.heap.size w w' := by
  have PR := Lib.hid (fun W (h : RB W A n bs) => pairs_any A n c bs W h)
  have NX := Lib.hid (fun W P0 P1 k (h : Next W P0 P1 A n c bs k) (h2 : k + 2 ≤ n) => next_any P0 P1 A n c bs k W h h2 hn)
  have HY := Lib.hid hY
  obtain ⟨b, off, q, rfl, hb, hq, hcq⟩ := hR.at_ (k := n - 1) (by omega)
  rw [hz] at hq
  injection hq with hq
  subst hq
  have hcq : w.cell? ⟨b, off + (n - 1), none⟩ = some (.int .u8 90) := hcq
  have hn1 : ky + 11 ≤ n := by omega
  have hn2 : n ≤ ky + 11 := by omega
  have hR0 := Lib.hid hR
  clear hY hz hnk hR
  go_enter Try.func92, Try.ntmps92
  go_wp2_with fail
  refine (PR.out _ (hR0.out.alloc _)).mono ?_
  rintro e w1 ⟨rfl, hN1, hb1, hs1⟩
  have hs1' : w1.heap.size = w.heap.size + 3 := by rw [hs1]; simp
  simp only [World.size_alloc] at hN1
  have hbw1 : Below w.heap.size w w1 := ((Below.refl _ _).alloc (Nat.le_refl _) _).trans (hb1.mono (by simp))
  have hz0 : Hid (w1.heap[w.heap.size]? = some (.cells Tm.zero.cells 25)) := (hb1.block w.heap.size (by simp)).trans (heap_alloc_new w _)
  go_wp2_with fail
  refine (HY.out w1 _ _ hN1).mono ?_
  rintro e w2 ⟨rfl, hN2, hg2⟩
  obtain ⟨PB, hPB⟩ : ∃ PB, PB = w2.heap.size := ⟨_, rfl⟩
  have HPB := Lib.hid hPB
  have hsz2 : w.heap.size + 3 ≤ w2.heap.size := by have := hg2.size; omega
  have hbw2 : Below w.heap.size w w2 := hbw1.grown hg2 (by omega) (fun k hk => by injection hk with hk; omega)
  have hz2 : Hid (w2.heap[w.heap.size]? = some (.cells Tm.zero.cells 25)) := by
    rw [Hid, hg2.block w.heap.size (by omega) (fun e => by injection e with e; omega)]; exact hz0.out
  clear hN1 hg2 hb1
  go_wp2
  rw [← hPB]
  clear hPB
  go_loopw [10] (fun x wr => ∃ i : Nat, 1 ≤ i ∧ i ≤ 6 ∧ x = .int .i64 i ∧ Hid (wr.heap[PB]? = some (.cells (rowP yv (fun j => pairAt bs (ky + 2 * (j - 1))) i) 135)) ∧ Next wr (w.heap.size + 1) (w.heap.size + 1 + 1) (some ⟨b, off, none⟩) n c bs (ky + 2 * (i - 1)) ∧ Hid (wr.heap[w.heap.size]? = some (.cells Tm.zero.cells 25)) ∧ Below w.heap.size w wr) (fun x _ => 6 - (intOf x).toNat)
  case atStart =>
    refine ⟨1, by omega, by omega, rfl, ?_, ?_, ?_, hbw2.alloc hbw2.size _⟩
    · rw [Hid, HPB.out]; exact heap_alloc_new w2 _
    · exact hN2.grown (grown_of_below (B := w2.heap.size) ((Below.refl _ _).alloc (Nat.le_refl _) _) (Nat.le_refl _) none) (fun g h => by cases h)
    · rw [Hid, heap_alloc_old _ _ (by omega)]; exact hz2.out
  case round =>
    obtain ⟨i, hi1, hi6, rfl, hrow, hN, hzr, hbl⟩ := hrel
    have hPlt := (Array.getElem?_eq_some_iff.1 hrow.out).1
    have hP3 : w.heap.size + 3 ≤ PB := by have := HPB.out; omega
    by_cases hlt : i < 6
    · go_wp2_with fail
      refine (NX.out wr _ _ _ hN (by omega)).mono ?_
      rintro e w3 ⟨rfl, hN3, hg3⟩
      have hrow3 : Hid (w3.heap[PB]? = some (.cells (rowP yv (fun j => pairAt bs (ky + 2 * (j - 1))) i) 135)) := by
        rw [Hid, hg3.block PB hPlt (fun e => by injection e with e; omega)]; exact hrow.out
      have hzr3 : Hid (w3.heap[w.heap.size]? = some (.cells Tm.zero.cells 25)) := by
        rw [Hid, hg3.block w.heap.size (by omega) (fun e => by injection e with e; omega)]; exact hzr.out
      have hbl3 : Below w.heap.size w w3 := hbl.grown hg3 hbl.size (fun k hk => by injection hk with hk; omega)
      obtain ⟨old, hold⟩ : ∃ v, w3.cell? ⟨PB, i, none⟩ = some v := ⟨_, (Lib.cell_of_heap hrow3.out i).trans (Array.getElem?_eq_getElem (show i < 6 from hlt))⟩
      have hfz : w3.frozen? ⟨PB, i, none⟩ = false := Lib.frozen_of_heap hrow3.out i
      clear hN hrow hg3 hzr hPlt
      go_wp2
      go_roundw
      case rel =>
        refine ⟨i + 1, by omega, by omega, by go_num, ?_, ?_, ?_, hbl3.setCell (by show _ ≤ PB; omega) _⟩
        · rw [Hid, heap_set_here _ _ _ _ _ _ _ hrow3.out, rowP_set yv (fun j => pairAt bs (ky + 2 * (j - 1))) i hi1 hlt]
        · have := hN3.grown (grown_set0 w3 PB i (.int .i64 (pairAt bs (ky + 2 * (i - 1))))) (fun g h => by injection h with h; omega)
          rwa [show ky + 2 * (i - 1) + 2 = ky + 2 * (i + 1 - 1) by omega] at this
        · rw [Hid, Below.heap_setCell _ _ _ _ (by show w.heap.size ≠ PB; omega)]; exact hzr3.out
      case measure => simp [intOf]; omega
    · obtain rfl : i = 6 := by omega
      have p0 : wr.cell? ⟨PB, 0, none⟩ = some (.int .i64 yv) := Lib.cell_of_heap hrow.out 0
      have p1 : wr.cell? ⟨PB, 1, none⟩ = some (.int .i64 (pairAt bs ky)) := Lib.cell_of_heap hrow.out 1
      have p2 : wr.cell? ⟨PB, 2, none⟩ = some (.int .i64 (pairAt bs (ky + 2))) := Lib.cell_of_heap hrow.out 2
      have p3 : wr.cell? ⟨PB, 3, none⟩ = some (.int .i64 (pairAt bs (ky + 4))) := Lib.cell_of_heap hrow.out 3
      have p4 : wr.cell? ⟨PB, 4, none⟩ = some (.int .i64 (pairAt bs (ky + 6))) := Lib.cell_of_heap hrow.out 4
      have p5 : wr.cell? ⟨PB, 5, none⟩ = some (.int .i64 (pairAt bs (ky + 8))) := Lib.cell_of_heap hrow.out 5
      have b1 : -1 ≤ pairAt bs ky ∧ pairAt bs ky ≤ 99 := pairI_le _ _
      have b2 : -1 ≤ pairAt bs (ky + 2) ∧ pairAt bs (ky + 2) ≤ 99 := pairI_le _ _
      have b3 : -1 ≤ pairAt bs (ky + 4) ∧ pairAt bs (ky + 4) ≤ 99 := pairI_le _ _
      have b4 : -1 ≤ pairAt bs (ky + 6) ∧ pairAt bs (ky + 6) ≤ 99 := pairI_le _ _
      have b5 : -1 ≤ pairAt bs (ky + 8) ∧ pairAt bs (ky + 8) ≤ 99 := pairI_le _ _
      clear hN hrow HY NX PR
      obtain ⟨z1, hz1⟩ : ∃ z, z = pairAt bs ky := ⟨_, rfl⟩
      rw [← hz1] at p1 b1
      obtain ⟨z2, hz2⟩ : ∃ z, z = pairAt bs (ky + 2) := ⟨_, rfl⟩
      rw [← hz2] at p2 b2
      obtain ⟨z3, hz3⟩ : ∃ z, z = pairAt bs (ky + 4) := ⟨_, rfl⟩
      rw [← hz3] at p3 b3
      obtain ⟨z4, hz4⟩ : ∃ z, z = pairAt bs (ky + 6) := ⟨_, rfl⟩
      rw [← hz4] at p4 b4
      obtain ⟨z5, hz5⟩ : ∃ z, z = pairAt bs (ky + 8) := ⟨_, rfl⟩
      rw [← hz5] at p5 b5
      have HV : Hid (∀ o : Option Tm, numsO yv z1 z2 z3 z4 z5 = o → Ending.returned (optV o) = Ending.returned (optV (numsO yv (pairAt bs ky) (pairAt bs (ky + 2)) (pairAt bs (ky + 4)) (pairAt bs (ky + 6)) (pairAt bs (ky + 8))))) := by
        intro o ho
        rw [← hz1, ← hz2, ← hz3, ← hz4, ← hz5, ho]
      have hno : ¬ (0 ≤ yv ∧ 0 ≤ z1 ∧ 0 ≤ z2 ∧ 0 ≤ z3 ∧ 0 ≤ z4 ∧ 0 ≤ z5) → numsO yv z1 z2 z3 z4 z5 = none := fun h => if_neg h
      have HNO := Lib.hid hno
      have hyes : (0 ≤ yv ∧ 0 ≤ z1 ∧ 0 ≤ z2 ∧ 0 ≤ z3 ∧ 0 ≤ z4 ∧ 0 ≤ z5) → numsO yv z1 z2 z3 z4 z5 = rightO (tmOf yv z1 z2 z3 z4 z5) := fun h => if_pos h
      have HYES := Lib.hid hyes
      clear hno hyes hz1 hz2 hz3 hz4 hz5
      have hs : ∀ (W : World) (j : Nat) (u : Value), Below w.heap.size w W → Below w.heap.size w (W.setCell ⟨w.heap.size, j, none⟩ u) := fun W j u hW => hW.setCell (Nat.le_refl _) u
      have HS := Lib.hid hs
      clear hs
      have q0 : wr.cell? ⟨w.heap.size, 0, none⟩ = some (.int .u16 0) := Lib.cell_of_heap hzr.out 0
      have q1 : wr.cell? ⟨w.heap.size, 1, none⟩ = some (.int .u8 0) := Lib.cell_of_heap hzr.out 1
      have q2 : wr.cell? ⟨w.heap.size, 2, none⟩ = some (.int .u8 0) := Lib.cell_of_heap hzr.out 2
      have q3 : wr.cell? ⟨w.heap.size, 3, none⟩ = some (.int .u8 0) := Lib.cell_of_heap hzr.out 3
      have q4 : wr.cell? ⟨w.heap.size, 4, none⟩ = some (.int .u8 0) := Lib.cell_of_heap hzr.out 4
      have q5 : wr.cell? ⟨w.heap.size, 5, none⟩ = some (.int .u8 0) := Lib.cell_of_heap hzr.out 5
      have f0 : wr.frozen? ⟨w.heap.size, 0, none⟩ = false := Lib.frozen_of_heap hzr.out 0
      have f1 : wr.frozen? ⟨w.heap.size, 1, none⟩ = false := Lib.frozen_of_heap hzr.out 1
      have f2 : wr.frozen? ⟨w.heap.size, 2, none⟩ = false := Lib.frozen_of_heap hzr.out 2
      have f3 : wr.frozen? ⟨w.heap.size, 3, none⟩ = false := Lib.frozen_of_heap hzr.out 3
      have f4 : wr.frozen? ⟨w.heap.size, 4, none⟩ = false := Lib.frozen_of_heap hzr.out 4
      have f5 : wr.frozen? ⟨w.heap.size, 5, none⟩ = false := Lib.frozen_of_heap hzr.out 5
      go_wp2
      have x0 : ∀ w, (Instr.index 135 (.agg #[.int .i64 yv, .int .i64 z1, .int .i64 z2, .int .i64 z3, .int .i64 z4, .int .i64 z5]) (.int .i64 0)).run Try.prog w = .ok (.int .i64 yv) w := fun _ => by kernel_rfl
      have x1 : ∀ w, (Instr.index 135 (.agg #[.int .i64 yv, .int .i64 z1, .int .i64 z2, .int .i64 z3, .int .i64 z4, .int .i64 z5]) (.int .i64 1)).run Try.prog w = .ok (.int .i64 z1) w := fun _ => by kernel_rfl
      have x2 : ∀ w, (Instr.index 135 (.agg #[.int .i64 yv, .int .i64 z1, .int .i64 z2, .int .i64 z3, .int .i64 z4, .int .i64 z5]) (.int .i64 2)).run Try.prog w = .ok (.int .i64 z2) w := fun _ => by kernel_rfl
      have x3 : ∀ w, (Instr.index 135 (.agg #[.int .i64 yv, .int .i64 z1, .int .i64 z2, .int .i64 z3, .int .i64 z4, .int .i64 z5]) (.int .i64 3)).run Try.prog w = .ok (.int .i64 z3) w := fun _ => by kernel_rfl
      have x4 : ∀ w, (Instr.index 135 (.agg #[.int .i64 yv, .int .i64 z1, .int .i64 z2, .int .i64 z3, .int .i64 z4, .int .i64 z5]) (.int .i64 4)).run Try.prog w = .ok (.int .i64 z4) w := fun _ => by kernel_rfl
      have x5 : ∀ w, (Instr.index 135 (.agg #[.int .i64 yv, .int .i64 z1, .int .i64 z2, .int .i64 z3, .int .i64 z4, .int .i64 z5]) (.int .i64 5)).run Try.prog w = .ok (.int .i64 z5) w := fun _ => by kernel_rfl
      go_loop [41] (fun v => ∃ i : Nat, i ≤ 6 ∧ v = .int .i64 i ∧ (0 < i → 0 ≤ yv) ∧ (1 < i → 0 ≤ z1) ∧ (2 < i → 0 ≤ z2) ∧ (3 < i → 0 ≤ z3) ∧ (4 < i → 0 ≤ z4) ∧ (5 < i → 0 ≤ z5)) (fun v => 6 - (intOf v).toNat)
      case atStart => exact ⟨0, by omega, rfl, by omega, by omega, by omega, by omega, by omega, by omega⟩
      case round =>
        obtain ⟨i, hi, rfl, a0, a1, a2, a3, a4, a5⟩ := hrel
        have hi' : i = 0 ∨ i = 1 ∨ i = 2 ∨ i = 3 ∨ i = 4 ∨ i = 5 ∨ i = 6 := by omega
        rcases hi' with rfl | rfl | rfl | rfl | rfl | rfl | rfl
        · by_cases hneg : yv < 0
          · go_wp2
            refine bodyPost_ret (results_tm rfl _ _ w.heap.size Tm.zero rfl (heap_set_tm _ _ Tm.zero Tm.zero hzr.out)) rfl ?_
            exact ⟨HV.out none (HNO.out (by omega)), HS.out _ _ _ (HS.out _ _ _ (HS.out _ _ _ (HS.out _ _ _ (HS.out _ _ _ (HS.out _ _ _ hbl)))))⟩
          · go_wp2
            go_round
            case rel => exact ⟨1, by omega, rfl, by omega, by omega, by omega, by omega, by omega, by omega⟩
            case measure => simp [intOf]
        · by_cases hneg : z1 < 0
          · go_wp2
            refine bodyPost_ret (results_tm rfl _ _ w.heap.size Tm.zero rfl (heap_set_tm _ _ Tm.zero Tm.zero hzr.out)) rfl ?_
            exact ⟨HV.out none (HNO.out (by omega)), HS.out _ _ _ (HS.out _ _ _ (HS.out _ _ _ (HS.out _ _ _ (HS.out _ _ _ (HS.out _ _ _ hbl)))))⟩
          · go_wp2
            go_round
            case rel => exact ⟨2, by omega, rfl, by omega, by omega, by omega, by omega, by omega, by omega⟩
            case measure => simp [intOf]
        · by_cases hneg : z2 < 0
          · go_wp2
            refine bodyPost_ret (results_tm rfl _ _ w.heap.size Tm.zero rfl (heap_set_tm _ _ Tm.zero Tm.zero hzr.out)) rfl ?_
            exact ⟨HV.out none (HNO.out (by omega)), HS.out _ _ _ (HS.out _ _ _ (HS.out _ _ _ (HS.out _ _ _ (HS.out _ _ _ (HS.out _ _ _ hbl)))))⟩
          · go_wp2
            go_round
            case rel => exact ⟨3, by omega, rfl, by omega, by omega, by omega, by omega, by omega, by omega⟩
            case measure => simp [intOf]
        · by_cases hneg : z3 < 0
          · go_wp2
            refine bodyPost_ret (results_tm rfl _ _ w.heap.size Tm.zero rfl (heap_set_tm _ _ Tm.zero Tm.zero hzr.out)) rfl ?_
            exact ⟨HV.out none (HNO.out (by omega)), HS.out _ _ _ (HS.out _ _ _ (HS.out _ _ _ (HS.out _ _ _ (HS.out _ _ _ (HS.out _ _ _ hbl)))))⟩
          · go_wp2
            go_round
            case rel => exact ⟨4, by omega, rfl, by omega, by omega, by omega, by omega, by omega, by omega⟩
            case measure => simp [intOf]
        · by_cases hneg : z4 < 0
          · go_wp2
            refine bodyPost_ret (results_tm rfl _ _ w.heap.size Tm.zero rfl (heap_set_tm _ _ Tm.zero Tm.zero hzr.out)) rfl ?_
            exact ⟨HV.out none (HNO.out (by omega)), HS.out _ _ _ (HS.out _ _ _ (HS.out _ _ _ (HS.out _ _ _ (HS.out _ _ _ (HS.out _ _ _ hbl)))))⟩
          · go_wp2
            go_round
            case rel => exact ⟨5, by omega, rfl, by omega, by omega, by omega, by omega, by omega, by omega⟩
            case measure => simp [intOf]
        · by_cases hneg : z5 < 0
          · go_wp2
            refine bodyPost_ret (results_tm rfl _ _ w.heap.size Tm.zero rfl (heap_set_tm _ _ Tm.zero Tm.zero hzr.out)) rfl ?_
            exact ⟨HV.out none (HNO.out (by omega)), HS.out _ _ _ (HS.out _ _ _ (HS.out _ _ _ (HS.out _ _ _ (HS.out _ _ _ (HS.out _ _ _ hbl)))))⟩
          · go_wp2
            go_round
            case rel => exact ⟨6, by omega, rfl, by omega, by omega, by omega, by omega, by omega, by omega⟩
            case measure => simp [intOf]
        · have hT := tmOf_parts (yv := yv) (z1 := z1) (z2 := z2) (z3 := z3) (z4 := z4) (z5 := z5) (a0 (by omega)) ⟨a1 (by omega), b1.2⟩ ⟨a2 (by omega), b2.2⟩ ⟨a3 (by omega), b3.2⟩ ⟨a4 (by omega), b4.2⟩ ⟨a5 (by omega), b5.2⟩
          have hTy : (tmOf yv z1 z2 z3 z4 z5).y < 65536 := by show yv.toNat < 65536; omega
          have hV2 := HYES.out ⟨a0 (by omega), a1 (by omega), a2 (by omega), a3 (by omega), a4 (by omega), a5 (by omega)⟩
          generalize tmOf yv z1 z2 z3 z4 z5 = T at hT hTy hV2
          have TM := time_any T wr hTy
          rw [hT] at TM
          have hO : optV (rightO T) = .tuple #[tmV ((rightO T).getD Tm.zero), .bool (rightO T).isSome] := rfl
          have HV3 := HV.out _ hV2
          rw [hO] at TM HV3
          generalize (rightO T).getD Tm.zero = U at TM HV3
          generalize (rightO T).isSome = bb at TM HV3
          obtain ⟨y, mo, d, h', mi, s'⟩ := U
          have TM2 : Hid (Calls Try.prog 97 #[.agg #[.int .i64 yv, .int .i64 z1, .int .i64 z2, .int .i64 z3, .int .i64 z4, .int .i64 z5]] wr fun e w' => e = .returned (.tuple #[.agg #[.int .u16 (y : Int), .int .u8 (mo.toNat : Int), .int .u8 (d.toNat : Int), .int .u8 (h'.toNat : Int), .int .u8 (mi.toNat : Int), .int .u8 (s'.toNat : Int)], .bool bb]) ∧ Below wr.heap.size wr w') := TM
          have HV4 := Lib.hid HV3
          clear hT hTy hV2 HYES HNO HV x0 x1 x2 x3 x4 x5 hO HV3 TM
          go_wp2_with fail
          refine TM2.out.mono ?_
          rintro e w4 ⟨rfl, hb4⟩
          have hsz4 := hbl.size
          have hzr4 : Hid (w4.heap[w.heap.size]? = some (.cells Tm.zero.cells 25)) := by
            rw [Hid, hb4.block w.heap.size (by have := (Array.getElem?_eq_some_iff.1 hzr.out).1; exact this)]; exact hzr.out
          have hbl4 : Below w.heap.size w w4 := hbl.trans (hb4.mono hsz4)
          clear q0 q1 q2 q3 q4 q5 f0 f1 f2 f3 f4 f5
          have q0 : w4.cell? ⟨w.heap.size, 0, none⟩ = some (.int .u16 0) := Lib.cell_of_heap hzr4.out 0
          have f0 : w4.frozen? ⟨w.heap.size, 0, none⟩ = false := Lib.frozen_of_heap hzr4.out 0
          have q1 : w4.cell? ⟨w.heap.size, 1, none⟩ = some (.int .u8 0) := Lib.cell_of_heap hzr4.out 1
          have f1 : w4.frozen? ⟨w.heap.size, 1, none⟩ = false := Lib.frozen_of_heap hzr4.out 1
          have q2 : w4.cell? ⟨w.heap.size, 2, none⟩ = some (.int .u8 0) := Lib.cell_of_heap hzr4.out 2
          have f2 : w4.frozen? ⟨w.heap.size, 2, none⟩ = false := Lib.frozen_of_heap hzr4.out 2
          have q3 : w4.cell? ⟨w.heap.size, 3, none⟩ = some (.int .u8 0) := Lib.cell_of_heap hzr4.out 3
          have f3 : w4.frozen? ⟨w.heap.size, 3, none⟩ = false := Lib.frozen_of_heap hzr4.out 3
          have q4 : w4.cell? ⟨w.heap.size, 4, none⟩ = some (.int .u8 0) := Lib.cell_of_heap hzr4.out 4
          have f4 : w4.frozen? ⟨w.heap.size, 4, none⟩ = false := Lib.frozen_of_heap hzr4.out 4
          have q5 : w4.cell? ⟨w.heap.size, 5, none⟩ = some (.int .u8 0) := Lib.cell_of_heap hzr4.out 5
          have f5 : w4.frozen? ⟨w.heap.size, 5, none⟩ = false := Lib.frozen_of_heap hzr4.out 5
          go_wp2
          refine bodyPost_ret (results_tm rfl _ _ w.heap.size ⟨y, mo, d, h', mi, s'⟩ rfl (heap_set_tm _ _ ⟨y, mo, d, h', mi, s'⟩ Tm.zero hzr4.out)) rfl ?_
          exact ⟨HV4.out, HS.out _ _ _ (HS.out _ _ _ (HS.out _ _ _ (HS.out _ _ _ (HS.out _ _ _ (HS.out _ _ _ hbl4)))))⟩
theorem read_out (F : Value) (A : Option Addr) (n c : Nat) (bs : List UInt8) (len : Nat) (w : World) (hR : RB w A n bs) (hn : n ≤ 1000000) (hl : 1 ≤ len ∧ len ≤ 1000000) (hno : n ≠ len ∨ ∃ q, bs[len - 1]? = some q ∧ q ≠ 90) :
    Calls Try.prog 92 #[.slice A n c, .int .i64 (len : Int), F] w fun e w' => e = .returned (optV none) ∧ Below w.heap.size w w' := by
  have hs : ∀ (W : World) (j : Nat) (u : Value), Below w.heap.size w W → Below w.heap.size w (W.setCell ⟨w.heap.size, j, none⟩ u) := fun W j u hW => hW.setCell (Nat.le_refl _) u
  have HS := Lib.hid hs
  have hb0 : ∀ cs, Below w.heap.size w (w.alloc (.cells cs 25)) := fun cs => (Below.refl _ _).alloc (Nat.le_refl _) _
  clear hs
  obtain ⟨l1, l2⟩ := hl
  by_cases hne : n = len
  · subst hne
    obtain ⟨q, hq, hq9⟩ := hno.resolve_left (by simp)
    obtain ⟨b, off, q', rfl, hb, hq', hcq⟩ := hR.at_ (k := n - 1) (by omega)
    rw [hq] at hq'
    injection hq' with hq'
    subst hq'
    have hz : ((q.toNat : Int) == 90) = false := beq_eq_false_iff_ne.2 (fun e => hq9 (UInt8.toNat_inj.1 (by show q.toNat = 90; omega)))
    clear hno hq hq9
    go_enter Try.func92, Try.ntmps92
    go_wp2
    refine bodyPost_ret (results_tm rfl _ _ w.heap.size Tm.zero rfl (heap_alloc_new w _)) rfl ?_
    exact ⟨rfl, hb0 _⟩
  · have hz : ((n : Int) == (len : Int)) = false := beq_eq_false_iff_ne.2 (by omega)
    clear hno
    go_enter Try.func92, Try.ntmps92
    go_wp2
    refine bodyPost_ret (results_tm rfl _ _ w.heap.size Tm.zero rfl (heap_alloc_new w _)) rfl ?_
    exact ⟨rfl, hb0 _⟩
end Go.Proofs.Ytomolfdcdmncoaa
namespace Go.Proofs.Ytomolfdcdmncoaa
open Go.RowKit Go
set_option linter.unusedVariables false
set_option maxRecDepth 100000
def utcO (bs : List UInt8) : Option Tm := if bs.length = 13 ∧ bs[12]? = some 90 then numsO (yearU (pairAt bs 0)) (pairAt bs 2) (pairAt bs 4) (pairAt bs 6) (pairAt bs 8) (pairAt bs 10) else none
def genO (bs : List UInt8) : Option Tm := if bs.length = 15 ∧ bs[14]? = some 90 then numsO (yearG (pairAt bs 0) (pairAt bs 2)) (pairAt bs 4) (pairAt bs 6) (pairAt bs 8) (pairAt bs 10) (pairAt bs 12) else none
theorem yearU_le (p q : UInt8) : -1 ≤ yearU (pairI p q) ∧ yearU (pairI p q) ≤ 65535 := by
  have := pairI_le p q
  unfold yearU
  repeat' split
  all_goals omega
theorem yearG_le (p q p' q' : UInt8) : -1 ≤ yearG (pairI p q) (pairI p' q') ∧ yearG (pairI p q) (pairI p' q') ≤ 65535 := by
  have h1 := pairI_le p q
  have h2 := pairI_le p' q'
  unfold yearG
  split
  all_goals omega
theorem utcRead (A : Option Addr) (n c : Nat) (bs : List UInt8) (w : World) (hR : RB w A n bs) (hn : n ≤ 1000000) :
    Calls Try.prog 92 #[.slice A n c, .int .i64 13, .func (Fn.func 93) #[] #[]] w fun e w' => e = .returned (optV (utcO bs)) ∧ Below w.heap.size w w' := by
  by_cases h : n = 13 ∧ bs[12]? = some 90
  · have e : utcO bs = numsO (yearU (pairAt bs 0)) (pairAt bs 2) (pairAt bs 4) (pairAt bs 6) (pairAt bs 8) (pairAt bs 10) := if_pos ⟨hR.1.trans h.1, h.2⟩
    rw [e]
    obtain ⟨rfl, hz⟩ := h
    exact read_in 93 A 13 c bs 2 (yearU (pairAt bs 0)) w hR rfl hn hz (yearU_le _ _).1 (yearU_le _ _).2 (fun _ _ => by kernel_rfl) (fun W P0 P1 hN => utcYear_any P0 P1 A 13 c bs W hN (by omega) hn)
  · have e : utcO bs = none := if_neg (fun hh => h ⟨hR.1.symm.trans hh.1, hh.2⟩)
    rw [e]
    refine read_out _ A n c bs 13 w hR hn (by omega) ?_
    by_cases h1 : n = 13
    · right
      refine ⟨bs[12]'(by rw [hR.1]; omega), List.getElem?_eq_getElem _, fun e9 => h ⟨h1, ?_⟩⟩
      rw [List.getElem?_eq_getElem (by rw [hR.1]; omega), e9]
    · exact .inl h1
theorem utc_any (A : Option Addr) (n c : Nat) (bs : List UInt8) (w : World) (hR : RB w A n bs) (hn : n ≤ 1000000) :
    Calls Try.prog 84 #[.slice A n c] w fun e w' => e = .returned (optV (utcO bs)) ∧ Below w.heap.size w w' := by
  have RD := utcRead A n c bs (w.alloc (.cells Tm.zero.cells 25)) (hR.alloc _) hn
  have hO : optV (utcO bs) = .tuple #[tmV ((utcO bs).getD Tm.zero), .bool (utcO bs).isSome] := rfl
  rw [hO] at RD ⊢
  generalize (utcO bs).getD Tm.zero = U at RD ⊢
  generalize (utcO bs).isSome = bb at RD ⊢
  obtain ⟨y, mo, d, h', mi, s'⟩ := U
  have RD2 : Hid (Calls Try.prog 92 #[.slice A n c, .int .i64 13, .func (Fn.func 93) #[] #[]] (w.alloc (.cells #[.int .u16 0, .int .u8 0, .int .u8 0, .int .u8 0, .int .u8 0, .int .u8 0] 25)) fun e w' => e = .returned (.tuple #[.agg #[.int .u16 (y : Int), .int .u8 (mo.toNat : Int), .int .u8 (d.toNat : Int), .int .u8 (h'.toNat : Int), .int .u8 (mi.toNat : Int), .int .u8 (s'.toNat : Int)], .bool bb]) ∧ Below (w.heap.size + 1) (w.alloc (.cells #[.int .u16 0, .int .u8 0, .int .u8 0, .int .u8 0, .int .u8 0, .int .u8 0] 25)) w') := RD.mono fun _ _ hh => ⟨hh.1, by have h3 := hh.2; rw [World.size_alloc] at h3; exact h3⟩
  have hs : ∀ (W : World) (j : Nat) (u : Value), Below w.heap.size w W → Below w.heap.size w (W.setCell ⟨w.heap.size, j, none⟩ u) := fun W j u hW => hW.setCell (Nat.le_refl _) u
  have HS := Lib.hid hs
  have hb0 : ∀ cs, Below w.heap.size w (w.alloc (.cells cs 25)) := fun cs => (Below.refl _ _).alloc (Nat.le_refl _) _
  clear hO RD hs hR
  go_enter Try.func84, Try.ntmps84
  go_wp2_with fail
  refine RD2.out.mono ?_
  rintro e w4 ⟨rfl, hb4⟩
  have hzr4 : Hid (w4.heap[w.heap.size]? = some (.cells Tm.zero.cells 25)) := by
    rw [Hid, hb4.block w.heap.size (by omega)]; exact heap_alloc_new w _
  have hbl4 : Below w.heap.size w w4 := (hb0 _).trans (hb4.mono (by omega))
  have q0 : w4.cell? ⟨w.heap.size, 0, none⟩ = some (.int .u16 0) := Lib.cell_of_heap hzr4.out 0
  have f0 : w4.frozen? ⟨w.heap.size, 0, none⟩ = false := Lib.frozen_of_heap hzr4.out 0
  have q1 : w4.cell? ⟨w.heap.size, 1, none⟩ = some (.int .u8 0) := Lib.cell_of_heap hzr4.out 1
  have f1 : w4.frozen? ⟨w.heap.size, 1, none⟩ = false := Lib.frozen_of_heap hzr4.out 1
  have q2 : w4.cell? ⟨w.heap.size, 2, none⟩ = some (.int .u8 0) := Lib.cell_of_heap hzr4.out 2
  have f2 : w4.frozen? ⟨w.heap.size, 2, none⟩ = false := Lib.frozen_of_heap hzr4.out 2
  have q3 : w4.cell? ⟨w.heap.size, 3, none⟩ = some (.int .u8 0) := Lib.cell_of_heap hzr4.out 3
  have f3 : w4.frozen? ⟨w.heap.size, 3, none⟩ = false := Lib.frozen_of_heap hzr4.out 3
  have q4 : w4.cell? ⟨w.heap.size, 4, none⟩ = some (.int .u8 0) := Lib.cell_of_heap hzr4.out 4
  have f4 : w4.frozen? ⟨w.heap.size, 4, none⟩ = false := Lib.frozen_of_heap hzr4.out 4
  have q5 : w4.cell? ⟨w.heap.size, 5, none⟩ = some (.int .u8 0) := Lib.cell_of_heap hzr4.out 5
  have f5 : w4.frozen? ⟨w.heap.size, 5, none⟩ = false := Lib.frozen_of_heap hzr4.out 5
  go_wp2
  refine bodyPost_ret (results_tm rfl _ _ w.heap.size ⟨y, mo, d, h', mi, s'⟩ rfl (heap_set_tm _ _ ⟨y, mo, d, h', mi, s'⟩ Tm.zero hzr4.out)) rfl ?_
  exact ⟨rfl, HS.out _ _ _ (HS.out _ _ _ (HS.out _ _ _ (HS.out _ _ _ (HS.out _ _ _ (HS.out _ _ _ hbl4)))))⟩
theorem genRead (A : Option Addr) (n c : Nat) (bs : List UInt8) (w : World) (hR : RB w A n bs) (hn : n ≤ 1000000) :
    Calls Try.prog 92 #[.slice A n c, .int .i64 15, .func (Fn.func 94) #[] #[]] w fun e w' => e = .returned (optV (genO bs)) ∧ Below w.heap.size w w' := by
  by_cases h : n = 15 ∧ bs[14]? = some 90
  · have e : genO bs = numsO (yearG (pairAt bs 0) (pairAt bs 2)) (pairAt bs 4) (pairAt bs 6) (pairAt bs 8) (pairAt bs 10) (pairAt bs 12) := if_pos ⟨hR.1.trans h.1, h.2⟩
    rw [e]
    obtain ⟨rfl, hz⟩ := h
    exact read_in 94 A 15 c bs 4 (yearG (pairAt bs 0) (pairAt bs 2)) w hR rfl hn hz (yearG_le _ _ _ _).1 (yearG_le _ _ _ _).2 (fun _ _ => by kernel_rfl) (fun W P0 P1 hN => genYear_any P0 P1 A 15 c bs W hN (by omega) hn)
  · have e : genO bs = none := if_neg (fun hh => h ⟨hR.1.symm.trans hh.1, hh.2⟩)
    rw [e]
    refine read_out _ A n c bs 15 w hR hn (by omega) ?_
    by_cases h1 : n = 15
    · right
      refine ⟨bs[14]'(by rw [hR.1]; omega), List.getElem?_eq_getElem _, fun e9 => h ⟨h1, ?_⟩⟩
      rw [List.getElem?_eq_getElem (by rw [hR.1]; omega), e9]
    · exact .inl h1
theorem gen_any (A : Option Addr) (n c : Nat) (bs : List UInt8) (w : World) (hR : RB w A n bs) (hn : n ≤ 1000000) :
    Calls Try.prog 85 #[.slice A n c] w fun e w' => e = .returned (optV (genO bs)) ∧ Below w.heap.size w w' := by
  have RD := genRead A n c bs (w.alloc (.cells Tm.zero.cells 25)) (hR.alloc _) hn
  have hO : optV (genO bs) = .tuple #[tmV ((genO bs).getD Tm.zero), .bool (genO bs).isSome] := rfl
  rw [hO] at RD ⊢
  generalize (genO bs).getD Tm.zero = U at RD ⊢
  generalize (genO bs).isSome = bb at RD ⊢
  obtain ⟨y, mo, d, h', mi, s'⟩ := U
  have RD2 : Hid (Calls Try.prog 92 #[.slice A n c, .int .i64 15, .func (Fn.func 94) #[] #[]] (w.alloc (.cells #[.int .u16 0, .int .u8 0, .int .u8 0, .int .u8 0, .int .u8 0, .int .u8 0] 25)) fun e w' => e = .returned (.tuple #[.agg #[.int .u16 (y : Int), .int .u8 (mo.toNat : Int), .int .u8 (d.toNat : Int), .int .u8 (h'.toNat : Int), .int .u8 (mi.toNat : Int), .int .u8 (s'.toNat : Int)], .bool bb]) ∧ Below (w.heap.size + 1) (w.alloc (.cells #[.int .u16 0, .int .u8 0, .int .u8 0, .int .u8 0, .int .u8 0, .int .u8 0] 25)) w') := RD.mono fun _ _ hh => ⟨hh.1, by have h3 := hh.2; rw [World.size_alloc] at h3; exact h3⟩
  have hs : ∀ (W : World) (j : Nat) (u : Value), Below w.heap.size w W → Below w.heap.size w (W.setCell ⟨w.heap.size, j, none⟩ u) := fun W j u hW => hW.setCell (Nat.le_refl _) u
  have HS := Lib.hid hs
  have hb0 : ∀ cs, Below w.heap.size w (w.alloc (.cells cs 25)) := fun cs => (Below.refl _ _).alloc (Nat.le_refl _) _
  clear hO RD hs hR
  go_enter Try.func85, Try.ntmps85
  go_wp2_with fail
  refine RD2.out.mono ?_
  rintro e w4 ⟨rfl, hb4⟩
  have hzr4 : Hid (w4.heap[w.heap.size]? = some (.cells Tm.zero.cells 25)) := by
    rw [Hid, hb4.block w.heap.size (by omega)]; exact heap_alloc_new w _
  have hbl4 : Below w.heap.size w w4 := (hb0 _).trans (hb4.mono (by omega))
  have q0 : w4.cell? ⟨w.heap.size, 0, none⟩ = some (.int .u16 0) := Lib.cell_of_heap hzr4.out 0
  have f0 : w4.frozen? ⟨w.heap.size, 0, none⟩ = false := Lib.frozen_of_heap hzr4.out 0
  have q1 : w4.cell? ⟨w.heap.size, 1, none⟩ = some (.int .u8 0) := Lib.cell_of_heap hzr4.out 1
  have f1 : w4.frozen? ⟨w.heap.size, 1, none⟩ = false := Lib.frozen_of_heap hzr4.out 1
  have q2 : w4.cell? ⟨w.heap.size, 2, none⟩ = some (.int .u8 0) := Lib.cell_of_heap hzr4.out 2
  have f2 : w4.frozen? ⟨w.heap.size, 2, none⟩ = false := Lib.frozen_of_heap hzr4.out 2
  have q3 : w4.cell? ⟨w.heap.size, 3, none⟩ = some (.int .u8 0) := Lib.cell_of_heap hzr4.out 3
  have f3 : w4.frozen? ⟨w.heap.size, 3, none⟩ = false := Lib.frozen_of_heap hzr4.out 3
  have q4 : w4.cell? ⟨w.heap.size, 4, none⟩ = some (.int .u8 0) := Lib.cell_of_heap hzr4.out 4
  have f4 : w4.frozen? ⟨w.heap.size, 4, none⟩ = false := Lib.frozen_of_heap hzr4.out 4
  have q5 : w4.cell? ⟨w.heap.size, 5, none⟩ = some (.int .u8 0) := Lib.cell_of_heap hzr4.out 5
  have f5 : w4.frozen? ⟨w.heap.size, 5, none⟩ = false := Lib.frozen_of_heap hzr4.out 5
  go_wp2
  refine bodyPost_ret (results_tm rfl _ _ w.heap.size ⟨y, mo, d, h', mi, s'⟩ rfl (heap_set_tm _ _ ⟨y, mo, d, h', mi, s'⟩ Tm.zero hzr4.out)) rfl ?_
  exact ⟨rfl, HS.out _ _ _ (HS.out _ _ _ (HS.out _ _ _ (HS.out _ _ _ (HS.out _ _ _ (HS.out _ _ _ hbl4)))))⟩
end Go.Proofs.Ytomolfdcdmncoaa
namespace Go.Proofs.Ytomolfdcdmncoaa
open Go.RowKit Go
set_option linter.unusedVariables false
set_option maxRecDepth 100000
def Tm.row (t : Tm) : Array Value := #[.int .i64 (t.y : Int), .int .i64 (t.mo.toNat : Int), .int .i64 (t.d.toNat : Int), .int .i64 (t.h.toNat : Int), .int .i64 (t.mi.toNat : Int), .int .i64 (t.s.toNat : Int)]
theorem partsOf_any (t : Tm) (w : World) (hy : t.y < 65536) : Calls Try.prog 86 #[tmV t] w fun e w' => e = .returned (partsV t) ∧ Below w.heap.size w w' := by
  have h1 := t.mo.toNat_lt
  have h2 := t.d.toNat_lt
  have h3 := t.h.toNat_lt
  have h4 := t.mi.toNat_lt
  have h5 := t.s.toNat_lt
  have hb : ∀ c1 c2, Below w.heap.size w ((w.alloc (.cells c1 25)).alloc (.cells c2 135)) := fun c1 c2 => ((Below.refl _ _).alloc (Nat.le_refl _) _).alloc (by simp) _
  have hh : ∀ c1 : Array Value, ((w.alloc (.cells c1 25)).alloc (.cells t.row 135)).heap[w.heap.size + 1]? = some (.cells t.row 135) := fun c1 => by
    have := heap_alloc_new (w.alloc (.cells c1 25)) (.cells t.row 135)
    simpa using this
  have HB := Lib.hid hb
  have HH := Lib.hid hh
  clear hb hh
  have e : partsV t = .agg t.row := rfl
  rw [e]
  unfold tmV Tm.cells
  unfold Tm.row at HH ⊢
  obtain ⟨y, mo, d, h', mi, s'⟩ := t
  simp only at hy h1 h2 h3 h4 h5 HH ⊢
  go_enter Try.func86, Try.ntmps86
  go_wp2
  refine bodyPost_ret (results_cell_row rfl _ _ (w.heap.size + 1) 135 _ _ _ rfl (HH.out _) Try.underlying135 rfl (by kernel_rfl)) rfl ?_
  exact ⟨rfl, HB.out _ _⟩
end Go.Proofs.Ytomolfdcdmncoaa
namespace Go.Proofs.Ytomolfdcdmncoaa
open Go.RowKit Go
set_option linter.unusedVariables false
set_option maxRecDepth 100000
end Go.Proofs.Ytomolfdcdmncoaa
namespace Go.Proofs.Ytomolfdcdmncoaa
open Go.RowKit Go
set_option linter.unusedVariables false
set_option maxRecDepth 100000
theorem u8_same (a b : UInt8) : ((a.toNat : Int) = (b.toNat : Int)) = (a = b) := propext ⟨fun h => UInt8.toNat_inj.1 (by omega), fun h => by rw [h]⟩
theorem nat_same (a b : Nat) : ((a : Int) = (b : Int)) = (a = b) := propext ⟨fun h => by omega, fun h => by rw [h]⟩
theorem tm_same (t u : Tm) (w : World) (d : Nat) : (Op.equalIn (d + 2) 25 (.agg t.cells) (.agg u.cells)).run Try.prog w = .ok (decide (t = u)) w := by
  rw [run_equalIn_agg w (d + 1) 25 t.cells u.cells (by kernel_rfl) (by kernel_rfl)]
  obtain ⟨y, mo, dd, h', mi, s'⟩ := t
  obtain ⟨y2, mo2, d2, h2', mi2, s2'⟩ := u
  simp only [Program.fieldsOf, Try.underlying25, Tm.cells]
  simp [go_sem, Try.underlying5, Try.underlying23]
  simp only [u8_same]
  simp only [nat_same]
  repeat' split
  all_goals simp_all
end Go.Proofs.Ytomolfdcdmncoaa
