/-
  option: parts of bytes, taken one behind the other by a closure.
-/
import Derived.Test.YtokklcfdfjgbjaaDoorOpB
import Derived.LoopTactic
namespace Go.Proofs.YtokklcfdfjgbjaaDoor
open Go.RowKit Go
set_option linter.unusedVariables false
set_option maxRecDepth 100000
/-- Where the closure stands. -/
structure Take (w : World) (P0 P1 : Nat) (A : Option Addr) (n c : Nat) (bs : List UInt8) (k : Nat) : Prop where
  lt : P0 < P1
  size : P1 < w.heap.size
  len : bs.length = n
  le : n ≤ c
  max : c ≤ 9223372036854775807
  at_le : k ≤ n
  reads : Bs w P0 A bs
  text : w.cell? ⟨P0, 0, none⟩ = some (.slice A n c)
  at_ : w.cell? ⟨P1, 0, none⟩ = some (.int .i64 (k : Int))
  free : w.frozen? ⟨P1, 0, none⟩ = false
section
variable {w w' : World} {P0 P1 : Nat} {A : Option Addr} {n c : Nat} {bs : List UInt8} {k : Nat}
theorem Take.rb (h : Take w P0 P1 A n c bs k) : RB w A n bs := ⟨h.len, h.reads.more (by have := h.lt; have := h.size; omega)⟩
theorem Take.grown (h : Take w P0 P1 A n c bs k) {row : Option Nat} (hg : w.grownBy w' row) (hr : ∀ g, row = some g → P1 < g) : Take w' P0 P1 A n c bs k := by
  have h0 := h.size
  have h1 := h.lt
  refine ⟨h.lt, Nat.lt_of_lt_of_le h.size hg.size, h.len, h.le, h.max, h.at_le, h.reads.grown hg (by omega) (fun g hh => by have := hr g hh; omega), ?_, ?_, ?_⟩
  · rw [World.cell?_of_block (w := w) (hg.block P0 (by omega) (fun e => by have := hr _ e.symm; omega))]; exact h.text
  · rw [World.cell?_of_block (w := w) (hg.block P1 (by omega) (fun e => by have := hr _ e.symm; omega))]; exact h.at_
  · rw [World.frozen?_of_block (w := w) (hg.block P1 (by omega) (fun e => by have := hr _ e.symm; omega))]; exact h.free
theorem Take.below (h : Take w P0 P1 A n c bs k) (hb : Below w.heap.size w w') : Take w' P0 P1 A n c bs k := h.grown (grown_of_below hb (Nat.le_refl _) none) (fun g e => by cases e)
theorem grown_set1 (w : World) (g j : Nat) (u : Value) : w.grownBy (w.setCell ⟨g, j, none⟩ u) (some g) :=
  ⟨rfl, rfl, rfl, by simp [World.setCell], fun k _ hk => Below.heap_setCell w ⟨g, j, none⟩ u k (fun e => hk (by rw [e]))⟩
theorem Take.step {k2 : Nat} (h : Take w P0 P1 A n c bs k) (hk2 : k2 ≤ n) : Take (w.setCell ⟨P1, 0, none⟩ (.int .i64 (k2 : Int))) P0 P1 A n c bs k2 := by
  have h0 := h.size
  have h1 := h.lt
  have hg := grown_set1 w P1 0 (.int .i64 (k2 : Int))
  refine ⟨h.lt, Nat.lt_of_lt_of_le h.size hg.size, h.len, h.le, h.max, hk2, h.reads.grown hg (by omega) (fun g hh => by injection hh with hh; omega), ?_, ?_, ?_⟩
  · rw [World.cell?_of_block (w := w) (hg.block P0 (by omega) (fun e => by injection e with e; omega))]; exact h.text
  · exact World.cell?_setCell_same w ⟨P1, 0, none⟩ _ h.at_
  · rw [World.frozen?_setCell w ⟨P1, 0, none⟩ ⟨P1, 0, none⟩ (.int .i64 (k2 : Int))]; exact h.free
end
theorem grown_trans {a b d : World} {row : Option Nat} (h : a.grownBy b row) (k : b.grownBy d row) : a.grownBy d row :=
  ⟨k.os.trans h.os, k.tape.trans h.tape, k.output.trans h.output, Nat.le_trans h.size k.size, fun i hi hne => (k.block i (Nat.lt_of_lt_of_le hi h.size) hne).trans (h.block i hi hne)⟩
theorem grown_any {a b : World} {row : Option Nat} (h : a.grownBy b none) : a.grownBy b row := ⟨h.os, h.tape, h.output, h.size, fun i hi hne => h.block i hi (fun e => by cases e)⟩
/-- What the closure answers of bytes that are there. -/
def TakeOk (w : World) (P0 P1 : Nat) (A : Option Addr) (n c : Nat) (bs : List UInt8) (k m : Nat) (e : Ending) (w' : World) : Prop :=
  ∃ A' c', e = .returned (.tuple #[.slice A' m c', .bool true]) ∧ OwnB w' w.heap.size A' m c' (cut bs k m) ∧ Take w' P0 P1 A n c bs (k + m) ∧ w.grownBy w' (some P1)
theorem take_ok (P0 P1 : Nat) (A : Option Addr) (n c : Nat) (bs : List UInt8) (k m : Nat) (w : World) (h : Take w P0 P1 A n c bs k) (hin : k + m ≤ n) (hn : n ≤ 1000000000) :
    Calls Tryd.prog 35 #[.int .i64 (m : Int), .pointer (some ⟨P0, 0, none⟩), .pointer (some ⟨P1, 0, none⟩)] w (TakeOk w P0 P1 A n c bs k m) := by
  have C := Lib.hid (cut_ok A n c bs k m w h.rb h.le h.max hin (by omega))
  have hcl : (cut bs k m).length = m := cut_len _ _ _ (by rw [h.len]; exact hin)
  have HCL := Lib.hid hcl
  have c0 := h.text
  have c1 := h.at_
  have f1 := h.free
  have hz := h.size
  have hlt := h.lt
  have HT := Lib.hid h
  have d1 : ((m : Int) == -1) = false := beq_eq_false_iff_ne.2 (by omega)
  clear h hcl
  go_enter Tryd.func35, Tryd.ntmps35
  go_wp2_with fail
  refine C.out.mono ?_
  rintro e w1 ⟨A1, n1, c1', rfl, hown1, hb1⟩
  obtain rfl : m = n1 := HCL.out.symm.trans hown1.len
  have HT1 := Lib.hid (HT.out.below hb1)
  have c2 := HT1.out.at_
  have f2 := HT1.out.free
  have hz2 := hb1.size
  have HS := Lib.hid (HT1.out.step (k2 := k + m) hin)
  have hg := grown_trans (grown_any (row := some P1) (grown_of_below hb1 (Nat.le_refl _) none)) (grown_set1 w1 P1 0 (.int .i64 ((k + m : Nat) : Int)))
  have hown2 := hown1.kept (grown_set1 w1 P1 0 (.int .i64 ((k + m : Nat) : Int))) (by
    rcases hA : blk A1 with _ | g
    · exact .inl rfl
    · exact .inr (fun e => by have := (hown1.blk_lt hA).1; injection e with e; omega))
  have HG := Lib.hid hg
  have HO := Lib.hid hown2
  clear hb1 hown1 hg hown2 c0 c1 f1
  go_wp2
  go_ret2
  have ec : ((k + m : Nat) : Int) = (k : Int) + (m : Int) := by omega
  refine ⟨A1, c1', rfl, ?_, ?_, ?_⟩
  · rw [← ec]; exact HO.out
  · rw [← ec]; exact HS.out
  · rw [← ec]; exact HG.out
/-- All that is left. -/
theorem take_rest (P0 P1 : Nat) (A : Option Addr) (n c : Nat) (bs : List UInt8) (k : Nat) (w : World) (h : Take w P0 P1 A n c bs k) (hn : n ≤ 1000000000) :
    Calls Tryd.prog 35 #[.int .i64 (-1), .pointer (some ⟨P0, 0, none⟩), .pointer (some ⟨P1, 0, none⟩)] w (TakeOk w P0 P1 A n c bs k (n - k)) := by
  have hin := h.at_le
  obtain ⟨m, hm⟩ : ∃ m, m = n - k := ⟨_, rfl⟩
  have C := Lib.hid (cut_ok A n c bs k m w h.rb h.le h.max (by omega) (by omega))
  have hcl : (cut bs k m).length = m := cut_len _ _ _ (by rw [h.len]; omega)
  have HCL := Lib.hid hcl
  have em : Hid ((n : Int) - (k : Int) = (m : Int)) := by show _ = _; omega
  have ek : k + m ≤ n := by omega
  rw [← hm]
  have c0 := h.text
  have c1 := h.at_
  have f1 := h.free
  have hz := h.size
  have hlt := h.lt
  have HT := Lib.hid h
  clear h hcl hm
  go_enter Tryd.func35, Tryd.ntmps35
  go_wp2_with fail
  rw [em.out]
  refine C.out.mono ?_
  rintro e w1 ⟨A1, n1, c1', rfl, hown1, hb1⟩
  obtain rfl : m = n1 := HCL.out.symm.trans hown1.len
  have HT1 := Lib.hid (HT.out.below hb1)
  have c2 := HT1.out.at_
  have f2 := HT1.out.free
  have hz2 := hb1.size
  have HS := Lib.hid (HT1.out.step (k2 := k + m) ek)
  have hg := grown_trans (grown_any (row := some P1) (grown_of_below hb1 (Nat.le_refl _) none)) (grown_set1 w1 P1 0 (.int .i64 ((k + m : Nat) : Int)))
  have hown2 := hown1.kept (grown_set1 w1 P1 0 (.int .i64 ((k + m : Nat) : Int))) (by
    rcases hA : blk A1 with _ | g
    · exact .inl rfl
    · exact .inr (fun e => by have := (hown1.blk_lt hA).1; injection e with e; omega))
  have HG := Lib.hid hg
  have HO := Lib.hid hown2
  clear hb1 hown1 hg hown2 c0 c1 f1
  go_wp2
  go_ret2
  have ec : ((k + m : Nat) : Int) = (k : Int) + (m : Int) := by omega
  refine ⟨A1, c1', rfl, ?_, ?_, ?_⟩
  · rw [← ec]; exact HO.out
  · rw [← ec]; exact HS.out
  · rw [← ec]; exact HG.out
/-- Bytes that are not there. -/
theorem take_no (P0 P1 : Nat) (A : Option Addr) (n c : Nat) (bs : List UInt8) (k m : Nat) (w : World) (h : Take w P0 P1 A n c bs k) (hno : n < k + m) (hm : m ≤ 9223372036854775807) (hn : n ≤ 1000000000) :
    Calls Tryd.prog 35 #[.int .i64 (m : Int), .pointer (some ⟨P0, 0, none⟩), .pointer (some ⟨P1, 0, none⟩)] w fun e w' => e = .returned (.tuple #[.slice none 0 0, .bool false]) ∧ w = w' := by
  have C := Lib.hid (cut_not A n c k m w (by omega) (by omega) (by omega) (by simp [inB]; omega))
  have c0 := h.text
  have c1 := h.at_
  have d1 : ((m : Int) == -1) = false := beq_eq_false_iff_ne.2 (by omega)
  clear h
  go_enter Tryd.func35, Tryd.ntmps35
  go_wp2_with fail
  refine C.out.mono ?_
  rintro e w1 ⟨rfl, rfl⟩
  go_wp2
  go_ret2
  exact ⟨rfl, rfl⟩
theorem taker_any (A : Option Addr) (n c : Nat) (bs : List UInt8) (w : World) (hR : RB w A n bs) (hc : n ≤ c) (hc2 : c ≤ 9223372036854775807) :
    Calls Tryd.prog 26 #[.slice A n c] w fun e w' => e = .returned (.func (Fn.func 35) #[] #[.pointer (some ⟨w.heap.size, 0, none⟩), .pointer (some ⟨w.heap.size + 1, 0, none⟩)]) ∧ Take w' w.heap.size (w.heap.size + 1) A n c bs 0 ∧ Below w.heap.size w w' ∧ w'.heap.size = w.heap.size + 2 := by
  have hN : Take ((w.alloc (.cells #[.slice A n c] 23)).alloc (.cells #[.int .i64 0] 3)) w.heap.size (w.heap.size + 1) A n c bs 0 := by
    refine ⟨by omega, by simp, hR.1, hc, hc2, by omega, (hR.2.alloc (Nat.le_refl _) _).alloc (by simp) _, ?_, ?_, ?_⟩
    · simp
    · simp
    · simp
  have hb : Below w.heap.size w ((w.alloc (.cells #[.slice A n c] 23)).alloc (.cells #[.int .i64 0] 3)) := ((Below.refl _ _).alloc (Nat.le_refl _) _).alloc (by simp) _
  have HN := Lib.hid hN
  clear hN hR
  go_enter Tryd.func26, Tryd.ntmps26
  go_wp2
  go_ret
  exact ⟨rfl, HN.out, hb, by simp⟩
end Go.Proofs.YtokklcfdfjgbjaaDoor
