/-
  stamp: the statements' anchor.
-/
import Derived.Test.YtepakdgpaaeelaaDoorStL
import Derived.Test.YtepakdgpaaeelaaDoorStJ
import Derived.Lib.SlBytesConst
namespace Go.Proofs.YtepakdgpaaeelaaDoor
open Go.RowKit Go
set_option linter.unusedVariables false
set_option maxRecDepth 100000
def wT : Tm := ⟨1950, 1, 2, 3, 4, 5⟩
def wB : List UInt8 := [53, 48, 48, 49, 48, 50, 48, 51, 48, 52, 48, 53, 90]
theorem wU : utcO wB = some wT := by decide +kernel
theorem wW : tmB wT = [158, 7, 1, 2, 3, 4, 5, 0, 0, 0, 0, 0, 0, 0, 0, 0] := by decide +kernel
theorem wR : readO (tmB wT) = some wT := by decide +kernel
theorem wRt : rightB wT = true := by decide +kernel
theorem wL : lessB Tm.zero wT = true := by decide +kernel
theorem rb_new (w : World) (bs : List UInt8) (n : Nat) (t : TypeId) (mk : Nat × Nat) (cs : Array Value) (h : cs.toList = bs.map bv) (hn : bs.length = n) : RB (w.alloc (.cells cs t mk)) (some ⟨w.heap.size, 0, none⟩) n bs :=
  ⟨hn, by rw [show (w.alloc (.cells cs t mk)).heap.size = w.heap.size + 1 from by simp]; exact bs_new w bs t mk cs h⟩
set_option maxHeartbeats 1000000 in
theorem works_any (w : World) (hT : Sizes w) : Calls Tryd.prog 13 #[] w fun e w' => e = .returned (.bool true) ∧ Below w.heap.size w w' := by
  have kc := fun (w : World) (C : Array Value) (n c : Nat) => Lib.run_convert_bytes_const (P := Tryd.prog) w 22 5 C n c Tryd.underlying22 Tryd.underlying5
  have U : Hid (∀ A c W, RB W A 13 wB → Calls Tryd.prog 15 #[.slice A 13 c] W fun e w' => e = .returned (.tuple #[.agg #[.int .u16 1950, .int .u8 1, .int .u8 2, .int .u8 3, .int .u8 4, .int .u8 5], .bool true]) ∧ Below W.heap.size W w') := fun A c W h => by
    have := utc_any A 13 c wB W h (by omega)
    rw [wU] at this
    exact this
  have WR : Hid (∀ W, Sizes W → Calls Tryd.prog 26 #[.agg #[.int .u16 1950, .int .u8 1, .int .u8 2, .int .u8 3, .int .u8 4, .int .u8 5]] W (Fresh W (tmB wT))) := fun W h => write_any wT W h (by decide)
  have RD : Hid (∀ A c W, RB W A 16 (tmB wT) → 16 ≤ c → c ≤ 9223372036854775807 → Sizes W → Calls Tryd.prog 24 #[.slice A 16 c] W fun e w' => e = .returned (.tuple #[.agg #[.int .u16 1950, .int .u8 1, .int .u8 2, .int .u8 3, .int .u8 4, .int .u8 5], .int .i64 0]) ∧ Below W.heap.size W w') := fun A c W h h1 h2 h3 => by
    have := sread_any A 16 c (tmB wT) W h h1 h2 h3
    rw [wR] at this
    exact this
  have RT : Hid (∀ W, Calls Tryd.prog 19 #[.agg #[.int .u16 1950, .int .u8 1, .int .u8 2, .int .u8 3, .int .u8 4, .int .u8 5]] W fun e w' => e = .returned (.bool true) ∧ Below W.heap.size W w') := fun W => by
    have := right_any wT W (by decide)
    rw [wRt] at this
    exact this
  have LS : Hid (∀ W, Calls Tryd.prog 21 #[.agg #[.int .u16 0, .int .u8 0, .int .u8 0, .int .u8 0, .int .u8 0, .int .u8 0], .agg #[.int .u16 1950, .int .u8 1, .int .u8 2, .int .u8 3, .int .u8 4, .int .u8 5]] W fun e w' => e = .returned (.bool true) ∧ Below W.heap.size W w') := fun W => by
    have := less_any Tm.zero wT W (by decide) (by decide)
    rw [wL] at this
    exact this
  have HL : Hid ((tmB wT).length = 16) := by rw [wW]; rfl
  go_enter Tryd.func13, Tryd.ntmps13
  go_wp2_with fail
  refine (U.out _ _ _ ?_).mono ?_
  · exact rb_new _ _ _ _ _ _ rfl rfl
  intro e w1 hw1
  obtain ⟨rfl, hb1⟩ := hw1
  have hbb1 : Below w.heap.size w w1 := ((Below.refl _ _).alloc (Nat.le_refl _) _).trans (hb1.mono (by simp))
  have HT1 := Lib.hid (hT.below' hbb1)
  have hs1 := hbb1.size
  clear hb1
  go_wp2_with fail
  refine (WR.out _ (HT1.out.alloc _)).mono ?_
  rintro e w2 ⟨A2, n2, c2, rfl, hown2, hb2⟩
  obtain rfl : 16 = n2 := HL.out.symm.trans hown2.len
  have hc2 := hown2.cap
  unfold maxLen at hc2
  have hbb2 : Below w.heap.size w w2 := (hbb1.alloc hs1 _).trans (hb2.mono (by simp; omega))
  have hs2 := hbb2.size
  have hk2 := (hb2.block w1.heap.size (by simp)).trans (heap_alloc_new w1 _)
  have hz2 := hb2.size
  have HT2 := Lib.hid (hT.below' hbb2)
  clear hb2
  go_wp2_with fail
  refine (RD.out _ _ _ hown2.rb hc2.1 (by omega) HT2.out).mono ?_
  intro e w3 hw3
  obtain ⟨rfl, hb3⟩ := hw3
  have hbb3 : Below w.heap.size w w3 := hbb2.trans (hb3.mono hs2)
  have hk3 := (hb3.block w1.heap.size (by simp at hz2; omega)).trans hk2
  have HT3 := Lib.hid (hT.below' hbb3)
  have hz3 := hb3.size
  have hs3 := hbb3.size
  have hlt : w1.heap.size < w3.heap.size := by simp at hz2; omega
  clear hb3 hk2 hown2
  have c0 : w3.cell? ⟨w1.heap.size, 0, none⟩ = some (.int .u16 1950) := Lib.cell_of_heap hk3 0
  have c1 : w3.cell? ⟨w1.heap.size, 1, none⟩ = some (.int .u8 1) := Lib.cell_of_heap hk3 1
  have c2 : w3.cell? ⟨w1.heap.size, 2, none⟩ = some (.int .u8 2) := Lib.cell_of_heap hk3 2
  have c3 : w3.cell? ⟨w1.heap.size, 3, none⟩ = some (.int .u8 3) := Lib.cell_of_heap hk3 3
  have c4 : w3.cell? ⟨w1.heap.size, 4, none⟩ = some (.int .u8 4) := Lib.cell_of_heap hk3 4
  have c5 : w3.cell? ⟨w1.heap.size, 5, none⟩ = some (.int .u8 5) := Lib.cell_of_heap hk3 5
  clear hk3 hz2
  go_wp2_with fail
  refine (RT.out _).mono ?_
  intro e w4 hw4
  obtain ⟨rfl, hb4⟩ := hw4
  have hbb4 : Below w.heap.size w w4 := (hbb3.alloc hs3 _).trans (hb4.mono (by simp; omega))
  have hcc : ∀ j, w4.cell? ⟨w1.heap.size, j, none⟩ = w3.cell? ⟨w1.heap.size, j, none⟩ := fun j => (hb4.cell (p := ⟨w1.heap.size, j, none⟩) (by simp; omega)).trans (World.cell?_alloc_lt w3 _ ⟨w1.heap.size, j, none⟩ hlt)
  clear hb4
  go_wp2_with fail
  refine (LS.out _).mono ?_
  intro e w5 hw5
  obtain ⟨rfl, hb5⟩ := hw5
  have hbb5 : Below w.heap.size w w5 := hbb4.trans (hb5.mono hbb4.size)
  clear hb5
  go_wp2
  go_ret
  exact ⟨rfl, hbb5⟩
end Go.Proofs.YtepakdgpaaeelaaDoor
