/-
  nat: the law's own: works.
-/
import Derived.Test.YtpopohfbcedpbaaNr
import Derived.Test.YtpopohfbcedpbaaNo
namespace Go.Proofs.Ytpopohfbcedpbaa
open Go.RowKit Go
set_option linter.unusedVariables false
set_option linter.unusedSimpArgs false
set_option maxRecDepth 100000
theorem NumS.cells {w : World} {base n : Nat} {A : Option Addr} {l : List Nat} (h : NumS w base A n l) (hn : l ≠ []) : ∃ g, A = some ⟨g, 0, none⟩ ∧ base ≤ g ∧ g < w.heap.size ∧ ∀ (j x : Nat), l[j]? = some x → w.cell? ⟨g, j, none⟩ = some (.int .u32 (x : Int)) := by
  obtain ⟨h1, h2, h3⟩ := h
  rcases h3 with ⟨_, e⟩ | ⟨g, L, rfl, h4, h5, h6⟩
  · exact absurd e hn
  · refine ⟨g, rfl, h4, h5.lt, fun j x hx => ?_⟩
    have hj : j < l.length := by
      rcases Nat.lt_or_ge j l.length with h7 | h7
      · exact h7
      · rw [List.getElem?_eq_none h7] at hx; cases hx
    have hnL : n ≤ L.length := by rw [← h1, ← h6, List.length_take]; omega
    rw [h5.cell (show j < L.length by omega)]
    rw [← h6, List.getElem?_take, if_pos (by omega), getD_at (show j < L.length by omega)] at hx
    injection hx with hx
    rw [hx]
theorem NumS.len {w : World} {base n : Nat} {A : Option Addr} {l : List Nat} (h : NumS w base A n l) : l.length = n := h.1
theorem calls_w {P : Program} {f : FuncId} {args : Array Value} {w : World} {R : Ending → World → Prop} (h : ∀ W, w = W → Calls P f args W R) : Calls P f args w R := h w rfl
theorem num_two : num (beV [0, 1, 0, 0, 0, 2]) = [2, 1] := num_val [2, 1] (by intro x hx; simp at hx; omega) (.inr (by decide))
theorem div_val : divQ [0, 0, 1] [3] = (([1431655765, 1431655765], [1]), 0) := by
  have h1 : rightB [0, 0, 1] = true := by decide
  have h2 : rightB [3] = true := by decide
  unfold divQ
  rw [h1, h2, show ([3].length == 0) = false from rfl]
  have e1 : val [0, 0, 1] / val [3] = val [1431655765, 1431655765] := by decide
  have e2 : val [0, 0, 1] % val [3] = val [1] := by decide
  rw [e1, e2, num_val _ (by intro x hx; simp at hx; omega) (.inr (by decide)), num_val _ (by intro x hx; simp at hx; omega) (.inr (by decide))]
  rfl
theorem bits_two : bitsN (val [2, 1]) = 33 := bits_of _ 32 (by decide) (by decide)
theorem beN_two : beN (val [2, 1]) 6 = [0, 1, 0, 0, 0, 2] := beN_same [0, 1, 0, 0, 0, 2]
set_option maxHeartbeats 4000000 in
theorem works_any (w : World) : Calls Try.prog 11 #[] w fun e w' => e = .returned (.bool true) ∧ Below w.heap.size w w' := by
  go_enter Try.func11, Try.ntmps11
  go_wp2_with fail
  refine calls_w fun w1 hw1 => ?_
  have r1 : OwnB w1 w.heap.size (some ⟨w.heap.size, 0, none⟩) 6 6 [0, 1, 0, 0, 0, 2] := by
    rw [← hw1]
    exact OwnR.lit w 5 1 #[.int .u8 0, .int .u8 1, .int .u8 0, .int .u8 0, .int .u8 0, .int .u8 2] 6 (by decide) rfl
  have hb1 : Below w.heap.size w w1 := by rw [← hw1]; exact kp_alloc (Below.refl _ _) _
  have OF := of_any (some ⟨w.heap.size, 0, none⟩) 6 6 [0, 1, 0, 0, 0, 2] w1 r1.rb (by omega)
  rw [show ofQ [0, 1, 0, 0, 0, 2] = ([2, 1], 0) by unfold ofQ; rw [if_pos (by decide), num_two]] at OF
  clear hw1 r1
  refine OF.mono ?_
  rintro e w2 ⟨A2, n2, c2, rfl, s2, l2, m2, k2, hb2⟩
  obtain rfl : 2 = n2 := s2.len
  have S2 := Lib.hid s2
  have HB2 := Lib.hid (kp_call hb1 hb2)
  clear OF s2 hb2 hb1 k2
  go_wp2_with fail
  refine calls_w fun w3 hw3 => ?_
  obtain ⟨X, hX⟩ : ∃ X, w2.heap.size = X := ⟨_, rfl⟩
  rw [hX]
  have q1 : BlkU w3 X [0, 0, 1] := by rw [← hw3]; exact has_alloc (has_new' _ _ _ hX.symm) _
  have q2 : BlkU w3 (X + 1) [3] := by rw [← hw3]; exact has_new' _ _ _ (by simp [hX])
  have hb3 : Below w2.heap.size w2 w3 := by rw [← hw3]; exact kp_alloc (kp_alloc (Below.refl _ _) _) _
  have DV := div_any (some ⟨X, 0, none⟩) (some ⟨X + 1, 0, none⟩) 3 3 1 1 [0, 0, 1] [3] w3 (q1.ru (by intro x hx; simp at hx; omega) 0 3 (by decide)) (q2.ru (by intro x hx; simp at hx; omega) 0 1 (by decide)) (by decide) (by decide)
  rw [div_val] at DV
  have S3 := Lib.hid (S2.out.below hb3)
  have HB3 := Lib.hid (kp_call HB2.out hb3)
  clear hw3 q1 q2 hb3 S2 HB2 hX
  refine DV.mono ?_
  rintro e w4 ⟨A4, n4, c4, A5, n5, c5, rfl, s4, l4, m4, k4, s5, l5, m5, k5, hb4⟩
  obtain rfl : 2 = n4 := s4.len
  obtain rfl : 1 = n5 := s5.len
  have S4 := Lib.hid (show _ ∧ _ ∧ _ from ⟨S3.out.below hb4, s4, s5⟩)
  have HB4 := Lib.hid (kp_call HB3.out hb4)
  have OC := oct_good A2 2 c2 6 [2, 1] w4 S4.out.1.ru (by decide) (by decide) (by decide)
  rw [bits_two, beN_two, if_pos (by decide)] at OC
  have OC := Lib.hid OC
  clear DV s4 s5 hb4 S3 HB3 k4 k5
  go_wp2_with fail
  refine OC.out.mono ?_
  rintro e w5 ⟨A6, n6, c6, rfl, o6, l6, m6, hb5⟩
  obtain rfl : 6 = n6 := o6.len
  have BT := bits_any A2 2 c2 [2, 1] w5 (S4.out.1.ru.below hb5) (by decide)
  rw [if_pos (show rightB [2, 1] = true by decide), bits_two] at BT
  obtain ⟨g2, rfl, _, _, d2⟩ := (S4.out.1.below hb5).cells (by decide)
  obtain ⟨g4, rfl, _, _, d4⟩ := (S4.out.2.1.below hb5).cells (by decide)
  obtain ⟨g5, rfl, _, _, d5⟩ := (S4.out.2.2.below hb5).cells (by decide)
  obtain ⟨g6, rfl, _, _⟩ := o6.shape (by omega)
  have x1 := d2 0 2 rfl
  have x2 := d4 1 1431655765 rfl
  have x3 := d5 0 1 rfl
  have x4 := o6.cellAt 1 1 rfl
  have HB5 := Lib.hid (kp_call HB4.out hb5)
  have BT := Lib.hid BT
  clear d2 d4 d5 o6 hb5 S4 HB4 OC
  go_wp2_with fail
  refine BT.out.mono ?_
  rintro e w' ⟨rfl, rfl⟩
  clear BT
  go_wp2
  go_ret
  exact ⟨rfl, HB5.out⟩
end Go.Proofs.Ytpopohfbcedpbaa
