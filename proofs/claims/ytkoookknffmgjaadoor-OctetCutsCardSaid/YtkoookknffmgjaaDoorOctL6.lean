/-
  octet: a piece is its two parts.
-/
import Derived.Test.YtkoookknffmgjaaDoorOctL4
import Derived.Test.YtkoookknffmgjaaDoorOctL3
import Derived.Lib.SmallJoins
namespace Go.Proofs.YtkoookknffmgjaaDoor
open Go.RowKit Go
set_option linter.unusedVariables false
set_option maxRecDepth 100000
def pieceV (x : Option Addr × Nat × Nat × Int × Int × Int) : Value := .agg #[.slice x.1 x.2.1 x.2.2.1, .int .i64 x.2.2.2.1, .int .i64 x.2.2.2.2.1, .int .i64 x.2.2.2.2.2]
structure IsPiece (w : World) (x : Option Addr × Nat × Nat × Int × Int × Int) : Prop where
  bs : ∃ bs, IsBs w x.1 x.2.1 x.2.2.1 bs
  a : -9223372036854775808 ≤ x.2.2.2.1 ∧ x.2.2.2.1 ≤ 9223372036854775807
  n : -9223372036854775808 ≤ x.2.2.2.2.1 ∧ x.2.2.2.2.1 ≤ 9223372036854775807
  k : -9223372036854775808 ≤ x.2.2.2.2.2 ∧ x.2.2.2.2.2 ≤ 9223372036854775807
section
open Go.ChangeShapes Go.WideShapes Go.ChangeAt Go.Joins
theorem open_p45 {H : Type} {enc : TypeId × Value → H} {W : World} {r : Reach} {b0 : Nat} {v : Value} {d : DataW H} {p : List MemPlace} (hv : Value.okWide Tryd.prog W r b0 45 v)
    (h : DataW.Trod enc Tryd.prog W 0 (fun _ => true) true 45 v d p) : ∃ x, v = pieceV x ∧ IsPiece W x := by
  obtain ⟨c0, c1, c2, c3, y0, y1, y2, y3, m, rfl, _, _, h0, h1, h2, h3⟩ := open_agg4 Tryd.underlying45 (by kernel_rfl) (by kernel_rfl) hv h
  obtain ⟨A, n, c, hc⟩ := slice_form Tryd.underlying22 h0
  injection hc with hc _
  subst hc
  obtain ⟨z1, e1, _, wf1⟩ := DataW.trod_int Tryd.underlying3 h1
  obtain ⟨z2, e2, _, wf2⟩ := DataW.trod_int Tryd.underlying3 h2
  obtain ⟨z3, e3, _, wf3⟩ := DataW.trod_int Tryd.underlying3 h3
  injection e1 with e1 _
  injection e2 with e2 _
  injection e3 with e3 _
  subst e1; subst e2; subst e3
  exact ⟨(A, n, c, z1, z2, z3), rfl, ⟨open_bs Tryd.underlying22 Tryd.underlying5 (by kernel_rfl) (by simpa [Value.cells] using h0), bounds_i64 wf1, bounds_i64 wf2, bounds_i64 wf3⟩⟩
end
theorem cut_parts (bs : List UInt8) (a k j : Nat) (h : j ≤ k) : cut bs a j ++ cut bs (a + j) (k - j) = cut bs a k := by
  unfold cut
  rw [show k = j + (k - j) by omega, List.take_add, show j + (k - j) - j = k - j by omega, List.drop_drop]
theorem cuts_out (A : Option Addr) (n c : Nat) (a k j : Int) (w : World) (hT : Sizes w) (hn : n ≤ 65536) (hk : -9223372036854775808 ≤ k ∧ k ≤ 9223372036854775807) (ha : -9223372036854775808 ≤ a ∧ a ≤ 9223372036854775807) (hin : inB n a k = false) :
    Calls Tryd.prog 8 #[pieceV (A, n, c, a, k, j)] w fun e w' => e = .returned (.bool true) ∧ Below w.heap.size w w' := by
  have WK := Lib.hid (fun W (h : Sizes W) => works_any W h)
  have G3 := Lib.hid (fun W => cut_not A n c a k W (by omega) hk.1 hk.2 hin)
  have hno : ¬ (0 ≤ a ∧ 0 ≤ k ∧ a ≤ n ∧ k ≤ n - a) := by
    intro h
    unfold inB at hin
    simp only [decide_eq_false_iff_not] at hin
    exact hin h
  obtain ⟨k1, k2⟩ := hk
  obtain ⟨a1, a2⟩ := ha
  unfold pieceV
  clear hin
  by_cases q1 : a < 0
  · clear hno
    go_enter Tryd.func8, Tryd.ntmps8
    go_wp2_with fail
    refine (G3.out _).mono ?_
    rintro e w' ⟨rfl, rfl⟩
    go_wp2_with fail
    refine (WK.out _ (hT.alloc _)).mono ?_
    rintro e w2 ⟨rfl, hb2⟩
    go_wp2
    go_ret
    exact ⟨rfl, ((Below.refl _ _).alloc (Nat.le_refl _) _).trans (hb2.mono (by simp))⟩
  by_cases q2 : k < 0
  · clear hno
    go_enter Tryd.func8, Tryd.ntmps8
    go_wp2_with fail
    refine (G3.out _).mono ?_
    rintro e w' ⟨rfl, rfl⟩
    go_wp2_with fail
    refine (WK.out _ (hT.alloc _)).mono ?_
    rintro e w2 ⟨rfl, hb2⟩
    go_wp2
    go_ret
    exact ⟨rfl, ((Below.refl _ _).alloc (Nat.le_refl _) _).trans (hb2.mono (by simp))⟩
  by_cases q3 : (n : Int) < a
  · clear hno
    go_enter Tryd.func8, Tryd.ntmps8
    go_wp2_with fail
    refine (G3.out _).mono ?_
    rintro e w' ⟨rfl, rfl⟩
    go_wp2_with fail
    refine (WK.out _ (hT.alloc _)).mono ?_
    rintro e w2 ⟨rfl, hb2⟩
    go_wp2
    go_ret
    exact ⟨rfl, ((Below.refl _ _).alloc (Nat.le_refl _) _).trans (hb2.mono (by simp))⟩
  · have q4 : (n : Int) - a < k := by omega
    clear hno
    go_enter Tryd.func8, Tryd.ntmps8
    go_wp2_with fail
    refine (G3.out _).mono ?_
    rintro e w' ⟨rfl, rfl⟩
    go_wp2_with fail
    refine (WK.out _ (hT.alloc _)).mono ?_
    rintro e w2 ⟨rfl, hb2⟩
    go_wp2
    go_ret
    exact ⟨rfl, ((Below.refl _ _).alloc (Nat.le_refl _) _).trans (hb2.mono (by simp))⟩
theorem cuts_in (A : Option Addr) (n c : Nat) (bs : List UInt8) (a k : Nat) (j : Int) (w : World) (hR : RB w A n bs) (hT : Sizes w) (hn : n ≤ 65536) (hnc : n ≤ c) (hc : c ≤ 9223372036854775807) (hin : a + k ≤ n) :
    Calls Tryd.prog 8 #[pieceV (A, n, c, a, k, j)] w fun e w' => e = .returned (.bool true) ∧ Below w.heap.size w w' := by
  have WK := Lib.hid (fun W (h : Sizes W) => works_any W h)
  have G3 := Lib.hid (fun W (h : RB W A n bs) a k (h' : a + k ≤ n) => cut_ok A n c bs a k W h hnc hc h' (by omega))
  have HCL := Lib.hid (cut_len bs a k (by rw [hR.1]; exact hin))
  have HL := Lib.hid hR.1
  unfold pieceV
  have hb0 : Below w.heap.size w (w.alloc (.cells #[.slice A n c, .int .i64 a, .int .i64 k, .int .i64 j] 45)) := (Below.refl _ _).alloc (Nat.le_refl _) _
  by_cases hj : 0 ≤ j ∧ j ≤ k
  · obtain ⟨i, rfl⟩ : ∃ i : Nat, j = i := ⟨j.toNat, by omega⟩
    have hi : i ≤ k := by omega
    clear hj
    have e1 : ((a : Int) + (i : Int)) = ((a + i : Nat) : Int) := by omega
    have e2 : ((k : Int) - (i : Int)) = ((k - i : Nat) : Int) := by omega
    have G4 : Hid (∀ W, RB W A n bs → Calls Tryd.prog 18 #[.slice A n c, .int .i64 ((a : Int) + (i : Int)), .int .i64 ((k : Int) - (i : Int))] W (FreshCut W (cut bs (a + i) (k - i)))) := by
      intro W h
      rw [e1, e2]
      exact G3.out W h (a + i) (k - i) (by omega)
    have hcat := Lib.hid (cut_parts bs a k i hi)
    clear e1 e2
    go_enter Tryd.func8, Tryd.ntmps8
    go_wp2_with fail
    refine (G3.out _ (hR.below hb0) a k hin).mono ?_
    rintro e w1 ⟨A1, n1, c1, rfl, hown1, hb1⟩
    obtain rfl : k = n1 := HCL.out.symm.trans hown1.len
    have hb1' := hb0.trans (hb1.mono hb0.size)
    go_wp2_with fail
    refine (G3.out w1 (hR.below hb1') a i (by omega)).mono ?_
    rintro e w2 ⟨A2, n2, c2, rfl, hown2, hb2⟩
    have hn2 := hown2.len
    rw [cut_len _ _ _ (by rw [HL.out]; omega)] at hn2
    have HN2 := Lib.hid hn2
    clear hn2
    have hb2' := hb1'.trans (hb2.mono hb1'.size)
    go_wp2_with fail
    refine (G4.out w2 (hR.below hb2')).mono ?_
    rintro e w3 ⟨A3, n3, c3, rfl, hown3, hb3⟩
    have hn3 := hown3.len
    rw [cut_len _ _ _ (by rw [HL.out]; omega)] at hn3
    have HN3 := Lib.hid hn3
    clear hn3
    have hb3' := hb2'.trans (hb3.mono hb2'.size)
    have hown2' := hown2.below hb3 (Nat.le_refl _)
    have hRc := (hown1.rb.below hb2).below hb3
    have hsz : w1.heap.size ≤ w3.heap.size := Nat.le_trans hb2.size hb3.size
    have hb13 : Below w1.heap.size w1 w3 := hb2.trans (hb3.mono hb2.size)
    have hRc' := hown1.rb
    clear hown2
    go_wp2_with (at_builtin; refine wpList_apn _ _ rfl rfl rfl w1.heap.size A2 n2 c2 _ rfl hown2' A3 n3 c3 _ rfl hown3.rb (by have := HN2.out; have := HN3.out; omega) hsz ?_)
    intro A4 c4 w4 hown4 hg4
    have hb4 : Below w1.heap.size w1 w4 := hb13.grown hg4 hsz (fun g hg => (hown2'.blk_lt hg).1)
    have hb4' := hb1'.trans (hb4.mono hb1'.size)
    rw [hcat.out] at hown4
    have hq : (cut bs a k == cut bs a k) = true := by simp
    have hR4 := hRc'.below hb4
    generalize cut bs a k = C at hown4 hR4 hq
    clear hRc hRc' hown1 hown3 hown2'
    go_wp2_with fail
    refine (eq_any A1 A4 k _ c1 c4 C C w4 hR4 hown4.rb).mono ?_
    rintro e w' ⟨rfl, rfl⟩
    go_wp2_with fail
    refine (WK.out w4 (hT.below' hb4')).mono ?_
    rintro e w6 ⟨rfl, hb6⟩
    go_wp2
    go_ret
    exact ⟨rfl, hb4'.trans (hb6.mono hb4'.size)⟩
  · by_cases q1 : j < 0
    · clear hj
      go_enter Tryd.func8, Tryd.ntmps8
      go_wp2_with fail
      refine (G3.out _ (hR.below hb0) a k hin).mono ?_
      rintro e w1 ⟨A1, n1, c1, rfl, hown1, hb1⟩
      obtain rfl : k = n1 := HCL.out.symm.trans hown1.len
      have hb1' := hb0.trans (hb1.mono hb0.size)
      have hq : ((k : Int) == (k : Int)) = true := by simp
      go_wp2_with fail
      refine (WK.out w1 (hT.below' hb1')).mono ?_
      rintro e w6 ⟨rfl, hb6⟩
      go_wp2
      go_ret
      exact ⟨rfl, hb1'.trans (hb6.mono hb1'.size)⟩
    · have q2 : (k : Int) < j := by omega
      clear hj
      go_enter Tryd.func8, Tryd.ntmps8
      go_wp2_with fail
      refine (G3.out _ (hR.below hb0) a k hin).mono ?_
      rintro e w1 ⟨A1, n1, c1, rfl, hown1, hb1⟩
      obtain rfl : k = n1 := HCL.out.symm.trans hown1.len
      have hb1' := hb0.trans (hb1.mono hb0.size)
      have hq : ((k : Int) == (k : Int)) = true := by simp
      go_wp2_with fail
      refine (WK.out w1 (hT.below' hb1')).mono ?_
      rintro e w6 ⟨rfl, hb6⟩
      go_wp2
      go_ret
      exact ⟨rfl, hb1'.trans (hb6.mono hb1'.size)⟩
theorem cuts_row (x : Option Addr × Nat × Nat × Int × Int × Int) (w : World) (h : IsPiece w x) (hT : Sizes w) :
    Calls Tryd.prog 8 #[pieceV x] w fun e w' => e = .returned (.bool true) ∧ Below w.heap.size w w' := by
  obtain ⟨A, n, c, a, k, j⟩ := x
  obtain ⟨⟨bs, hbs⟩, ha, hk, hj⟩ := h
  simp only at hbs ha hk hj
  have hlim := hbs.lim
  by_cases hlen : n ≤ 65536
  · cases hin : inB n a k
    · exact cuts_out A n c a k j w hT hlen hk ha hin
    · obtain ⟨a', k', rfl, rfl, h'⟩ := inB_yes hin
      exact cuts_in A n c bs a' k' j w hbs.rb hT hlen hbs.le (by have := hbs.max; unfold maxLen at this; omega) h'
  · have WK := Lib.hid (fun W (h : Sizes W) => works_any W h)
    unfold pieceV
    go_enter Tryd.func8, Tryd.ntmps8
    go_wp2_with fail
    refine (WK.out _ (hT.alloc _)).mono ?_
    rintro e w' ⟨rfl, hb1⟩
    go_wp2
    go_ret
    exact ⟨rfl, ((Below.refl _ _).alloc (Nat.le_refl _) _).trans (hb1.mono (by simp))⟩
end Go.Proofs.YtkoookknffmgjaaDoor
