/-
  octet: the statements on texts.
-/
import Derived.Test.YtkoookknffmgjaaDoorOctV
import Derived.Test.YtkoookknffmgjaaDoorRows
import Derived.MakeChecks
namespace Go.Proofs.YtkoookknffmgjaaDoor
open Go.RowKit Go
set_option linter.unusedVariables false
set_option maxRecDepth 100000

/-- WHAT THE ROWS' CONDITION GIVES THE WALKS. -/
theorem of_laid {W : World} (h : laidMetH Tryd.prog Rows.octetJoinsRow.laid W) : Sizes W := by
  rw [MakeChecks.laidMetH_plain _ _ _ (by kernel_rfl)] at h
  have ht : Lib.TabIs Tryd.prog W "lintel/octet.sizes" .i64 sizesZ :=
    Lib.tabIs_of_head (rest := []) g_sizes (show (Tryd.prog.globals[0]?).map (·.type) = some 55 by kernel_rfl) Tryd.underlying55 Tryd.underlying3 (by kernel_rfl) (by kernel_rfl) h
  exact ⟨by have := World.var?_cell g_sizes ht 0; have := World.block_lt_of_cell? W _ (this.trans (show _ = some (.int .i64 1) from rfl)); exact this, ht⟩

theorem wide_yes {bs : List UInt8} (h : bs.all letter = true) : wideS bs = widen bs := by unfold wideS; rw [if_pos h]
theorem wide_no {bs : List UInt8} (h : bs.all letter = false) : wideS bs = [] := by unfold wideS; rw [if_neg (by rw [h]; simp)]
theorem data_len (s : ByteArray) : s.data.toList.length = s.size := by simp
theorem strOf_append (s t : ByteArray) : strOf (s.data.toList ++ t.data.toList) = s ++ t := by
  rw [show s.data.toList ++ t.data.toList = (s ++ t).data.toList by rw [ByteArray.data_append]; simp]
  exact strOf_eq _
theorem widen_append (a b : List UInt8) : widen (a ++ b) = widen a ++ widen b := by unfold widen; rw [List.flatMap_append]
theorem pos_of_not {bs : List UInt8} (h : bs.all letter = false) : 0 < bs.length := by
  rcases bs with _ | ⟨q, r⟩
  · cases h
  · simp

theorem joins_row (s t : ByteArray) (w : World) (hs : s.size ≤ maxLen) (ht : t.size ≤ maxLen) (hT : Sizes w) :
    Calls Tryd.prog 10 #[.string s, .string t] w fun e w' => e = .returned (.bool true) ∧ Below w.heap.size w w' := by
  have WK := Lib.hid (fun W (h : Sizes W) => works_any W h)
  unfold maxLen at hs ht
  by_cases l1 : s.size ≤ 4096
  · by_cases l2 : t.size ≤ 4096
    · have A1 := Lib.hid (wide_any s w (by omega))
      have hst : Hid ((s ++ t).size ≤ 1000000000) := by show (s ++ t).size ≤ _; rw [ByteArray.size_append]; omega
      have hdt : Hid ((s ++ t).data.toList = s.data.toList ++ t.data.toList) := by show (s ++ t).data.toList = _; rw [ByteArray.data_append]; simp
      have hq : ((s ++ t).toList == (s ++ t).toList) = true := by simp
      cases hA : s.data.toList.all letter
      · have e1 := Lib.hid (wide_no hA)
        have e3 : Hid (wideS (s ++ t).data.toList = []) := by
          show wideS (s ++ t).data.toList = []
          rw [hdt.out]
          exact wide_no (by rw [List.all_append, hA]; rfl)
        have hp : 0 < s.size := by have := pos_of_not hA; rwa [data_len] at this
        clear hA
        go_enter Tryd.func10, Tryd.ntmps10
        go_wp2_with fail
        refine A1.out.mono ?_
        rintro e w1 ⟨A1, n1, c1, rfl, hown1, hb1⟩
        rw [e1.out] at hown1
        obtain rfl : 0 = n1 := hown1.len
        go_wp2_with fail
        refine (wide_any t w1 (by omega)).mono ?_
        rintro e w2 ⟨A2, n2, c2, rfl, hown2, hb2⟩
        have hb2' := hb1.trans (hb2.mono hb1.size)
        go_wp2_with fail
        refine (wide_any (s ++ t) w2 hst.out).mono ?_
        rintro e w3 ⟨A3, n3, c3, rfl, hown3, hb3⟩
        have hb3' := hb2'.trans (hb3.mono hb2'.size)
        rw [e3.out] at hown3
        obtain rfl : 0 = n3 := hown3.len
        have hne : ((0 : Int) != 2 * (s.size : Int)) = true := by simp; omega
        go_wp2_with fail
        refine (WK.out w3 (hT.below' hb3')).mono ?_
        rintro e w4 ⟨rfl, hb4⟩
        go_wp2
        go_ret
        exact ⟨rfl, hb3'.trans (hb4.mono hb3'.size)⟩
      · have e1 := Lib.hid (wide_yes hA)
        cases hB : t.data.toList.all letter
        · have e2 := Lib.hid (wide_no hB)
          have e3 : Hid (wideS (s ++ t).data.toList = []) := by
            show wideS (s ++ t).data.toList = []
            rw [hdt.out]
            exact wide_no (by rw [List.all_append, hA, hB]; rfl)
          have hp : 0 < t.size := by have := pos_of_not hB; rwa [data_len] at this
          clear hA hB
          go_enter Tryd.func10, Tryd.ntmps10
          go_wp2_with fail
          refine A1.out.mono ?_
          rintro e w1 ⟨A1, n1, c1, rfl, hown1, hb1⟩
          rw [e1.out] at hown1
          obtain rfl : 2 * s.size = n1 := by have := hown1.len; rw [widen_len, data_len] at this; exact this
          go_wp2_with fail
          refine (wide_any t w1 (by omega)).mono ?_
          rintro e w2 ⟨A2, n2, c2, rfl, hown2, hb2⟩
          rw [e2.out] at hown2
          obtain rfl : 0 = n2 := hown2.len
          have hb2' := hb1.trans (hb2.mono hb1.size)
          go_wp2_with fail
          refine (wide_any (s ++ t) w2 hst.out).mono ?_
          rintro e w3 ⟨A3, n3, c3, rfl, hown3, hb3⟩
          have hb3' := hb2'.trans (hb3.mono hb2'.size)
          rw [e3.out] at hown3
          obtain rfl : 0 = n3 := hown3.len
          have hne : ((0 : Int) != 2 * (t.size : Int)) = true := by simp; omega
          go_wp2_with fail
          refine (WK.out w3 (hT.below' hb3')).mono ?_
          rintro e w4 ⟨rfl, hb4⟩
          go_wp2
          go_ret
          exact ⟨rfl, hb3'.trans (hb4.mono hb3'.size)⟩
        · have e2 := Lib.hid (wide_yes hB)
          have e3 : Hid (wideS (s ++ t).data.toList = widen s.data.toList ++ widen t.data.toList) := by
            show wideS (s ++ t).data.toList = _
            rw [hdt.out, wide_yes (by rw [List.all_append, hA, hB]; rfl), widen_append]
          have e4 : Hid (narrowS (widen s.data.toList ++ widen t.data.toList) = some (s.data.toList ++ t.data.toList)) := by
            show narrowS _ = _
            rw [← widen_append]
            exact narrow_widen _ (by rw [List.all_append, hA, hB]; rfl)
          have lS := Lib.hid (widen_len s.data.toList)
          have lT := Lib.hid (widen_len t.data.toList)
          have dS := Lib.hid (data_len s)
          have dT := Lib.hid (data_len t)
          have hcat := Lib.hid (strOf_append s t)
          clear hA hB
          generalize widen s.data.toList = X at e1 e3 e4 lS
          generalize widen t.data.toList = Y at e2 e3 e4 lT
          go_enter Tryd.func10, Tryd.ntmps10
          go_wp2_with fail
          refine A1.out.mono ?_
          rintro e w1 ⟨A1, n1, c1, rfl, hown1, hb1⟩
          rw [e1.out] at hown1
          obtain rfl : 2 * s.size = n1 := by have := hown1.len; rw [lS.out, dS.out] at this; exact this
          go_wp2_with fail
          refine (wide_any t w1 (by omega)).mono ?_
          rintro e w2 ⟨A2, n2, c2, rfl, hown2, hb2⟩
          rw [e2.out] at hown2
          obtain rfl : 2 * t.size = n2 := by have := hown2.len; rw [lT.out, dT.out] at this; exact this
          have hb2' := hb1.trans (hb2.mono hb1.size)
          go_wp2_with fail
          refine (wide_any (s ++ t) w2 hst.out).mono ?_
          rintro e w3 ⟨A3, n3, c3, rfl, hown3, hb3⟩
          have hb3' := hb2'.trans (hb3.mono hb2'.size)
          rw [e3.out] at hown3
          have hR1 := (hown1.rb.below hb2).below hb3
          have hR2 := hown2.rb.below hb3
          go_wp2_with fail
          refine (narrow_any A3 n3 c3 _ w3 hown3.rb (by have := hown3.len; rw [List.length_append, lS.out, lT.out, dS.out, dT.out] at this; omega)).mono ?_
          intro e w4 hpost
          unfold NarrowPost at hpost
          rw [e4.out] at hpost
          obtain ⟨rfl, hb4⟩ := hpost
          rw [hcat.out]
          have hb4' := hb3'.trans (hb4.mono hb3'.size)
          have hR1 := hR1.below hb4
          have hR2 := hR2.below hb4
          have hR3 := hown3.rb.below hb4
          have HR1 := Lib.hid hR1.1
          have HR2 := Lib.hid hR2.1
          go_wp2_with (at_builtin; refine wpList_apn (.tmp 53) (.tmp 54) rfl rfl rfl w4.heap.size none 0 0 [] rfl (OwnB.nil _ _) A1 (2 * s.size) c1 X rfl hR1 (by omega) (Nat.le_refl _) ?_)
          intro A5 c5 w5 hown5 hg5
          have hb5 : Below w4.heap.size w4 w5 := (Below.refl _ _).grown hg5 (Nat.le_refl _) (by intro k hk; cases hk)
          have hR2' := hR2.below hb5
          go_wp2_with (at_builtin; refine wpList_apn (.tmp 56) (.tmp 57) rfl rfl rfl w4.heap.size A5 (2 * s.size) c5 X rfl hown5 A2 (2 * t.size) c2 Y rfl hR2' (by omega) hb5.size ?_)
          intro A6 c6 w6 hown6 hg6
          have hb6 : Below w4.heap.size w4 w6 := hb5.grown hg6 hb5.size (fun g hg => (hown5.blk_lt hg).1)
          have hR3' := hR3.below hb6
          have hb6' := hb4'.trans (hb6.mono hb4'.size)
          have hT6 := hT.below' hb6'
          have hxy : ((X ++ Y) == (X ++ Y)) = true := by simp
          go_wp2_with fail
          refine (eq_any A3 A6 n3 _ c3 c6 _ _ w6 hR3' hown6.rb).mono ?_
          rintro e w' ⟨rfl, rfl⟩
          go_wp2_with fail
          refine (WK.out w6 hT6).mono ?_
          rintro e w7 ⟨rfl, hb7⟩
          go_wp2
          go_ret
          exact ⟨rfl, hb6'.trans (hb7.mono hb6'.size)⟩
    · go_enter Tryd.func10, Tryd.ntmps10
      go_wp2_with fail
      refine (WK.out w hT).mono ?_
      rintro e w' ⟨rfl, hb1⟩
      go_wp2
      go_ret
      exact ⟨rfl, hb1⟩
  · go_enter Tryd.func10, Tryd.ntmps10
    go_wp2_with fail
    refine (WK.out w hT).mono ?_
    rintro e w' ⟨rfl, hb1⟩
    go_wp2
    go_ret
    exact ⟨rfl, hb1⟩
end Go.Proofs.YtkoookknffmgjaaDoor
