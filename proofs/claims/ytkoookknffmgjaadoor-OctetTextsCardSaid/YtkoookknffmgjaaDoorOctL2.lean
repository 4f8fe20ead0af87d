/-
  octet: the statement on texts and their document's answers.
-/
import Derived.Test.YtkoookknffmgjaaDoorOctL1
import Derived.Test.YtkoookknffmgjaaDoorOctR
namespace Go.Proofs.YtkoookknffmgjaaDoor
open Go.RowKit Go
set_option linter.unusedVariables false
set_option maxRecDepth 100000
theorem texts_row (s : ByteArray) (A : Option Addr) (n c : Nat) (bs : List UInt8) (w : World) (hs : s.size ≤ maxLen) (h1 : IsBs w A n c bs) (hT : Sizes w) :
    Calls Tryd.prog 5 #[.string s, .slice A n c] w fun e w' => e = .returned (.bool true) ∧ Below w.heap.size w w' := by
  have WK := Lib.hid (fun W (h : Sizes W) => works_any W h)
  unfold maxLen at hs
  have hlim := h1.lim
  have hR := h1.rb
  by_cases l1 : s.size ≤ 65536
  · by_cases l2 : n ≤ 131072
    · have R := Lib.hid (roomy_any A n c bs w hR (by omega))
      go_enter Tryd.func5, Tryd.ntmps5
      go_wp2_with fail
      refine R.out.mono ?_
      rintro e w1 ⟨A1, c1, rfl, hroom, hb1⟩
      have hR1 := hR.below hb1
      go_wp2_with fail
      refine (narrow_any A1 n c1 bs w1 hroom.rb (by omega)).mono ?_
      intro e w2 hp2
      have hb2 := hp2.2
      have hb2' := hb1.trans (hb2.mono hb1.size)
      have hR2 := hR1.below hb2
      have hroom2 := hroom.below hb2 (Nat.le_refl _)
      have N2 := Lib.hid hp2.1
      have hq : ∀ l : List UInt8, ((strOf l).toList == (strOf l).toList) = true := fun l => by simp
      have hw : ∀ l : List UInt8, (l == l) = true := fun l => by simp
      cases hnar : narrowS bs with
      | none =>
        have e2 := N2.out
        rw [hnar] at e2
        simp only at e2
        subst e2
        go_wp2_with fail
        refine (refNarrow_any A n c bs w2 hR2 (by omega)).mono ?_
        intro e w3 hp3
        have hb3 := hp3.2
        have e3 := hp3.1
        rw [hnar] at e3
        simp only at e3
        subst e3
        have hb3' := hb2'.trans (hb3.mono hb2'.size)
        have hR3 := hR2.below hb3
        have hroom3 := hroom2.below hb3 (Nat.le_refl _)
        clear hp2 hp3 N2 hnar
        go_wp2_with fail
        refine (wide_any s w3 (by omega)).mono ?_
        rintro e w4 ⟨A4, n4, c4, rfl, hown4, hb4⟩
        have hb4' := hb3'.trans (hb4.mono hb3'.size)
        go_wp2_with fail
        refine (refWide_any s w4 (by omega)).mono ?_
        rintro e w5 ⟨A5, n5, c5, rfl, hown5, hb5⟩
        have hb5' := hb4'.trans (hb5.mono hb4'.size)
        have hR5 := (hR3.below hb4).below hb5
        have hroom5 := (hroom3.below hb4 (Nat.le_refl _)).below hb5 (Nat.le_refl _)
        have hw1 := hw (wideS s.data.toList)
        have hw2 := hw bs
        go_wp2_with fail
        refine (eq_any A4 A5 n4 n5 c4 c5 _ _ w5 (hown4.rb.below hb5) hown5.rb).mono ?_
        rintro e w' ⟨rfl, rfl⟩
        go_wp2_with fail
        refine (kept_any A1 A n n c1 c _ bs bs w5 hroom5 hR5 (by omega)).mono ?_
        rintro e w' ⟨rfl, rfl⟩
        go_wp2_with fail
        refine (WK.out w5 (hT.below' hb5')).mono ?_
        rintro e w6 ⟨rfl, hb6⟩
        go_wp2
        go_ret
        exact ⟨rfl, hb5'.trans (hb6.mono hb5'.size)⟩
      | some l =>
        have e2 := N2.out
        rw [hnar] at e2
        simp only at e2
        subst e2
        go_wp2_with fail
        refine (refNarrow_any A n c bs w2 hR2 (by omega)).mono ?_
        intro e w3 hp3
        have hb3 := hp3.2
        have e3 := hp3.1
        rw [hnar] at e3
        simp only at e3
        subst e3
        have hb3' := hb2'.trans (hb3.mono hb2'.size)
        have hR3 := hR2.below hb3
        have hroom3 := hroom2.below hb3 (Nat.le_refl _)
        clear hp2 hp3 N2 hnar
        go_wp2_with fail
        refine (wide_any s w3 (by omega)).mono ?_
        rintro e w4 ⟨A4, n4, c4, rfl, hown4, hb4⟩
        have hb4' := hb3'.trans (hb4.mono hb3'.size)
        go_wp2_with fail
        refine (refWide_any s w4 (by omega)).mono ?_
        rintro e w5 ⟨A5, n5, c5, rfl, hown5, hb5⟩
        have hb5' := hb4'.trans (hb5.mono hb4'.size)
        have hR5 := (hR3.below hb4).below hb5
        have hroom5 := (hroom3.below hb4 (Nat.le_refl _)).below hb5 (Nat.le_refl _)
        have hw1 := hw (wideS s.data.toList)
        have hw2 := hw bs
        have hq1 := hq l
        go_wp2_with fail
        refine (eq_any A4 A5 n4 n5 c4 c5 _ _ w5 (hown4.rb.below hb5) hown5.rb).mono ?_
        rintro e w' ⟨rfl, rfl⟩
        go_wp2_with fail
        refine (kept_any A1 A n n c1 c _ bs bs w5 hroom5 hR5 (by omega)).mono ?_
        rintro e w' ⟨rfl, rfl⟩
        go_wp2_with fail
        refine (WK.out w5 (hT.below' hb5')).mono ?_
        rintro e w6 ⟨rfl, hb6⟩
        go_wp2
        go_ret
        exact ⟨rfl, hb5'.trans (hb6.mono hb5'.size)⟩
    · go_enter Tryd.func5, Tryd.ntmps5
      go_wp2_with fail
      refine (WK.out w hT).mono ?_
      rintro e w' ⟨rfl, hb1⟩
      go_wp2
      go_ret
      exact ⟨rfl, hb1⟩
  · go_enter Tryd.func5, Tryd.ntmps5
    go_wp2_with fail
    refine (WK.out w hT).mono ?_
    rintro e w' ⟨rfl, hb1⟩
    go_wp2
    go_ret
    exact ⟨rfl, hb1⟩
end Go.Proofs.YtkoookknffmgjaaDoor
