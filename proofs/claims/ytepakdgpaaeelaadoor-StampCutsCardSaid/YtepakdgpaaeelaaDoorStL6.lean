/-
  stamp: the statement on digits.
-/
import Derived.Test.YtepakdgpaaeelaaDoorStQ
import Derived.Test.YtepakdgpaaeelaaDoorUp
namespace Go.Proofs.YtepakdgpaaeelaaDoor
open Go.RowKit Go
set_option linter.unusedVariables false
set_option maxRecDepth 100000
theorem opt_none : optV none = .tuple #[.agg #[.int .u16 0, .int .u8 0, .int .u8 0, .int .u8 0, .int .u8 0, .int .u8 0], .bool false] := rfl
theorem opt_some (u : Tm) : optV (some u) = .tuple #[tmV u, .bool true] := rfl
theorem rb_drop2 {w : World} {base g n c : Nat} {bs : List UInt8} (h : OwnB w base (some ⟨g, 0, none⟩) (n + 2) c bs) : RB w (some ⟨g, 2, none⟩) n (bs.drop 2) := by
  refine ⟨by rw [List.length_drop, h.len]; omega, ?_⟩
  have := h.reads.drop_ 2
  simpa [Addr.add] using this
set_option maxHeartbeats 3200000 in
theorem texts_row (t : Tm) (w : World) (ht : IsTm w t) (hT : Sizes w) :
    Calls Tryd.prog 9 #[tmV t] w fun e w' => e = .returned (.bool true) ∧ Below w.heap.size w w' := by
  have hy : t.y < 65536 := ht
  have WK := Lib.hid (fun W (h : Sizes W) => works_any W h)
  have RT := Lib.hid (fun W => right_any t W hy)
  cases hr : rightB t with
  | false =>
    rw [hr] at RT
    clear hr
    unfold tmV Tm.cells at *
    obtain ⟨yt_, mot_, dt_, ht_, mit_, st_⟩ := t
    simp only at *
    go_enter Tryd.func9, Tryd.ntmps9
    go_wp2_with fail
    refine (RT.out _).mono ?_
    intro e w1 hw1
    obtain ⟨rfl, hb1⟩ := hw1
    have hbw1 : Below w.heap.size w w1 := ((Below.refl _ _).alloc (Nat.le_refl _) _).trans (hb1.mono (by simp))
    clear hb1
    go_wp2_with fail
    refine (WK.out _ (hT.below' hbw1)).mono ?_
    intro e w9 hw9
    obtain ⟨rfl, hb9⟩ := hw9
    go_wp2
    go_ret
    exact ⟨rfl, hbw1.trans (hb9.mono hbw1.size)⟩
  | true =>
    rw [hr] at RT
    have XT := Lib.hid (fun W => text_any t W hr)
    have hgen := gen_text hr
    have hutc := utc_text hr
    have hyr := right_year hr
    have hye := year2_eq t.y
    have hv : ∀ u, rightO ⟨year2 t.y, t.mo, t.d, t.h, t.mi, t.s⟩ = u → (u = none ∧ year2 t.y ≠ t.y) ∨ u = some ⟨year2 t.y, t.mo, t.d, t.h, t.mi, t.s⟩ := by
      intro u hu
      unfold rightO at hu
      split at hu
      · exact .inr hu.symm
      · rename_i h9
        refine .inl ⟨hu.symm, fun e => h9 ?_⟩
        rw [e]
        exact hr
    have hv := hv _ rfl
    rw [← hutc] at hv
    have TT := Lib.hid (fun W => tm_same t t W 9998)
    have e0 : decide (t = t) = true := by simp
    rw [e0] at TT
    clear e0 hutc
    have VT := fun W => tm_same ⟨year2 t.y, t.mo, t.d, t.h, t.mi, t.s⟩ t W 9998
    have hvt : (decide ((⟨year2 t.y, t.mo, t.d, t.h, t.mi, t.s⟩ : Tm) = t)) = decide (year2 t.y = t.y) := by
      obtain ⟨y, mo, d, h', mi, s'⟩ := t
      simp
    rw [hvt] at VT
    clear hvt
    have HL := Lib.hid (text_len t)
    have GX : Hid (∀ A c W, RB W A 15 (textB t) → Calls Tryd.prog 17 #[.slice A 15 c] W fun e w' => e = .returned (optV (genO (textB t))) ∧ Below W.heap.size W w') := fun A c W h => gen_any A 15 c _ W h (by omega)
    have UX : Hid (∀ A c W, RB W A 13 ((textB t).drop 2) → Calls Tryd.prog 15 #[.slice A 13 c] W fun e w' => e = .returned (optV (utcO ((textB t).drop 2))) ∧ Below W.heap.size W w') := fun A c W h => utc_any A 13 c _ W h (by omega)
    rw [hgen, opt_some] at GX
    clear hgen hr ht
    have HV := Lib.hid hv
    clear hv
    generalize textB t = tb at XT GX UX HL HV
    generalize utcO (tb.drop 2) = uo at UX HV
    generalize hyv : year2 t.y = yv at HV hye VT
    clear hyv
    have VTH := Lib.hid VT
    clear VT
    unfold tmV Tm.cells at *
    obtain ⟨yt_, mot_, dt_, ht_, mit_, st_⟩ := t
    simp only at *
    obtain ⟨hye1, hye2, hye3, hye4⟩ := hye
    have HYE := Lib.hid hye1
    have HYE2 := Lib.hid hye2
    clear hye1 hye2
    go_enter Tryd.func9, Tryd.ntmps9
    go_wp2_with fail
    refine (RT.out _).mono ?_
    intro e w1 hw1
    obtain ⟨rfl, hb1⟩ := hw1
    have hbw1 : Below w.heap.size w w1 := ((Below.refl _ _).alloc (Nat.le_refl _) _).trans (hb1.mono (by simp))
    have hs1 := hbw1.size
    have k1 := (hb1.block w.heap.size (by simp)).trans (heap_alloc_new w _)
    clear hb1
    obtain ⟨ca0, ca1, ca2, ca3, ca4, ca5⟩ := cells6 k1
    go_wp2_with fail
    refine (XT.out _).mono ?_
    rintro e w2 ⟨A2, n2, c2, rfl, hown2, hb2⟩
    obtain rfl : 15 = n2 := HL.out.symm.trans hown2.len
    have hc2 := hown2.cap
    unfold maxLen at hc2
    obtain ⟨hc2a, hc2b⟩ := hc2
    have hbw2 := hbw1.trans (hb2.mono hs1)
    have hs2 := hbw2.size
    have k2 := (hb2.block _ (heap_lt k1)).trans k1
    obtain ⟨g, rfl, hg1, hg2⟩ := hown2.shape (by omega)
    clear ca0 ca1 ca2 ca3 ca4 ca5
    clear hb2 k1 hbw1
    go_wp2_with fail
    refine (GX.out _ _ _ hown2.rb).mono ?_
    intro e w3 hw3
    obtain ⟨rfl, hb3⟩ := hw3
    have hbw3 := hbw2.trans (hb3.mono hs2)
    have hs3 := hbw3.size
    have k3 := (hb3.block _ (heap_lt k2)).trans k2
    have hown3 := hown2.below hb3 (Nat.le_refl _)
    clear hb3 k2 hbw2 hown2
    have k3a := (heap_alloc_old w3 (.cells #[.int .u16 (yt_ : Int), .int .u8 (mot_.toNat : Int), .int .u8 (dt_.toNat : Int), .int .u8 (ht_.toNat : Int), .int .u8 (mit_.toNat : Int), .int .u8 (st_.toNat : Int)] 25) (heap_lt k3)).trans k3
    have hlt3 := heap_lt k3
    go_wp2_with fail
    refine calls_named fun w4 hw4 => ?_
    have hbw4 : Below w.heap.size w w4 := below_named hw4 (hbw3.alloc hs3 _)
    have hs4 := hbw4.size
    have k4 := heap_named hw4 k3a
    have k44 := heap_named hw4 (heap_alloc_new w3 _)
    have hown4 : OwnB w4 w1.heap.size (some ⟨g, 0, none⟩) 15 c2 tb := hw4 ▸ hown3.alloc _
    clear hw4 k3 k3a hown3 hbw3
    refine (UX.out _ _ _ (rb_drop2 hown4)).mono ?_
    intro e w5 hw5
    obtain ⟨rfl, hb5⟩ := hw5
    have hbw5 := hbw4.trans (hb5.mono hs4)
    have hs5 := hbw5.size
    have k5 := (hb5.block _ (heap_lt k4)).trans k4
    have k54 := (hb5.block _ (heap_lt k44)).trans k44
    clear hb5 k4 k44 hbw4 hown4
    have h5a := heap_lt k5
    have h5b := heap_lt k54
    obtain ⟨ca0, ca1, ca2, ca3, ca4, ca5⟩ := cells6 k5
    obtain ⟨cb0, cb1, cb2, cb3, cb4, cb5⟩ := cells6 k54
    have tt := TT.out
    rcases HV.out with ⟨rfl, hne⟩ | rfl
    · have hyo : yt_ < 1950 ∨ 2050 ≤ yt_ := by
        have := HYE.out
        omega
      clear hne
      rw [opt_none]
      rcases hyo with hyo | hyo
      · have q1 : decide ((yt_ : Int) < 1950) = true := decide_eq_true (by omega)
        go_wp2_with fail
        refine (WK.out _ (hT.below' (hbw5.alloc hs5 _))).mono ?_
        intro e w9 hw9
        obtain ⟨rfl, hb9⟩ := hw9
        have hbw9 := (hbw5.alloc hs5 _).trans (hb9.mono (by simp; omega))
        clear hb9
        go_wp2
        go_ret
        exact ⟨rfl, hbw9⟩
      · have q1 : decide ((yt_ : Int) < 1950) = false := decide_eq_false (by omega)
        have q2 : decide (2050 ≤ (yt_ : Int)) = true := decide_eq_true (by omega)
        go_wp2_with fail
        refine (WK.out _ (hT.below' (hbw5.alloc hs5 _))).mono ?_
        intro e w9 hw9
        obtain ⟨rfl, hb9⟩ := hw9
        have hbw9 := (hbw5.alloc hs5 _).trans (hb9.mono (by simp; omega))
        clear hb9
        go_wp2
        go_ret
        exact ⟨rfl, hbw9⟩
    · rw [opt_some]
      unfold tmV Tm.cells
      simp only
      have hq3 : (((yv : Int) % 100) == ((yt_ : Int) % 100)) = true := by
        have := HYE2.out
        rw [beq_iff_eq]
        omega
      have hyo : (yt_ < 1950) ∨ (1950 ≤ yt_ ∧ 2050 ≤ yt_) ∨ (1950 ≤ yt_ ∧ yt_ < 2050) := by omega
      rcases hyo with hyo | hyo | hyo
      · have hd : decide (yv = yt_) = false := by
          have := HYE.out
          exact decide_eq_false (by omega)
        have VT := VTH.out
        rw [hd] at VT
        clear hd VTH
        have q1 : decide (1950 ≤ (yt_ : Int)) = false := decide_eq_false (by omega)
        go_wp2
        refine wp_named fun W1 hW1 => ?_
        have hbW : Below w.heap.size w W1 := below_named hW1 (hbw5.alloc hs5 _)
        have hsW := hbW.size
        have m0 := heap_named hW1 ((heap_alloc_old w5 _ h5a).trans k5)
        have m1 := heap_named hW1 (heap_alloc_new w5 _)
        clear ca0 ca1 ca2 ca3 ca4 ca5 cb0 cb1 cb2 cb3 cb4 cb5
        have c0 : ∀ x : Up W1, x.w.cell? ⟨w.heap.size, 0, none⟩ = some (.int .u16 (yt_ : Int)) := fun x => Lib.cell_of_heap (x.heap m0) 0
        have c1 : ∀ x : Up W1, x.w.cell? ⟨w.heap.size, 1, none⟩ = some (.int .u8 (mot_.toNat : Int)) := fun x => Lib.cell_of_heap (x.heap m0) 1
        have c2 : ∀ x : Up W1, x.w.cell? ⟨w.heap.size, 2, none⟩ = some (.int .u8 (dt_.toNat : Int)) := fun x => Lib.cell_of_heap (x.heap m0) 2
        have c3 : ∀ x : Up W1, x.w.cell? ⟨w.heap.size, 3, none⟩ = some (.int .u8 (ht_.toNat : Int)) := fun x => Lib.cell_of_heap (x.heap m0) 3
        have c4 : ∀ x : Up W1, x.w.cell? ⟨w.heap.size, 4, none⟩ = some (.int .u8 (mit_.toNat : Int)) := fun x => Lib.cell_of_heap (x.heap m0) 4
        have c5 : ∀ x : Up W1, x.w.cell? ⟨w.heap.size, 5, none⟩ = some (.int .u8 (st_.toNat : Int)) := fun x => Lib.cell_of_heap (x.heap m0) 5
        have e0 : ∀ x : Up W1, x.w.cell? ⟨w5.heap.size, 0, none⟩ = some (.int .u16 (yv : Int)) := fun x => Lib.cell_of_heap (x.heap m1) 0
        have e1 : ∀ x : Up W1, x.w.cell? ⟨w5.heap.size, 1, none⟩ = some (.int .u8 (mot_.toNat : Int)) := fun x => Lib.cell_of_heap (x.heap m1) 1
        have e2 : ∀ x : Up W1, x.w.cell? ⟨w5.heap.size, 2, none⟩ = some (.int .u8 (dt_.toNat : Int)) := fun x => Lib.cell_of_heap (x.heap m1) 2
        have e3 : ∀ x : Up W1, x.w.cell? ⟨w5.heap.size, 3, none⟩ = some (.int .u8 (ht_.toNat : Int)) := fun x => Lib.cell_of_heap (x.heap m1) 3
        have e4 : ∀ x : Up W1, x.w.cell? ⟨w5.heap.size, 4, none⟩ = some (.int .u8 (mit_.toNat : Int)) := fun x => Lib.cell_of_heap (x.heap m1) 4
        have e5 : ∀ x : Up W1, x.w.cell? ⟨w5.heap.size, 5, none⟩ = some (.int .u8 (st_.toNat : Int)) := fun x => Lib.cell_of_heap (x.heap m1) 5
        have HS1 := Lib.hid (hT.below' hbW)
        clear m0 m1 hW1 k5 k54 tt
        refine wp_region_up (by kernel_rfl) (by kernel_rfl) ?_
        repeat (go_big_quiet_step ((go_at_call 13; exact Up.calls (WK.out _ (HS1.out.below' (Up.b _))))))
        refine wpQuiet_nil ?_
        rintro _ ⟨x, rfl⟩
        have hbx := x.b
        go_wp2
        go_ret
        exact ⟨rfl, hbW.trans (hbx.mono hsW)⟩
      · have hd : decide (yv = yt_) = false := by
          have := HYE.out
          exact decide_eq_false (by omega)
        have VT := VTH.out
        rw [hd] at VT
        clear hd VTH
        have q1 : decide (1950 ≤ (yt_ : Int)) = true := decide_eq_true (by omega)
        have q2 : decide ((yt_ : Int) < 2050) = false := decide_eq_false (by omega)
        go_wp2
        refine wp_named fun W1 hW1 => ?_
        have hbW : Below w.heap.size w W1 := below_named hW1 (hbw5.alloc hs5 _)
        have hsW := hbW.size
        have m0 := heap_named hW1 ((heap_alloc_old w5 _ h5a).trans k5)
        have m1 := heap_named hW1 (heap_alloc_new w5 _)
        clear ca0 ca1 ca2 ca3 ca4 ca5 cb0 cb1 cb2 cb3 cb4 cb5
        have c0 : ∀ x : Up W1, x.w.cell? ⟨w.heap.size, 0, none⟩ = some (.int .u16 (yt_ : Int)) := fun x => Lib.cell_of_heap (x.heap m0) 0
        have c1 : ∀ x : Up W1, x.w.cell? ⟨w.heap.size, 1, none⟩ = some (.int .u8 (mot_.toNat : Int)) := fun x => Lib.cell_of_heap (x.heap m0) 1
        have c2 : ∀ x : Up W1, x.w.cell? ⟨w.heap.size, 2, none⟩ = some (.int .u8 (dt_.toNat : Int)) := fun x => Lib.cell_of_heap (x.heap m0) 2
        have c3 : ∀ x : Up W1, x.w.cell? ⟨w.heap.size, 3, none⟩ = some (.int .u8 (ht_.toNat : Int)) := fun x => Lib.cell_of_heap (x.heap m0) 3
        have c4 : ∀ x : Up W1, x.w.cell? ⟨w.heap.size, 4, none⟩ = some (.int .u8 (mit_.toNat : Int)) := fun x => Lib.cell_of_heap (x.heap m0) 4
        have c5 : ∀ x : Up W1, x.w.cell? ⟨w.heap.size, 5, none⟩ = some (.int .u8 (st_.toNat : Int)) := fun x => Lib.cell_of_heap (x.heap m0) 5
        have e0 : ∀ x : Up W1, x.w.cell? ⟨w5.heap.size, 0, none⟩ = some (.int .u16 (yv : Int)) := fun x => Lib.cell_of_heap (x.heap m1) 0
        have e1 : ∀ x : Up W1, x.w.cell? ⟨w5.heap.size, 1, none⟩ = some (.int .u8 (mot_.toNat : Int)) := fun x => Lib.cell_of_heap (x.heap m1) 1
        have e2 : ∀ x : Up W1, x.w.cell? ⟨w5.heap.size, 2, none⟩ = some (.int .u8 (dt_.toNat : Int)) := fun x => Lib.cell_of_heap (x.heap m1) 2
        have e3 : ∀ x : Up W1, x.w.cell? ⟨w5.heap.size, 3, none⟩ = some (.int .u8 (ht_.toNat : Int)) := fun x => Lib.cell_of_heap (x.heap m1) 3
        have e4 : ∀ x : Up W1, x.w.cell? ⟨w5.heap.size, 4, none⟩ = some (.int .u8 (mit_.toNat : Int)) := fun x => Lib.cell_of_heap (x.heap m1) 4
        have e5 : ∀ x : Up W1, x.w.cell? ⟨w5.heap.size, 5, none⟩ = some (.int .u8 (st_.toNat : Int)) := fun x => Lib.cell_of_heap (x.heap m1) 5
        have HS1 := Lib.hid (hT.below' hbW)
        clear m0 m1 hW1 k5 k54 tt
        refine wp_region_up (by kernel_rfl) (by kernel_rfl) ?_
        repeat (go_big_quiet_step ((go_at_call 13; exact Up.calls (WK.out _ (HS1.out.below' (Up.b _))))))
        refine wpQuiet_nil ?_
        rintro _ ⟨x, rfl⟩
        have hbx := x.b
        go_wp2
        go_ret
        exact ⟨rfl, hbW.trans (hbx.mono hsW)⟩
      · have hd : decide (yv = yt_) = true := by
          have := HYE.out
          exact decide_eq_true (by omega)
        have VT := VTH.out
        rw [hd] at VT
        clear hd VTH
        have q1 : decide (1950 ≤ (yt_ : Int)) = true := decide_eq_true (by omega)
        have q2 : decide ((yt_ : Int) < 2050) = true := decide_eq_true (by omega)
        go_wp2
        refine wp_named fun W1 hW1 => ?_
        have hbW : Below w.heap.size w W1 := below_named hW1 (hbw5.alloc hs5 _)
        have hsW := hbW.size
        have m0 := heap_named hW1 ((heap_alloc_old w5 _ h5a).trans k5)
        have m1 := heap_named hW1 (heap_alloc_new w5 _)
        clear ca0 ca1 ca2 ca3 ca4 ca5 cb0 cb1 cb2 cb3 cb4 cb5
        have c0 : ∀ x : Up W1, x.w.cell? ⟨w.heap.size, 0, none⟩ = some (.int .u16 (yt_ : Int)) := fun x => Lib.cell_of_heap (x.heap m0) 0
        have c1 : ∀ x : Up W1, x.w.cell? ⟨w.heap.size, 1, none⟩ = some (.int .u8 (mot_.toNat : Int)) := fun x => Lib.cell_of_heap (x.heap m0) 1
        have c2 : ∀ x : Up W1, x.w.cell? ⟨w.heap.size, 2, none⟩ = some (.int .u8 (dt_.toNat : Int)) := fun x => Lib.cell_of_heap (x.heap m0) 2
        have c3 : ∀ x : Up W1, x.w.cell? ⟨w.heap.size, 3, none⟩ = some (.int .u8 (ht_.toNat : Int)) := fun x => Lib.cell_of_heap (x.heap m0) 3
        have c4 : ∀ x : Up W1, x.w.cell? ⟨w.heap.size, 4, none⟩ = some (.int .u8 (mit_.toNat : Int)) := fun x => Lib.cell_of_heap (x.heap m0) 4
        have c5 : ∀ x : Up W1, x.w.cell? ⟨w.heap.size, 5, none⟩ = some (.int .u8 (st_.toNat : Int)) := fun x => Lib.cell_of_heap (x.heap m0) 5
        have e0 : ∀ x : Up W1, x.w.cell? ⟨w5.heap.size, 0, none⟩ = some (.int .u16 (yv : Int)) := fun x => Lib.cell_of_heap (x.heap m1) 0
        have e1 : ∀ x : Up W1, x.w.cell? ⟨w5.heap.size, 1, none⟩ = some (.int .u8 (mot_.toNat : Int)) := fun x => Lib.cell_of_heap (x.heap m1) 1
        have e2 : ∀ x : Up W1, x.w.cell? ⟨w5.heap.size, 2, none⟩ = some (.int .u8 (dt_.toNat : Int)) := fun x => Lib.cell_of_heap (x.heap m1) 2
        have e3 : ∀ x : Up W1, x.w.cell? ⟨w5.heap.size, 3, none⟩ = some (.int .u8 (ht_.toNat : Int)) := fun x => Lib.cell_of_heap (x.heap m1) 3
        have e4 : ∀ x : Up W1, x.w.cell? ⟨w5.heap.size, 4, none⟩ = some (.int .u8 (mit_.toNat : Int)) := fun x => Lib.cell_of_heap (x.heap m1) 4
        have e5 : ∀ x : Up W1, x.w.cell? ⟨w5.heap.size, 5, none⟩ = some (.int .u8 (st_.toNat : Int)) := fun x => Lib.cell_of_heap (x.heap m1) 5
        have HS1 := Lib.hid (hT.below' hbW)
        clear m0 m1 hW1 k5 k54 tt
        refine wp_region_up (by kernel_rfl) (by kernel_rfl) ?_
        repeat (go_big_quiet_step ((go_at_call 13; exact Up.calls (WK.out _ (HS1.out.below' (Up.b _))))))
        refine wpQuiet_nil ?_
        rintro _ ⟨x, rfl⟩
        have hbx := x.b
        go_wp2
        go_ret
        exact ⟨rfl, hbW.trans (hbx.mono hsW)⟩
end Go.Proofs.YtepakdgpaaeelaaDoor
