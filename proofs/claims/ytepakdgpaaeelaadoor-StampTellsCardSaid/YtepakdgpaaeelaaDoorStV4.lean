/-
  stamp: the document's answer of General, of any bytes.
-/
import Derived.Test.YtepakdgpaaeelaaDoorStV3
import Derived.IntWalk
namespace Go.Proofs.YtepakdgpaaeelaaDoor
open Go.RowKit Go
set_option linter.unusedVariables false
set_option maxRecDepth 100000
attribute [local go_sem ↓] Go.wp_at_zero Go.wp_at_succ
theorem LS.rb {W w : World} (h : LS W w) {A : Option Addr} {n : Nat} {bs : List UInt8} (hR : RB W A n bs) : RB w A n bs := hR.below h
set_option maxHeartbeats 1600000 in
theorem refGen_any (A : Option Addr) (n c : Nat) (bs : List UInt8) (w : World) (hR : RB w A n bs) (hn : n ≤ 1000000) (hc : n ≤ c) (hc2 : c ≤ 9223372036854775807) :
    Calls Tryd.prog 18 #[.slice A n c] w fun e w' => e = .returned (optV (genO bs)) ∧ Below w.heap.size w w' := by
  have hb0 : ∀ cs, Below w.heap.size w (w.alloc (.cells cs 25)) := fun cs => (Below.refl _ _).alloc (Nat.le_refl _) _
  have G0 := Lib.hid (heap_alloc_new w (.cells Tm.zero.cells 25))
  by_cases hn15 : n = 15
  · subst hn15
    rw [genO_mom bs hR.1]
    have T0 : Hid (∀ W, RB W A 15 bs → Calls Tryd.prog 34 #[.slice A 15 c, .int .i64 0] W fun e w' => e = .returned (.int .i64 (twoN bs 0 : Nat)) ∧ Below W.heap.size W w') := fun W h => refTwo_below A 15 c bs 0 W h (by omega) (by omega)
    have T2 : Hid (∀ W, RB W A 15 bs → Calls Tryd.prog 34 #[.slice A 15 c, .int .i64 2] W fun e w' => e = .returned (.int .i64 (twoN bs 2 : Nat)) ∧ Below W.heap.size W w') := fun W h => refTwo_below A 15 c bs 2 W h (by omega) (by omega)
    have htl : twoN bs 0 ≤ 100 := twoI_le _ _
    have htl2 : twoN bs 2 ≤ 100 := twoI_le _ _
    obtain ⟨g, off, q, hA, hg, _, _⟩ := hR.at_ (k := 0) (by omega)
    subst hA
    have MM : Hid (∀ (y : Nat) (W : World), y < 65536 → RB W (some ⟨g, off, none⟩) 15 bs → Calls Tryd.prog 35 #[.int .i64 (y : Int), .slice (some ⟨g, off + 4, none⟩) 11 (c - 4)] W fun e w' => e = .returned (optV (momO y (bs.drop 4))) ∧ Below W.heap.size W w') := fun y W hy h => moment_any y _ _ _ W (by have := rb_drop (m := 4) (n := 11) h; simpa [Addr.add] using this) hy
    generalize twoN bs 0 = x at T0 htl ⊢
    generalize twoN bs 2 = z at T2 htl2 ⊢
    have HRB := Lib.hid hR
    clear hR hn
    have cc1 : (15 : Int) ≤ (c : Int) := by omega
    by_cases hx : x = 100
    · rw [if_pos (.inl hx)]
      have d1 : ((x : Int) == 100) = true := beq_iff_eq.2 (by omega)
      clear hx MM
      go_enter Tryd.func18, Tryd.ntmps18
      go_wp2_with fail
      refine (T0.out _ (HRB.out.alloc _)).mono ?_
      intro e w1 hw1
      obtain ⟨rfl, hb1⟩ := hw1
      have hbw1 := (hb0 _).trans (hb1.mono (by simp))
      have k1 := (hb1.block w.heap.size (by simp)).trans G0.out
      have hs1 := hbw1.size
      clear hb1
      obtain ⟨a0, a1, a2, a3, a4, a5⟩ := cells6 k1
      obtain ⟨f0, f1, f2, f3, f4, f5⟩ := free6 k1
      have K1 := Lib.hid k1
      clear k1
      go_wp2
      exact bodyPost_ret (results_tm rfl _ _ w.heap.size Tm.zero rfl (set6 K1.out)) rfl ⟨rfl, below6 hbw1 (Nat.le_refl _)⟩
    · have d1 : ((x : Int) == 100) = false := beq_eq_false_iff_ne.2 (by omega)
      by_cases hz : z = 100
      · rw [if_pos (.inr hz)]
        have d2 : ((z : Int) == 100) = true := beq_iff_eq.2 (by omega)
        clear hx hz MM
        go_enter Tryd.func18, Tryd.ntmps18
        go_wp2_with fail
        refine (T0.out _ (HRB.out.alloc _)).mono ?_
        intro e w1 hw1
        obtain ⟨rfl, hb1⟩ := hw1
        have hbw1 := (hb0 _).trans (hb1.mono (by simp))
        have k1 := (hb1.block w.heap.size (by simp)).trans G0.out
        have hs1 := hbw1.size
        clear hb1
        go_wp2_with fail
        refine (T2.out _ (HRB.out.below hbw1)).mono ?_
        intro e w2 hw2
        obtain ⟨rfl, hb2⟩ := hw2
        have hbw2 := hbw1.trans (hb2.mono hs1)
        have k2 := (hb2.block _ (heap_lt k1)).trans k1
        have hs2 := hbw2.size
        clear hb2 k1 hbw1 hs1
        obtain ⟨a0, a1, a2, a3, a4, a5⟩ := cells6 k2
        obtain ⟨f0, f1, f2, f3, f4, f5⟩ := free6 k2
        have K1 := Lib.hid k2
        clear k2
        go_wp2
        exact bodyPost_ret (results_tm rfl _ _ w.heap.size Tm.zero rfl (set6 K1.out)) rfl ⟨rfl, below6 hbw2 (Nat.le_refl _)⟩
      · rw [if_neg (by omega)]
        have d2 : ((z : Int) == 100) = false := beq_eq_false_iff_ne.2 (by omega)
        have MY := Lib.hid (fun W => MM.out (100 * x + z) W (by omega))
        have s1 : Hid (IntKind.i64.wrap (100 * (x : Int)) = 100 * (x : Int)) := IntWalk.i64_in _ (by omega)
        have s2 : Hid (IntKind.i64.wrap (100 * (x : Int) + (z : Int)) = ((100 * x + z : Nat) : Int)) := (IntWalk.i64_in _ (by omega)).trans (by omega)
        generalize momO (100 * x + z) (bs.drop 4) = r at MY ⊢
        generalize 100 * x + z = yy at MY s2
        clear hx hz MM
        cases r with
        | none =>
          rw [opt_none] at MY ⊢
          go_enter Tryd.func18, Tryd.ntmps18
          go_wp2_with fail
          refine (T0.out _ (HRB.out.alloc _)).mono ?_
          intro e w1 hw1
          obtain ⟨rfl, hb1⟩ := hw1
          have hbw1 := (hb0 _).trans (hb1.mono (by simp))
          have k1 := (hb1.block w.heap.size (by simp)).trans G0.out
          have hs1 := hbw1.size
          clear hb1
          go_wp2_with fail
          refine (T2.out _ (HRB.out.below hbw1)).mono ?_
          intro e w2 hw2
          obtain ⟨rfl, hb2⟩ := hw2
          have hbw2 := hbw1.trans (hb2.mono hs1)
          have k2 := (hb2.block _ (heap_lt k1)).trans k1
          have hs2 := hbw2.size
          clear hb2 k1 hbw1 hs1
          go_wp2
          have L0 : LS w w2 := hbw2
          have s1' := s1.out
          have s2' := s2.out
          go_region_held3 (fun W => LS w W) ((repeat (with_reducible (first | assumption | refine LS.drew ?_ | refine LS.alloc ?_ _ | refine LS.set ?_ (by omega) _))))
            (first
              | ((with_reducible refine (T0.out _ (LS.rb (by assumption) HRB.out)).mono ?_); (intro e w3 hw3; obtain ⟨rfl, hb3⟩ := hw3; have hls3 : LS w w3 := LS.call (by assumption) hb3; have k3 := (hb3.block _ (heap_lt k2)).trans k2))
              | ((with_reducible refine (T2.out _ (LS.rb (by assumption) HRB.out)).mono ?_); (intro e w4 hw4; obtain ⟨rfl, hb4⟩ := hw4; have hls4 : LS w w4 := LS.call (by assumption) hb4; have k4 := (hb4.block _ (heap_lt k3)).trans k3))
              | ((with_reducible refine (MY.out _ (LS.rb (by assumption) HRB.out)).mono ?_); (intro e w5 hw5; obtain ⟨rfl, hb5⟩ := hw5; have hls5 : LS w w5 := LS.call (by assumption) hb5; have k5 := (hb5.block _ (heap_lt k4)).trans k4; obtain ⟨a0, a1, a2, a3, a4, a5⟩ := cells6 k5; obtain ⟨f0, f1, f2, f3, f4, f5⟩ := free6 k5; have K5 := Lib.hid k5; clear k5)))
          clear s1' s2'
          go_wp2
          exact bodyPost_ret (results_tm rfl _ _ w.heap.size Tm.zero rfl (set6 K5.out)) rfl ⟨rfl, by assumption⟩
        | some v =>
          rw [opt_some] at MY ⊢
          unfold tmV Tm.cells at MY ⊢
          obtain ⟨yv_, mov_, dv_, hv_, miv_, sv_⟩ := v
          simp only at MY ⊢
          go_enter Tryd.func18, Tryd.ntmps18
          go_wp2_with fail
          refine (T0.out _ (HRB.out.alloc _)).mono ?_
          intro e w1 hw1
          obtain ⟨rfl, hb1⟩ := hw1
          have hbw1 := (hb0 _).trans (hb1.mono (by simp))
          have k1 := (hb1.block w.heap.size (by simp)).trans G0.out
          have hs1 := hbw1.size
          clear hb1
          go_wp2_with fail
          refine (T2.out _ (HRB.out.below hbw1)).mono ?_
          intro e w2 hw2
          obtain ⟨rfl, hb2⟩ := hw2
          have hbw2 := hbw1.trans (hb2.mono hs1)
          have k2 := (hb2.block _ (heap_lt k1)).trans k1
          have hs2 := hbw2.size
          clear hb2 k1 hbw1 hs1
          go_wp2
          have L0 : LS w w2 := hbw2
          have s1' := s1.out
          have s2' := s2.out
          go_region_held3 (fun W => LS w W) ((repeat (with_reducible (first | assumption | refine LS.drew ?_ | refine LS.alloc ?_ _ | refine LS.set ?_ (by omega) _))))
            (first
              | ((with_reducible refine (T0.out _ (LS.rb (by assumption) HRB.out)).mono ?_); (intro e w3 hw3; obtain ⟨rfl, hb3⟩ := hw3; have hls3 : LS w w3 := LS.call (by assumption) hb3; have k3 := (hb3.block _ (heap_lt k2)).trans k2))
              | ((with_reducible refine (T2.out _ (LS.rb (by assumption) HRB.out)).mono ?_); (intro e w4 hw4; obtain ⟨rfl, hb4⟩ := hw4; have hls4 : LS w w4 := LS.call (by assumption) hb4; have k4 := (hb4.block _ (heap_lt k3)).trans k3))
              | ((with_reducible refine (MY.out _ (LS.rb (by assumption) HRB.out)).mono ?_); (intro e w5 hw5; obtain ⟨rfl, hb5⟩ := hw5; have hls5 : LS w w5 := LS.call (by assumption) hb5; have k5 := (hb5.block _ (heap_lt k4)).trans k4; obtain ⟨a0, a1, a2, a3, a4, a5⟩ := cells6 k5; obtain ⟨f0, f1, f2, f3, f4, f5⟩ := free6 k5; have K5 := Lib.hid k5; clear k5)))
          clear s1' s2'
          go_wp2
          exact bodyPost_ret (results_tm rfl _ _ w.heap.size ⟨yv_, mov_, dv_, hv_, miv_, sv_⟩ rfl (set6 K5.out)) rfl ⟨rfl, by assumption⟩
  · have e : genO bs = none := gen_len (by rw [hR.1]; exact hn15)
    rw [e]
    have d1 : ((n : Int) != 15) = true := by rw [bne_iff_ne]; omega
    have d2 : ((n : Int) == 15) = false := beq_eq_false_iff_ne.2 (by omega)
    clear hn15 e hR
    go_enter Tryd.func18, Tryd.ntmps18
    go_wp2
    exact bodyPost_ret (results_tm rfl _ _ w.heap.size Tm.zero rfl G0.out) rfl ⟨rfl, hb0 _⟩
end Go.Proofs.YtepakdgpaaeelaaDoor
