/-
  measure: the statement on images whose hashed bytes are the same.
-/
import Derived.Test.YtcedojmhgmgcgaaDoorMeM
import Derived.Test.YtcedojmhgmgcgaaDoorMp9
import Derived.StillTailTactics
namespace Go.Proofs.YtcedojmhgmgcgaaDoor
open Go.RowKit Go
set_option linter.unusedVariables false
set_option linter.unusedSimpArgs false
set_option maxRecDepth 100000
attribute [local go_sem] Oper.semAt_some
theorem alike_big (A0 : Option Addr) (n0 c0 : Nat) (A1 : Option Addr) (n1 c1 : Nat) (w : World) (hT : Sizes w) (h : 8192 < n0 ∨ 8192 < n1) :
    Calls Tryd.prog 6 #[.slice A0 n0 c0, .slice A1 n1 c1] w fun e w' => e = .returned (.bool true) ∧ Below w.heap.size w w' := by
  have C := Lib.hid (works17_any w hT)
  by_cases h0 : 8192 < n0
  · have t1 : decide ((8192 : Int) < (n0 : Int)) = true := by simp; omega
    go_enter Tryd.func6, Tryd.ntmps6
    go_wp2_with (fail)
    (with_reducible refine C.out.mono ?_)
    rintro e w1 ⟨rfl, h1⟩
    have H1 := Lib.hid h1
    clear h1
    go_wp2_with (fail)
    go_ret
    exact ⟨rfl, H1.out⟩
  · have t1 : decide ((8192 : Int) < (n0 : Int)) = false := by simp; omega
    have t2 : decide ((8192 : Int) < (n1 : Int)) = true := by simp; omega
    go_enter Tryd.func6, Tryd.ntmps6
    go_wp2_with (fail)
    (with_reducible refine C.out.mono ?_)
    rintro e w1 ⟨rfl, h1⟩
    have H1 := Lib.hid h1
    clear h1
    go_wp2_with (fail)
    go_ret
    exact ⟨rfl, H1.out⟩
set_option maxHeartbeats 16000000 in
theorem alike_small (A0 : Option Addr) (n0 c0 : Nat) (b0 : List UInt8) (A1 : Option Addr) (n1 c1 : Nat) (b1 : List UInt8) (w : World) (hR0 : RB w A0 n0 b0) (hR1 : RB w A1 n1 b1) (hT : Sizes w) (hnc0 : n0 ≤ c0) (hcc0 : c0 ≤ 9223372036854775807) (hnc1 : n1 ≤ c1) (hcc1 : c1 ≤ 9223372036854775807) (hn0 : n0 ≤ 8192) (hn1 : n1 ≤ 8192) (hbad : ¬ ∃ im0 im1, parseQ b0 = .inr im0 ∧ parseQ b1 = .inr im1) :
    Calls Tryd.prog 6 #[.slice A0 n0 c0, .slice A1 n1 c1] w fun e w' => e = .returned (.bool true) ∧ Below w.heap.size w w' := by
  have t1 : decide ((8192 : Int) < (n0 : Int)) = false := by simp; omega
  have t2 : decide ((8192 : Int) < (n1 : Int)) = false := by simp; omega
  have HS := Lib.hid hT
  have R1 := Lib.hid (mranges_any A0 n0 c0 b0 w hR0 hT hnc0 hcc0)
  have H0 := Lib.hid (And.intro hR0 hR1)
  clear hR0 hR1 hT
  go_enter Tryd.func6, Tryd.ntmps6
  go_wp2_with (fail)
  (with_reducible refine R1.out.mono ?_)
  clear R1
  rintro e w1 hp
  obtain ⟨L0, m0, d0, er0, rfl, hra0⟩ := ranges_abs hp
  have H1 := Lib.hid (And.intro hra0 (And.intro (H0.out.1.below hra0.b) (And.intro (H0.out.2.below hra0.b) hra0.b)))
  have R2 := Lib.hid (mranges_any A1 n1 c1 b1 w1 H1.out.2.2.1 (HS.out.below' H1.out.2.2.2) hnc1 hcc1)
  clear hp hra0
  go_wp2_with (fail)
  (with_reducible refine R2.out.mono ?_)
  clear R2
  rintro e w2 hp
  obtain ⟨L1, m1, d1, er1, rfl, hra1⟩ := ranges_abs hp
  have H2 := Lib.hid (And.intro hra1 (And.intro (H1.out.2.1.below hra1.b) (And.intro (H1.out.2.2.1.below hra1.b) (kp_call H1.out.2.2.2 hra1.b))))
  have D1 := Lib.hid (digest_any A0 n0 c0 b0 w2 H2.out.2.1 (HS.out.below' H2.out.2.2.2) hnc0 hcc0)
  clear hp hra1
  go_wp2_with (fail)
  (with_reducible refine D1.out.mono ?_)
  clear D1
  rintro e w3 hp
  obtain ⟨ds0, iv0, er2, rfl, hda0⟩ := digest_abs hp
  have DA0 := Lib.hid hda0
  have DSZ0 := Lib.hid hda0.sz
  have DS10 := Lib.hid hda0.s1
  have DSO0 := Lib.hid hda0.so
  clear hp hda0
  go_upto_region 6 with (first
    | (refine wpList_store_row rfl _ _ _ rfl w3.heap.size ds0 rfl rfl _ _ (has_alloc (has_new w3 (.cells zD 28)) _) DSZ0.out DS10.out DSO0.out ?_)
    | (refine wpList_store_row rfl _ _ _ rfl (w3.heap.size + 1) iv0 rfl rfl _ _ ((setRow_other _ _ _ _ (by omega)).trans (has_new' (w3.alloc (.cells zD 28)) (.cells imZero 33) _ (by simp))) DA0.out.isz DA0.out.is1 DA0.out.iso ?_))
  refine wp_nm fun w4 hw4 => ?_
  obtain ⟨q0, hq0⟩ : ∃ q0, w3.heap.size = q0 := ⟨_, rfl⟩
  have K4 : Hid (w4.heap[q0]? = some (.cells ds0 28) ∧ w4.heap[q0 + 1]? = some (.cells iv0 33) ∧ Below w3.heap.size w3 w4) := by
    rw [← hw4, ← hq0]
    exact Lib.hid ⟨(setRow_other _ _ _ _ (by omega)).trans (setRow_heap _ _ _ _ _ _ (has_alloc (has_new w3 (.cells zD 28)) _)), setRow_heap _ _ _ _ _ _ ((setRow_other _ _ _ _ (by omega)).trans (has_new' (w3.alloc (.cells zD 28)) (.cells imZero 33) _ (by simp))), below_setRow (below_setRow (kp_alloc (kp_alloc (Below.refl _ _) _) _) (Nat.le_refl _) _) (by omega) _⟩
  have HZq0 := Lib.hid hq0
  rw [hq0]
  clear hw4 hq0
  have H4 := Lib.hid (And.intro (kp_call H2.out.2.2.2 (kp_call DA0.out.b K4.out.2.2)) (And.intro (H2.out.2.1.below (kp_call DA0.out.b K4.out.2.2)) (H2.out.2.2.1.below (kp_call DA0.out.b K4.out.2.2))))
  have D2 := Lib.hid (digest_any A1 n1 c1 b1 w4 H4.out.2.2 (HS.out.below' H4.out.1) hnc1 hcc1)
  go_wp2_with (fail)
  (with_reducible refine D2.out.mono ?_)
  clear D2
  rintro e w5 hp
  obtain ⟨ds1, iv1, er3, rfl, hda1⟩ := digest_abs hp
  have DA1 := Lib.hid hda1
  have DSZ1 := Lib.hid hda1.sz
  have DS11 := Lib.hid hda1.s1
  have DSO1 := Lib.hid hda1.so
  clear hp hda1
  go_upto_region 7 with (first
    | (refine wpList_store_row rfl _ _ _ rfl w5.heap.size ds1 rfl rfl _ _ (has_alloc (has_new w5 (.cells zD 28)) _) DSZ1.out DS11.out DSO1.out ?_)
    | (refine wpList_store_row rfl _ _ _ rfl (w5.heap.size + 1) iv1 rfl rfl _ _ ((setRow_other _ _ _ _ (by omega)).trans (has_new' (w5.alloc (.cells zD 28)) (.cells imZero 33) _ (by simp))) DA1.out.isz DA1.out.is1 DA1.out.iso ?_))
  refine wp_nm fun w6 hw6 => ?_
  obtain ⟨q1, hq1⟩ : ∃ q1, w5.heap.size = q1 := ⟨_, rfl⟩
  have K6 : Hid (w6.heap[q1]? = some (.cells ds1 28) ∧ w6.heap[q1 + 1]? = some (.cells iv1 33) ∧ Below w5.heap.size w5 w6) := by
    rw [← hw6, ← hq1]
    exact Lib.hid ⟨(setRow_other _ _ _ _ (by omega)).trans (setRow_heap _ _ _ _ _ _ (has_alloc (has_new w5 (.cells zD 28)) _)), setRow_heap _ _ _ _ _ _ ((setRow_other _ _ _ _ (by omega)).trans (has_new' (w5.alloc (.cells zD 28)) (.cells imZero 33) _ (by simp))), below_setRow (below_setRow (kp_alloc (kp_alloc (Below.refl _ _) _) _) (Nat.le_refl _) _) (by omega) _⟩
  have HZq1 := Lib.hid hq1
  rw [hq1]
  clear hw6 hq1
  have hb46 : Below w4.heap.size w4 w6 := kp_call DA1.out.b K6.out.2.2
  have hb26 : Below w2.heap.size w2 w6 := kp_call (kp_call DA0.out.b K4.out.2.2) hb46
  have H6 := Lib.hid (And.intro (kp_call H4.out.1 hb46) (And.intro (H4.out.2.1.below hb46) (And.intro (H4.out.2.2.below hb46) (And.intro (has_below K4.out.1 hb46) K6.out.1))))
  have HRA := Lib.hid (And.intro H1.out.1 H2.out.1)
  have HB26 := Lib.hid hb26
  clear hb46 hb26 H4 K4 K6 H2 H1 H0
  by_cases h0 : er0 = 0
  · by_cases h1 : er1 = 0
    · exact absurd ⟨_, _, (HRA.out.1.ok h0).choose_spec.1, (HRA.out.2.ok h1).choose_spec.1⟩ hbad
    · have x0 : ((er0 : Int) != 0) = false := by rw [h0]; rfl
      have y0 : ((er0 : Int) == 0) = true := by rw [h0]; rfl
      have x1 : ((er1 : Int) != 0) = true := by simp; omega
      have y1 : ((er1 : Int) == 0) = false := by simp; omega
      have hz1 : ds1 = zD := by
        have h5 := (HRA.out.2.no h1).1
        by_cases h6 : er3 = 0
        · obtain ⟨im, _, _, _, _, _, _, _, h7, _⟩ := DA1.out.ok h6; rw [h5] at h7; cases h7
        · exact (DA1.out.no h6).2.1
      subst hz1
      have heq : ∀ W, (Op.equalIn 10000 28 (.agg zD) (.agg zD)).run Tryd.prog W = .ok true W := fun W => dig_same z32 rfl W
      clear h0 h1
      go_wp2_with (first
        | (refine wpList_load_rowH rfl _ _ rfl q0 rfl _ _ _ _ H6.out.2.2.2.1 Tryd.underlying28 rfl DSZ0.out ?_)
        | (refine wpList_load_rowH rfl _ _ rfl q1 rfl _ _ _ _ H6.out.2.2.2.2 Tryd.underlying28 rfl DSZ1.out ?_)
        | (refine wpList_buildH rfl 28 _ rfl zD (by kernel_rfl) ?_)
        | (go_at_call 8; (with_reducible refine (works17_any _ (HS.out.below' H6.out.1)).mono ?_); rintro e w7 ⟨rfl, hb7⟩; have HB7 := Lib.hid (kp_call H6.out.1 hb7); clear hb7))
      go_ret
      exact ⟨rfl, HB7.out⟩
  · by_cases h1 : er1 = 0
    · have x0 : ((er0 : Int) != 0) = true := by simp; omega
      have y0 : ((er0 : Int) == 0) = false := by simp; omega
      have x1 : ((er1 : Int) != 0) = false := by rw [h1]; rfl
      have y1 : ((er1 : Int) == 0) = true := by rw [h1]; rfl
      have hz0 : ds0 = zD := by
        have h5 := (HRA.out.1.no h0).1
        by_cases h6 : er2 = 0
        · obtain ⟨im, _, _, _, _, _, _, _, h7, _⟩ := DA0.out.ok h6; rw [h5] at h7; cases h7
        · exact (DA0.out.no h6).2.1
      subst hz0
      have heq : ∀ W, (Op.equalIn 10000 28 (.agg zD) (.agg zD)).run Tryd.prog W = .ok true W := fun W => dig_same z32 rfl W
      clear h0 h1
      go_wp2_with (first
        | (refine wpList_load_rowH rfl _ _ rfl q0 rfl _ _ _ _ H6.out.2.2.2.1 Tryd.underlying28 rfl DSZ0.out ?_)
        | (refine wpList_load_rowH rfl _ _ rfl q1 rfl _ _ _ _ H6.out.2.2.2.2 Tryd.underlying28 rfl DSZ1.out ?_)
        | (refine wpList_buildH rfl 28 _ rfl zD (by kernel_rfl) ?_)
        | (go_at_call 8; (with_reducible refine (works17_any _ (HS.out.below' H6.out.1)).mono ?_); rintro e w7 ⟨rfl, hb7⟩; have HB7 := Lib.hid (kp_call H6.out.1 hb7); clear hb7))
      go_ret
      exact ⟨rfl, HB7.out⟩
    · have x0 : ((er0 : Int) != 0) = true := by simp; omega
      have y0 : ((er0 : Int) == 0) = false := by simp; omega
      have x1 : ((er1 : Int) != 0) = true := by simp; omega
      have y1 : ((er1 : Int) == 0) = false := by simp; omega
      have hz0 : ds0 = zD := by
        have h5 := (HRA.out.1.no h0).1
        by_cases h6 : er2 = 0
        · obtain ⟨im, _, _, _, _, _, _, _, h7, _⟩ := DA0.out.ok h6; rw [h5] at h7; cases h7
        · exact (DA0.out.no h6).2.1
      subst hz0
      have hz1 : ds1 = zD := by
        have h5 := (HRA.out.2.no h1).1
        by_cases h6 : er3 = 0
        · obtain ⟨im, _, _, _, _, _, _, _, h7, _⟩ := DA1.out.ok h6; rw [h5] at h7; cases h7
        · exact (DA1.out.no h6).2.1
      subst hz1
      have heq : ∀ W, (Op.equalIn 10000 28 (.agg zD) (.agg zD)).run Tryd.prog W = .ok true W := fun W => dig_same z32 rfl W
      clear h0 h1
      go_wp2_with (first
        | (refine wpList_load_rowH rfl _ _ rfl q0 rfl _ _ _ _ H6.out.2.2.2.1 Tryd.underlying28 rfl DSZ0.out ?_)
        | (refine wpList_load_rowH rfl _ _ rfl q1 rfl _ _ _ _ H6.out.2.2.2.2 Tryd.underlying28 rfl DSZ1.out ?_)
        | (refine wpList_buildH rfl 28 _ rfl zD (by kernel_rfl) ?_)
        | (go_at_call 8; (with_reducible refine (works17_any _ (HS.out.below' H6.out.1)).mono ?_); rintro e w7 ⟨rfl, hb7⟩; have HB7 := Lib.hid (kp_call H6.out.1 hb7); clear hb7))
      go_ret
      exact ⟨rfl, HB7.out⟩
end Go.Proofs.YtcedojmhgmgcgaaDoor
