/-
  measure: the statement on which bytes the ranges cover: what is not told.
-/
import Derived.Test.YtcedojmhgmgcgaaDoorMeM
import Derived.Test.YtcedojmhgmgcgaaDoorMp9
import Derived.StillTailTactics
import Derived.Deep.Cut
namespace Go.Proofs.YtcedojmhgmgcgaaDoor
open Go.RowKit Go
set_option linter.unusedVariables false
set_option linter.unusedSimpArgs false
set_option maxRecDepth 100000
attribute [local go_sem] Oper.semAt_some
theorem covers_big (A : Option Addr) (n c : Nat) (w : World) (hT : Sizes w) (h : 8192 < n) :
    Calls Tryd.prog 3 #[.slice A n c] w fun e w' => e = .returned (.bool true) ∧ Below w.heap.size w w' := by
  have C := Lib.hid (works17_any w hT)
  have t1 : decide ((8192 : Int) < (n : Int)) = true := by simp; omega
  go_enter Tryd.func3, Tryd.ntmps3
  go_wp2_with (fail)
  (with_reducible refine C.out.mono ?_)
  rintro e w1 ⟨rfl, h1⟩
  have H1 := Lib.hid h1
  clear h1
  go_wp2_with (fail)
  go_ret
  exact ⟨rfl, H1.out⟩
set_option maxHeartbeats 16000000 in
theorem covers_err (A : Option Addr) (n c : Nat) (bs : List UInt8) (w : World) (hR : RB w A n bs) (hT : Sizes w) (hnc : n ≤ c) (hcc : c ≤ 9223372036854775807) (hn : n ≤ 8192) (er : Nat) (he : parseQ bs = .inl er) :
    Calls Tryd.prog 3 #[.slice A n c] w fun e w' => e = .returned (.bool true) ∧ Below w.heap.size w w' := by
  have her := parse_er he
  have HE := Lib.hid he
  clear he
  have t1 : decide ((8192 : Int) < (n : Int)) = false := by simp; omega
  have HS := Lib.hid hT
  have R1 := Lib.hid (mranges_any A n c bs w hR hT hnc hcc)
  have H0 := Lib.hid hR
  clear hR hT
  go_enter Tryd.func3, Tryd.ntmps3
  go_wp2_with (fail)
  (with_reducible refine R1.out.mono ?_)
  clear R1
  rintro e w1 hp
  obtain ⟨L0, m0, d0, er0, rfl, hra0⟩ := ranges_abs hp
  have H1 := Lib.hid (And.intro hra0 (And.intro (H0.out.below hra0.b) hra0.b))
  have D1 := Lib.hid (digest_any A n c bs w1 H1.out.2.1 (HS.out.below' H1.out.2.2) hnc hcc)
  clear hp hra0
  go_wp2_with (fail)
  (with_reducible refine D1.out.mono ?_)
  clear D1
  rintro e w3 hp
  obtain ⟨ds0, iv0, er2, rfl, hda0⟩ := digest_abs hp
  have DA0 := Lib.hid hda0
  have DSZ0 := Lib.hid hda0.sz
  have DS10 := Lib.hid hda0.s1
  have DSO0 := Lib.hid hda0.so
  clear hp hda0
  go_upto_region 5 with (first
    | (refine wpList_store_row rfl _ _ _ rfl w3.heap.size ds0 rfl rfl _ _ (has_alloc (has_new w3 (.cells zD 28)) _) DSZ0.out DS10.out DSO0.out ?_)
    | (refine wpList_store_row rfl _ _ _ rfl (w3.heap.size + 1) iv0 rfl rfl _ _ ((setRow_other _ _ _ _ (by omega)).trans (has_new' (w3.alloc (.cells zD 28)) (.cells imZero 33) _ (by simp))) DA0.out.isz DA0.out.is1 DA0.out.iso ?_))
  refine wp_nm fun w4 hw4 => ?_
  obtain ⟨q0, hq0⟩ : ∃ q0, w3.heap.size = q0 := ⟨_, rfl⟩
  have K4 : Hid (w4.heap[q0]? = some (.cells ds0 28) ∧ w4.heap[q0 + 1]? = some (.cells iv0 33) ∧ Below w3.heap.size w3 w4) := by
    rw [← hw4, ← hq0]
    exact Lib.hid ⟨(setRow_other _ _ _ _ (by omega)).trans (setRow_heap _ _ _ _ _ _ (has_alloc (has_new w3 (.cells zD 28)) _)), setRow_heap _ _ _ _ _ _ ((setRow_other _ _ _ _ (by omega)).trans (has_new' (w3.alloc (.cells zD 28)) (.cells imZero 33) _ (by simp))), below_setRow (below_setRow (kp_alloc (kp_alloc (Below.refl _ _) _) _) (Nat.le_refl _) _) (by omega) _⟩
  have HZq0 := Lib.hid hq0
  rw [hq0]
  clear hw4 hq0
  have hb14 : Below w1.heap.size w1 w4 := kp_call DA0.out.b K4.out.2.2
  have H4 := Lib.hid (And.intro (kp_call H1.out.2.2 hb14) (And.intro (H1.out.2.1.below hb14) (And.intro K4.out.1 (And.intro K4.out.2.1 hb14))))
  have HRA := Lib.hid H1.out.1
  clear hb14 K4 H1 H0
  have z0 : er0 = er ∧ L0 = none ∧ m0 = 0 ∧ d0 = 0 := by
    by_cases h : er0 = 0
    · obtain ⟨im, h1, _⟩ := HRA.out.ok h; rw [HE.out] at h1; cases h1
    · obtain ⟨h1, h2⟩ := HRA.out.no h; rw [HE.out] at h1; injection h1 with h1; exact ⟨h1.symm, h2⟩
  have z2 : er2 = er ∧ ds0 = zD := by
    by_cases h : er2 = 0
    · obtain ⟨im, _, _, _, _, _, _, _, h1, _⟩ := DA0.out.ok h; rw [HE.out] at h1; cases h1
    · obtain ⟨h1, h2, _⟩ := DA0.out.no h; rw [HE.out] at h1; injection h1 with h1; exact ⟨h1.symm, h2⟩
  obtain ⟨rfl, rfl, rfl, rfl⟩ := z0
  obtain ⟨z2, rfl⟩ := z2
  subst z2
  have x0 : ((er2 : Int) != 0) = true := by simp; omega
  have x1 : ((er2 : Int) == (er2 : Int)) = true := by simp
  have heq : ∀ W, (Op.equalIn 10000 28 (.agg zD) (.agg zD)).run Tryd.prog W = .ok true W := fun W => dig_same z32 rfl W
  go_wp2_with (first
    | (refine wpList_load_rowH rfl _ _ rfl q0 rfl _ _ _ _ H4.out.2.2.1 Tryd.underlying28 rfl DSZ0.out ?_)
    | (refine wpList_buildH rfl 28 _ rfl zD (by kernel_rfl) ?_)
    | (go_at_call 8; (with_reducible refine (works17_any _ (HS.out.below' H4.out.1)).mono ?_); rintro e w7 ⟨rfl, hb7⟩; have HB7 := Lib.hid (kp_call H4.out.1 hb7); clear hb7))
  go_ret
  exact ⟨rfl, HB7.out⟩
end Go.Proofs.YtcedojmhgmgcgaaDoor
