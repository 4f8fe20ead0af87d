/-
  pe: the parts of an image (walk).
-/
import Derived.Test.YtjfpiidofbjdhaaDoorPeR
namespace Go.Proofs.YtjfpiidofbjdhaaDoor
open Go.RowKit Go
set_option linter.unusedVariables false
set_option maxRecDepth 100000
theorem parse_err {bs : List UInt8} {er : Nat} (h : parseQ bs = .inl er) : er = 9 ∨ er = 10 := by
  unfold parseQ at h
  split at h
  · injection h with h; exact .inr h.symm
  · split at h
    · injection h with h; exact .inl h.symm
    · split at h
      · cases h
      · split at h
        · injection h with h; exact .inl h.symm
        · split at h
          · injection h with h; exact .inl h.symm
          · split at h
            · injection h with h; exact .inr h.symm
            · cases h
set_option maxHeartbeats 4000000 in
theorem parts_big (A : Option Addr) (n c : Nat) (w : World) (hS : Sizes w) (hn : 16384 < n) :
    Calls Tryd.prog 5 #[.slice A n c] w fun e w' => e = .returned (.bool true) ∧ Below w.heap.size w w' := by
  have t1 : decide ((16384 : Int) < (n : Int)) = true := by simp; omega
  have C := Lib.hid (works_any w hS)
  clear hn
  go_enter Tryd.func5, Tryd.ntmps5
  go_wp2_with (fail)
  (with_reducible refine C.out.mono ?_)
  rintro e w1 ⟨rfl, h1⟩
  have H1 := Lib.hid h1
  clear h1
  go_wp2_with (fail)
  go_ret
  exact ⟨rfl, H1.out⟩
set_option maxHeartbeats 4000000 in
theorem parts_err (A : Option Addr) (n c : Nat) (bs : List UInt8) (w : World) (hR : RB w A n bs) (hS : Sizes w) (hnc : n ≤ c) (hcc : c ≤ 9223372036854775807) (hn : n ≤ 16384) (er : Nat) (he : parseQ bs = .inl er) :
    Calls Tryd.prog 5 #[.slice A n c] w fun e w' => e = .returned (.bool true) ∧ Below w.heap.size w w' := by
  have t1 : decide ((16384 : Int) < (n : Int)) = false := by simp; omega
  have her := parse_err he
  have t2 : ((er : Int) != 0) = true := by rcases her with rfl | rfl <;> decide
  have C := Lib.hid (parse_any A n c bs w hR hS hnc hcc)
  have HE := Lib.hid he
  have HS := Lib.hid hS
  clear hR hS hn he her
  go_enter Tryd.func5, Tryd.ntmps5
  go_wp2_with (fail)
  (with_reducible refine C.out.mono ?_)
  clear C
  rintro e w1 ⟨hp, hb1⟩
  rw [HE.out] at hp
  obtain rfl : e = .returned (.tuple #[.agg imZero, .int .i64 (er : Nat)]) := hp
  have HB1 := Lib.hid hb1
  clear hb1
  go_upto_region 4 with (refine wpList_store_row rfl _ _ _ rfl w1.heap.size imZero rfl rfl _ _ (has_new w1 _) (by kernel_rfl) rfl (by simp [imZero, Value.oneCell']) ?_)
  refine wp_nm fun W3 hW3 => ?_
  have k3 : W3.heap[w1.heap.size]? = some (.cells imZero 28) := by rw [← hW3]; exact setRow_heap _ _ _ _ _ _ (has_new w1 _)
  have hb3 : Below w1.heap.size w1 W3 := by rw [← hW3]; exact below_setRow (kp_alloc (Below.refl _ _) _) (Nat.le_refl _) _
  have K3 := Lib.hid (And.intro k3 (kp_call HB1.out hb3))
  have C := Lib.hid (same_zero W3)
  clear hW3 k3 hb3
  go_wp2_with (refine wpList_load_row rfl _ _ rfl w1.heap.size rfl _ _ _ _ K3.out.1 Tryd.underlying28 rfl (by kernel_rfl) ?_)
  refine C.out.mono ?_
  clear C
  rintro e w4 ⟨rfl, h4⟩
  have H4 := Lib.hid (kp_call K3.out.2 h4)
  have C := Lib.hid (works_any w4 (HS.out.below' H4.out))
  clear h4
  go_wp2_with (fail)
  (with_reducible refine C.out.mono ?_)
  clear C
  rintro e w5 ⟨rfl, h5⟩
  have H5 := Lib.hid (kp_call H4.out h5)
  clear h5
  go_wp2_with (fail)
  go_ret
  exact ⟨rfl, H5.out⟩
end Go.Proofs.YtjfpiidofbjdhaaDoor
