/-
  measure: Ranges.
-/
import Derived.Test.YtcedojmhgmgcgaaGreatDoorMeF
import Derived.Test.YtcedojmhgmgcgaaGreatDoorMp6
import Derived.Laws.Tables
import Derived.Laws.CopyOwn
import Derived.Deep.Cut
namespace Go.Proofs.YtcedojmhgmgcgaaGreatDoor
open Go.RowKit Go
set_option linter.unusedVariables false
set_option linter.unusedSimpArgs false
set_option maxRecDepth 100000
attribute [local go_sem] Oper.semAt_some
/-- What Ranges tells. -/
def RangesP (w : World) (bs : List UInt8) (e : Ending) (w' : World) : Prop :=
  (match parseQ bs with
    | .inl er => e = .returned (.tuple #[.slice none 0 0, .int .i64 (er : Nat)])
    | .inr im => ∃ (A : Option Addr) (n c : Nat), e = .returned (.tuple #[.slice A n c, .int .i64 0]) ∧ n = (rangesM im bs.length).length ∧ OwnR w' w.heap.size 39 2 A n c ((rangesM im bs.length).flatMap rngCells)) ∧ Below w.heap.size w w'
theorem parse_er {bs : List UInt8} {er : Nat} (h : parseQ bs = .inl er) : er = 9 ∨ er = 10 := by
  unfold parseQ at h
  split at h
  · injection h with h; omega
  · split at h
    · injection h with h; omega
    · split at h
      · cases h
      · split at h
        · injection h with h; omega
        · split at h
          · injection h with h; omega
          · split at h
            · injection h with h; omega
            · cases h
set_option maxHeartbeats 4000000 in
theorem mranges_any (A : Option Addr) (n c : Nat) (bs : List UInt8) (w : World) (hR : RB w A n bs) (hS : Sizes w) (hnc : n ≤ c) (hcc : c ≤ 9223372036854775807) :
    Calls Tryz.prog 8 #[.slice A n c] w (RangesP w bs) := by
  have C := Lib.hid (parse_any A n c bs w hR hS hnc hcc)
  have hl := hR.1
  unfold RangesP
  clear hR hS
  cases hq : parseQ bs with
  | inl er =>
    have her := parse_er hq
    have HQ := Lib.hid hq
    clear hq hl
    dsimp only
    go_enter Tryz.func8, Tryz.ntmps8
    go_wp2_with (fail)
    (with_reducible refine C.out.mono ?_)
    clear C
    rintro e w1 ⟨hp, hb1⟩
    rw [HQ.out] at hp
    obtain rfl : e = .returned (.tuple #[.agg imZero, .int .i64 (er : Nat)]) := hp
    have HB1 := Lib.hid hb1
    clear hb1
    have t1 : ((er : Int) != 0) = true := by simp; omega
    go_upto_region 2 with (refine wpList_store_row rfl _ _ _ rfl w1.heap.size imZero rfl rfl _ _ (has_new w1 _) (by kernel_rfl) rfl (by simp [imZero, Value.oneCell']) ?_)
    refine wp_nm fun W3 hW3 => ?_
    have hb3 : Below w1.heap.size w1 W3 := by rw [← hW3]; exact below_setRow (kp_alloc (Below.refl _ _) _) (Nat.le_refl _) _
    have HB3 := Lib.hid (kp_call HB1.out hb3)
    clear hW3 hb3 HB1
    go_wp2_with (fail)
    go_ret2
    exact ⟨rfl, HB3.out⟩
  | inr im =>
    have hf := Lib.hid (im_fit bs im hq)
    have hlb := hf.out.len
    have HL := Lib.hid hl
    rw [hl] at hf hlb
    have HQ := Lib.hid hq
    clear hq hl
    dsimp only
    rw [HL.out]
    go_enter Tryz.func8, Tryz.ntmps8
    go_wp2_with (fail)
    (with_reducible refine C.out.mono ?_)
    clear C
    rintro e w1 ⟨hp, hb1⟩
    rw [HQ.out] at hp
    obtain ⟨V, m, cV, U, k, cU, xs, rfl, him⟩ := hp
    have H1 := Lib.hid (And.intro him hb1)
    clear him hb1
    go_upto_region 2 with (refine wpList_store_row rfl _ _ _ rfl w1.heap.size (imVal im V m cV U k cU) rfl rfl _ _ (has_new w1 _) (by kernel_rfl) rfl (by simp [imVal, Value.oneCell']) ?_)
    refine wp_nm fun W3 hW3 => ?_
    have k3 : W3.heap[w1.heap.size]? = some (.cells (imVal im V m cV U k cU) 30) := by rw [← hW3]; exact setRow_heap _ _ _ _ _ _ (has_new w1 _)
    have hb3 : Below w1.heap.size w1 W3 := by rw [← hW3]; exact below_setRow (kp_alloc (Below.refl _ _) _) (Nat.le_refl _) _
    have K3 := Lib.hid (And.intro k3 (kp_call H1.out.2 hb3))
    have CR := Lib.hid (ranges_any im V m cV U k cU n W3 (H1.out.1.secs.reads.below hb3 (Nat.le_refl _)) H1.out.1.ml hf.out)
    clear hW3 k3 hb3 H1
    go_wp2_with (refine wpList_load_row rfl _ _ rfl w1.heap.size rfl _ _ _ _ K3.out.1 Tryz.underlying30 rfl (by kernel_rfl) ?_)
    (with_reducible refine CR.out.mono ?_)
    clear CR
    rintro e w4 ⟨gx, gs, ge, A4, c4, rfl, hri, _, hb4, _⟩
    have CC := Lib.hid (collectR_any gx gs ge _ w4 hri)
    have HB4 := Lib.hid (kp_call K3.out.2 hb4)
    clear hri hb4 K3
    go_wp2_with (fail)
    (with_reducible refine CC.out.mono ?_)
    clear CC
    rintro e w5 ⟨A5, c5, rfl, ho5, hb5⟩
    have HO := Lib.hid (ho5.lower HB4.out.size)
    have HB5 := Lib.hid (kp_call HB4.out hb5)
    clear ho5 hb5 HB4
    rw [rngOf_all] at HO ⊢
    obtain ⟨q, hq⟩ : ∃ q, (rangesM im n).length = q := ⟨_, rfl⟩
    rw [hq] at HO ⊢
    have HQQ := Lib.hid hq
    clear hq
    go_wp2_with (fail)
    go_ret2
    exact ⟨⟨A5, q, c5, rfl, HQQ.out.symm, HO.out⟩, HB5.out⟩
end Go.Proofs.YtcedojmhgmgcgaaGreatDoor
