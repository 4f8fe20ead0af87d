/-
  stamp: the moment of sixteen bytes.
-/
import Derived.Test.YtfampefflkkckaaDoorStG
import Derived.StillTailTactics
import Derived.Deep.RegionHeld3
namespace Go.Proofs.YtfampefflkkckaaDoor
open Go.RowKit Go
set_option linter.unusedVariables false
set_option maxRecDepth 100000
/-- Read, of the bytes of a right moment. -/
theorem sread_right (A : Option Addr) (c : Nat) (bs : List UInt8) (w : World) (hR : RB w A 16 bs) (hc : 16 ≤ c) (hc2 : c ≤ 9223372036854775807) (hT : Sizes w) (hz : ∀ j, j < 9 → bs[7 + j]? = some 0)
    (q2 q3 q4 q5 q6 : UInt8) (e2 : bs[2]? = some q2) (e3 : bs[3]? = some q3) (e4 : bs[4]? = some q4) (e5 : bs[5]? = some q5) (e6 : bs[6]? = some q6) (hright : rightB ⟨leN (cut bs 0 2), q2, q3, q4, q5, q6⟩ = true) :
    Calls Tryd.prog 47 #[.slice A 16 c] w fun e w' => e = .returned (.tuple #[tmV ⟨leN (cut bs 0 2), q2, q3, q4, q5, q6⟩, .int .i64 0]) ∧ Below w.heap.size w w' := by
  have HZ := Lib.hid hz
  have hb0 : ∀ cs, Below w.heap.size w (w.alloc (.cells cs 71)) := fun cs => (Below.refl _ _).alloc (Nat.le_refl _) _
  have G := Lib.hid (fun W (h : RB W A 16 bs) (h2 : Sizes W) => get_ok A 16 c bs 0 2 W h h2 (by omega) rfl (by omega))
  have hR1 : ∀ cs, RB (w.alloc (.cells cs 71)) A 16 bs := fun cs => hR.alloc _
  have HR1 := Lib.hid hR1
  obtain ⟨b, off, q0, rfl, hb, e0, c0⟩ := hR.at_ (k := 0) (by omega)
  have hat : ∀ k, k < 16 → ∃ q, bs[k]? = some q ∧ w.cell? ⟨b, off + k, none⟩ = some (.int .u8 (q.toNat : Int)) := fun k hk => by
    obtain ⟨b', off', q, e, _, h1, h2⟩ := hR.at_ hk
    injection e with e
    injection e with e1 e2
    subst e1; subst e2
    exact ⟨q, h1, h2⟩
  have HAT := Lib.hid hat
  clear hz hat hR1
  go_enter Tryd.func47, Tryd.ntmps47
  go_wp2
  go_loop [5, 16] (fun x i => ∃ k : Nat, k ≤ 9 ∧ i = .int .i64 k) (fun _ i => 9 - (intOf i).toNat)
  case atStart => exact ⟨0, by omega, rfl⟩
  case round =>
    obtain ⟨k, hk, rfl⟩ := hrel
    by_cases hlt : k < 9
    · obtain ⟨q, hq, hcell⟩ := HAT.out (7 + k) (by omega)
      rw [HZ.out k hlt] at hq
      injection hq with hq
      subst hq
      have hcell' : w.cell? ⟨b, off + 7 + k, none⟩ = some (.int .u8 0) := by rw [Nat.add_assoc]; exact hcell
      go_wp2
      go_round
      case rel => exact ⟨k + 1, by omega, by go_num⟩
      case measure => simp [intOf]; omega
    · obtain rfl : k = 9 := by omega
      go_wp2_with fail
      refine (G.out _ (HR1.out _) (hT.alloc _)).mono ?_
      rintro e w' ⟨rfl, rfl⟩
      have k2 : w.cell? ⟨b, off + 2, none⟩ = some (.int .u8 (q2.toNat : Int)) := by
        obtain ⟨q, hq, hk⟩ := HAT.out 2 (by omega)
        rw [e2] at hq
        injection hq with hq
        subst hq
        exact hk
      have k3 : w.cell? ⟨b, off + 3, none⟩ = some (.int .u8 (q3.toNat : Int)) := by
        obtain ⟨q, hq, hk⟩ := HAT.out 3 (by omega)
        rw [e3] at hq
        injection hq with hq
        subst hq
        exact hk
      have k4 : w.cell? ⟨b, off + 4, none⟩ = some (.int .u8 (q4.toNat : Int)) := by
        obtain ⟨q, hq, hk⟩ := HAT.out 4 (by omega)
        rw [e4] at hq
        injection hq with hq
        subst hq
        exact hk
      have k5 : w.cell? ⟨b, off + 5, none⟩ = some (.int .u8 (q5.toNat : Int)) := by
        obtain ⟨q, hq, hk⟩ := HAT.out 5 (by omega)
        rw [e5] at hq
        injection hq with hq
        subst hq
        exact hk
      have k6 : w.cell? ⟨b, off + 6, none⟩ = some (.int .u8 (q6.toNat : Int)) := by
        obtain ⟨q, hq, hk⟩ := HAT.out 6 (by omega)
        rw [e6] at hq
        injection hq with hq
        subst hq
        exact hk
      have hyl : leN (cut bs 0 2) < 65536 := by
        have h9 := leN_lt (cut bs 0 2)
        rw [cut_len _ _ _ (by rw [hR.1]; omega)] at h9
        exact h9
      obtain ⟨y, hyv⟩ : ∃ y, y = leN (cut bs 0 2) := ⟨_, rfl⟩
      rw [← hyv] at hyl hright ⊢
      have HYV := Lib.hid hyv
      have RT := right_any ⟨y, q2, q3, q4, q5, q6⟩
      have RT2 : Hid (∀ W, Calls Tryd.prog 55 #[.agg #[.int .u16 (y : Int), .int .u8 (q2.toNat : Int), .int .u8 (q3.toNat : Int), .int .u8 (q4.toNat : Int), .int .u8 (q5.toNat : Int), .int .u8 (q6.toNat : Int)]] W fun e w' => e = .returned (.bool true) ∧ Below W.heap.size W w') := fun W => by
        have := RT W hyl
        rwa [hright] at this
      clear RT hright hyv e2 e3 e4 e5 e6
      go_wp2
      go_region_held3 (fun w' => w'.cell? ⟨b, off + 2, none⟩ = some (.int .u8 (q2.toNat : Int)) ∧ w'.cell? ⟨b, off + 3, none⟩ = some (.int .u8 (q3.toNat : Int)) ∧ w'.cell? ⟨b, off + 4, none⟩ = some (.int .u8 (q4.toNat : Int)) ∧ w'.cell? ⟨b, off + 5, none⟩ = some (.int .u8 (q5.toNat : Int)) ∧ w'.cell? ⟨b, off + 6, none⟩ = some (.int .u8 (q6.toNat : Int))) (go_keep) (fail)
      go_wp2_with fail
      refine (RT2.out _).mono ?_
      intro e w4 hw4
      obtain ⟨rfl, hb4⟩ := hw4
      have g0 : w4.heap[w.heap.size]? = some (.cells Tm.zero.cells 71) := (hb4.block w.heap.size (by simp; omega)).trans (by
        show ((w.alloc _).alloc _).heap[w.heap.size]? = _
        rw [heap_alloc_old _ _ (by simp)]
        exact heap_alloc_new w _)
      have g1 : w4.heap[w.heap.size + 1]? = some (.cells (Tm.cells ⟨y, q2, q3, q4, q5, q6⟩) 71) := (hb4.block (w.heap.size + 1) (by simp)).trans (heap_alloc2_new w _ _)
      have hbl4 : Below w.heap.size w w4 := (((hb0 _).alloc (by simp) _).drew).trans (hb4.mono (by simp; omega))
      have hs : ∀ (W : World) (j : Nat) (u : Value), Below w.heap.size w W → Below w.heap.size w (W.setCell ⟨w.heap.size, j, none⟩ u) := fun W j u hW => hW.setCell (Nat.le_refl _) u
      have HS := Lib.hid hs
      have G0 := Lib.hid g0
      have l0 : w4.cell? ⟨w.heap.size + 1, 0, none⟩ = some (.int .u16 (y : Int)) := Lib.cell_of_heap g1 0
      have z0 : w4.cell? ⟨w.heap.size, 0, none⟩ = some (.int .u16 0) := Lib.cell_of_heap g0 0
      have f0 : w4.frozen? ⟨w.heap.size, 0, none⟩ = false := Lib.frozen_of_heap g0 0
      have l1 : w4.cell? ⟨w.heap.size + 1, 1, none⟩ = some (.int .u8 (q2.toNat : Int)) := Lib.cell_of_heap g1 1
      have z1 : w4.cell? ⟨w.heap.size, 1, none⟩ = some (.int .u8 0) := Lib.cell_of_heap g0 1
      have f1 : w4.frozen? ⟨w.heap.size, 1, none⟩ = false := Lib.frozen_of_heap g0 1
      have l2 : w4.cell? ⟨w.heap.size + 1, 2, none⟩ = some (.int .u8 (q3.toNat : Int)) := Lib.cell_of_heap g1 2
      have z2 : w4.cell? ⟨w.heap.size, 2, none⟩ = some (.int .u8 0) := Lib.cell_of_heap g0 2
      have f2 : w4.frozen? ⟨w.heap.size, 2, none⟩ = false := Lib.frozen_of_heap g0 2
      have l3 : w4.cell? ⟨w.heap.size + 1, 3, none⟩ = some (.int .u8 (q4.toNat : Int)) := Lib.cell_of_heap g1 3
      have z3 : w4.cell? ⟨w.heap.size, 3, none⟩ = some (.int .u8 0) := Lib.cell_of_heap g0 3
      have f3 : w4.frozen? ⟨w.heap.size, 3, none⟩ = false := Lib.frozen_of_heap g0 3
      have l4 : w4.cell? ⟨w.heap.size + 1, 4, none⟩ = some (.int .u8 (q5.toNat : Int)) := Lib.cell_of_heap g1 4
      have z4 : w4.cell? ⟨w.heap.size, 4, none⟩ = some (.int .u8 0) := Lib.cell_of_heap g0 4
      have f4 : w4.frozen? ⟨w.heap.size, 4, none⟩ = false := Lib.frozen_of_heap g0 4
      have l5 : w4.cell? ⟨w.heap.size + 1, 5, none⟩ = some (.int .u8 (q6.toNat : Int)) := Lib.cell_of_heap g1 5
      have z5 : w4.cell? ⟨w.heap.size, 5, none⟩ = some (.int .u8 0) := Lib.cell_of_heap g0 5
      have f5 : w4.frozen? ⟨w.heap.size, 5, none⟩ = false := Lib.frozen_of_heap g0 5
      clear g0 g1 hs hb4
      go_wp2
      all_goals refine bodyPost_ret (results_tm rfl _ _ w.heap.size ⟨y, q2, q3, q4, q5, q6⟩ rfl (heap_set_tm _ _ ⟨y, q2, q3, q4, q5, q6⟩ Tm.zero G0.out)) rfl ?_
      all_goals exact ⟨by rw [← HYV.out]; rfl, HS.out _ _ _ (HS.out _ _ _ (HS.out _ _ _ (HS.out _ _ _ (HS.out _ _ _ (HS.out _ _ _ hbl4)))))⟩
end Go.Proofs.YtfampefflkkckaaDoor
