/-
  sha: the constants.
-/
import Derived.Test.YtmbkbehccmadfaaShE
namespace Go.Proofs.Ytmbkbehccmadfaa
open Go.RowKit Go
set_option linter.unusedVariables false
set_option linter.unusedSimpArgs false
set_option maxRecDepth 100000
set_option maxHeartbeats 2000000 in
theorem constants_any (w : World) : Calls Try.prog 28 #[] w fun e w' => e = .returned (.agg (K0.map v32).toArray) ∧ Below w.heap.size w w' := by
  have PA := Lib.hid (fun W => primes_any W)
  go_enter Try.func28, Try.ntmps28
  go_wp2_with fail
  refine (PA.out _).mono ?_
  rintro e w1 ⟨rfl, hb1⟩
  have b0 : Below w.heap.size w w1 := kp_call (kp_alloc (kp_alloc (Below.refl w.heap.size w) _) _) hb1
  have k0 : ArrIs w1 w.heap.size 59 (List.replicate 64 (.int .u32 0)) := has_below (has_alloc (has_new w _) _) hb1
  have k1 : ArrIs w1 (w.heap.size + 1) 59 (part32 64 (K0.take 0)) := has_below (has_new' _ _ _ (by simp)) hb1
  have H2 : Hid (ArrIs w1 w.heap.size 59 (List.replicate 64 (.int .u32 0)) ∧ ArrIs w1 (w.heap.size + 1) 59 (part32 64 (K0.take 0)) ∧ Below w.heap.size w w1) := ⟨k0, k1, b0⟩
  obtain ⟨cs, hcs⟩ : ∃ cs, (PR64.map v64).toArray = cs := ⟨_, rfl⟩
  have HCS := Lib.hid hcs
  rw [hcs]
  clear hcs hb1 b0 k0 k1
  go_wp2
  go_loopw [5] (fun vi wl => ∃ k : Nat, vi = .int .i64 (k : Int) ∧ k ≤ 64 ∧ Hid (ArrIs wl w.heap.size 59 (List.replicate 64 (.int .u32 0)) ∧ ArrIs wl (w.heap.size + 1) 59 (part32 64 (K0.take k)) ∧ Below w.heap.size w wl)) (fun vi _ => 64 - (intOf vi).toNat)
  case atStart => exact ⟨0, rfl, Nat.zero_le _, H2.out⟩
  case round =>
    obtain ⟨k, rfl, hk, HK⟩ := hrel
    clear H2
    by_cases hlt : k < 64
    · obtain ⟨p, hp, hpb⟩ := pr_get k (by omega)
      have hix : ∀ W, (Instr.index 66 (.agg cs) (.int .i64 (k : Int))).run Try.prog W = .ok (.int .u64 (p : Int)) W := fun W => index_u64 cs k p hlt (by rw [← HCS.out]; simp [hp]) W
      have SQ := Lib.hid (cbroot_any p hpb wr)
      have HP := Lib.hid hp
      have i1 : (k : Int) < 64 := by omega
      clear hp
      go_wp2_with fail
      refine SQ.out.mono ?_
      rintro e w3 ⟨rfl, hb3⟩
      obtain ⟨a0, a1, hb⟩ := HK.out
      have hl8 := part32_len 64 (K0.take k) (by rw [List.length_take, K0_len]; omega)
      have hln : (K0.take k).length = k := by rw [List.length_take, K0_len]; omega
      have a1' := a1.below hb3
      obtain ⟨u, hu⟩ : ∃ u, (part32 64 (K0.take k))[k]? = some u := ⟨_, List.getElem?_eq_getElem (by omega)⟩
      have hcc := a1'.cell hu
      have hf := a1'.free k
      have HN : Hid (ArrIs (w3.setCell ⟨w.heap.size + 1, k, none⟩ (v32 (cbRoot p))) w.heap.size 59 (List.replicate 64 (.int .u32 0)) ∧ ArrIs (w3.setCell ⟨w.heap.size + 1, k, none⟩ (v32 (cbRoot p))) (w.heap.size + 1) 59 (part32 64 (K0.take (k + 1))) ∧ Below w.heap.size w (w3.setCell ⟨w.heap.size + 1, k, none⟩ (v32 (cbRoot p)))) := by
        refine ⟨(a0.below hb3).far (by omega), ?_, kp_set (kp_call hb hb3) (by omega)⟩
        rw [K0_snoc k p HP.out, part32_next 64 _ _ (by rw [hln]; exact hlt), hln]
        exact a1'.set k _
      clear a0 a1 hb a1' hu hl8 hln hb3 HK hix
      go_wp2
      go_roundw
      case rel => exact ⟨k + 1, by go_num, by omega, HN.out⟩
      case measure => simp [intOf]; omega
    · obtain ⟨a0, a1, hb⟩ := HK.out
      have i1 : ¬ (k : Int) < 64 := by omega
      rw [List.take_of_length_le (by rw [K0_len]; omega), part32_full 64 _ K0_len] at a1
      obtain ⟨ds, hds⟩ : ∃ ds, (K0.map v32).toArray = ds := ⟨_, rfl⟩
      have hone : ds.all (·.oneCell') = true := by rw [← hds]; exact all32 _
      have hsz : ds.size = 64 := by rw [← hds]; simp [K0_len]
      have hi : (Try.prog.info? 59).map (·.size) = some ds.size := by rw [hsz]; kernel_rfl
      have A1 : Hid (wr.heap[w.heap.size + 1]? = some (.cells ds 59 (0, 0))) := by rw [← hds]; exact a1
      have A0 : Hid (wr.heap[w.heap.size]? = some (.cells (List.replicate 64 (.int .u32 0)).toArray 59 (0, 0))) := a0
      have AR : Hid ((wr.setRow w.heap.size ds).heap[w.heap.size]? = some (.cells ds 59 (0, 0))) := setRow_heap wr _ _ _ _ _ a0
      have HB := Lib.hid (below_setRow hb (Nat.le_refl w.heap.size) ds)
      have HDS := Lib.hid hds
      have HC := Lib.hid (show _ ∧ _ ∧ _ from ⟨hsz, hone, hi⟩)
      clear hds a0 a1 hb hsz hone hi HK
      go_wp2_with (first
        | (refine wpList_load_row rfl _ _ rfl (w.heap.size + 1) rfl _ _ _ _ A1.out Try.underlying59 rfl HC.out.2.2 ?_)
        | (refine wpList_store_row rfl _ _ _ rfl w.heap.size ds rfl rfl _ _ A0.out HC.out.2.2 (by rw [HC.out.1]; simp) HC.out.2.1 ?_))
      refine bodyPost_ret (results_cell_row rfl _ _ w.heap.size _ _ _ _ rfl AR.out Try.underlying59 rfl HC.out.2.2) rfl ?_
      exact ⟨by rw [HDS.out], HB.out⟩
end Go.Proofs.Ytmbkbehccmadfaa
