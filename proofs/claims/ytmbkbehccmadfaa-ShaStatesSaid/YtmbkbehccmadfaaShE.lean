/-
  sha: an element of an array that is a value.
-/
import Derived.Test.YtmbkbehccmadfaaShD
namespace Go.Proofs.Ytmbkbehccmadfaa
open Go.RowKit Go
set_option linter.unusedVariables false
set_option linter.unusedSimpArgs false
set_option maxRecDepth 100000
theorem index_u64 (cs : Array Value) (i : Nat) (x : Int) (hi : i < 64) (hu : cs[i]? = some (.int .u64 x)) (w : World) : (Instr.index 66 (.agg cs) (.int .i64 (i : Int))).run Try.prog w = .ok (.int .u64 x) w := by
  have h1 : (i : Int) < 64 := by omega
  simp [Instr.index, go_sem, run_underlying Try.underlying66, h1, hu]
  intro h; omega
theorem index_u32 (cs : Array Value) (i : Nat) (x : Int) (hi : i < 8) (hu : cs[i]? = some (.int .u32 x)) (w : World) : (Instr.index 34 (.agg cs) (.int .i64 (i : Int))).run Try.prog w = .ok (.int .u32 x) w := by
  have h1 : (i : Int) < 8 := by omega
  simp [Instr.index, go_sem, run_underlying Try.underlying34, h1, hu]
  intro h; omega
abbrev v32 (x : Nat) : Value := .int .u32 (x : Int)
theorem all32 (l : List Nat) : (l.map v32).toArray.all (·.oneCell') = true := by
  simp only [List.all_toArray, List.all_map, List.all_eq_true]
  intro x _
  rfl
/-- An array of n words of which the first ones are told. -/
def part32 (n : Nat) (l : List Nat) : List Value := l.map v32 ++ List.replicate (n - l.length) (.int .u32 0)
theorem part32_len (n : Nat) (l : List Nat) (h : l.length ≤ n) : (part32 n l).length = n := by unfold part32; simp; omega
theorem part32_next (n : Nat) (l : List Nat) (x : Nat) (h : l.length < n) : part32 n (l ++ [x]) = (part32 n l).set l.length (v32 x) := by
  unfold part32
  rw [List.set_append_right _ _ (by simp), List.length_map, Nat.sub_self]
  obtain ⟨k, hk⟩ : ∃ k, n - l.length = k + 1 := ⟨n - l.length - 1, by omega⟩
  rw [hk, List.length_append, show n - (l.length + [x].length) = k by simp; omega, List.replicate_succ]
  simp
theorem part32_full (n : Nat) (l : List Nat) (h : l.length = n) : part32 n l = l.map v32 := by unfold part32; rw [h]; simp
theorem pr_get (k : Nat) (hk : k < 64) : ∃ p, PR64[k]? = some p ∧ p < 1000 := by
  refine ⟨_, List.getElem?_eq_getElem (by rw [pr_len]; exact hk), ?_⟩
  have := pr_bd _ (List.getElem_mem (show k < PR64.length by rw [pr_len]; exact hk))
  omega
def H0 : List Nat := (PR64.take 8).map sqRoot
def K0 : List Nat := PR64.map cbRoot
theorem H0_len : H0.length = 8 := by unfold H0; rw [List.length_map, List.length_take, pr_len]; rfl
theorem K0_len : K0.length = 64 := by unfold K0; rw [List.length_map, pr_len]
theorem H0_snoc (k p : Nat) (hk : k < 8) (h : PR64[k]? = some p) : H0.take (k + 1) = H0.take k ++ [sqRoot p] := by
  have : H0[k]? = some (sqRoot p) := by unfold H0; rw [List.getElem?_map, List.getElem?_take, if_pos hk, h]; rfl
  rw [List.take_add_one, this]; rfl
theorem K0_snoc (k p : Nat) (h : PR64[k]? = some p) : K0.take (k + 1) = K0.take k ++ [cbRoot p] := by
  have : K0[k]? = some (cbRoot p) := by unfold K0; rw [List.getElem?_map, h]; rfl
  rw [List.take_add_one, this]; rfl
set_option maxHeartbeats 2000000 in
theorem firstWords_any (w : World) : Calls Try.prog 27 #[] w fun e w' => e = .returned (.agg (H0.map v32).toArray) ∧ Below w.heap.size w w' := by
  have PA := Lib.hid (fun W => primes_any W)
  go_enter Try.func27, Try.ntmps27
  go_wp2_with fail
  refine (PA.out _).mono ?_
  rintro e w1 ⟨rfl, hb1⟩
  have b0 := kp_alloc (kp_alloc (Below.refl w.heap.size w) (.cells #[.int .u32 0, .int .u32 0, .int .u32 0, .int .u32 0, .int .u32 0, .int .u32 0, .int .u32 0, .int .u32 0] 34)) (.cells #[.int .u32 0, .int .u32 0, .int .u32 0, .int .u32 0, .int .u32 0, .int .u32 0, .int .u32 0, .int .u32 0] 34)
  have k0 : ArrIs w1 w.heap.size 34 (List.replicate 8 (.int .u32 0)) := has_below (has_alloc (has_new w _) _) hb1
  have k1 : ArrIs w1 (w.heap.size + 1) 34 (part32 8 (H0.take 0)) := has_below (has_new' _ _ _ (by simp)) hb1
  have hz1 := hb1.size
  simp only [World.size_alloc] at hz1
  have HB1 := Lib.hid (kp_call b0 hb1)
  have HK0 := Lib.hid k0
  have HK1 := Lib.hid k1
  clear b0 hb1 k0 k1
  obtain ⟨cs, hcs⟩ : ∃ cs, (PR64.map v64).toArray = cs := ⟨_, rfl⟩
  have HCS := Lib.hid hcs
  have hcsz : cs.size = 64 := by rw [← hcs]; simp [pr_len]
  have hone : cs.all (·.oneCell') = true := by rw [← hcs]; kernel_rfl
  have hi : (Try.prog.info? 66).map (·.size) = some cs.size := by rw [hcsz]; kernel_rfl
  rw [hcs]
  have HC := Lib.hid (show _ ∧ _ ∧ _ from ⟨hcsz, hone, hi⟩)
  clear hcs hcsz hone hi
  go_wp2_with (refine wpList_store_row rfl _ _ _ rfl w1.heap.size cs rfl rfl _ _ (has_new w1 _) HC.out.2.2 (by rw [HC.out.1]; rfl) HC.out.2.1 ?_)
  refine wp_nm fun W2 hW2 => ?_
  have hb2 : Below w1.heap.size w1 W2 := by rw [← hW2]; exact below_setRow (kp_alloc (Below.refl _ _) _) (Nat.le_refl _) _
  have k2 : ArrIs W2 w1.heap.size 66 (PR64.map v64) := by
    rw [← hW2]
    unfold ArrIs
    rw [setRow_heap _ w1.heap.size _ _ _ _ (has_new w1 _), ← HCS.out]
  have HB2 := Lib.hid (kp_call HB1.out hb2)
  have H2 : Hid (ArrIs W2 w.heap.size 34 (List.replicate 8 (.int .u32 0)) ∧ ArrIs W2 (w.heap.size + 1) 34 (part32 8 (H0.take 0)) ∧ ArrIs W2 w1.heap.size 66 (PR64.map v64)) := ⟨HK0.out.below hb2, HK1.out.below hb2, k2⟩
  clear hW2 hb2 k2 HK0 HK1 HC
  obtain ⟨G1, hG1⟩ : ∃ G1, w1.heap.size = G1 := ⟨_, rfl⟩
  rw [hG1] at hz1 H2 ⊢
  clear hG1
  go_wp2
  go_loopw [5] (fun vi wl => ∃ k : Nat, vi = .int .i64 (k : Int) ∧ k ≤ 8 ∧ Hid (ArrIs wl w.heap.size 34 (List.replicate 8 (.int .u32 0)) ∧ ArrIs wl (w.heap.size + 1) 34 (part32 8 (H0.take k)) ∧ ArrIs wl G1 66 (PR64.map v64) ∧ Below w.heap.size w wl)) (fun vi _ => 8 - (intOf vi).toNat)
  case atStart => exact ⟨0, rfl, Nat.zero_le _, H2.out.1, H2.out.2.1, H2.out.2.2, HB2.out⟩
  case round =>
    obtain ⟨k, rfl, hk, HK⟩ := hrel
    clear H2 HB2 HB1
    by_cases hlt : k < 8
    · obtain ⟨p, hp, hpb⟩ := pr_get k (by omega)
      obtain ⟨a0, a1, a2, hb⟩ := HK.out
      have hc := a2.cell (j := k) (u := v64 p) (by rw [List.getElem?_map, hp]; rfl)
      have SQ := Lib.hid (sqroot_any p hpb wr)
      have HP := Lib.hid hp
      have i1 : (k : Int) < 8 := by omega
      clear a0 a1 a2 hb hp
      go_wp2_with fail
      refine SQ.out.mono ?_
      rintro e w3 ⟨rfl, hb3⟩
      obtain ⟨a0, a1, a2, hb⟩ := HK.out
      have hl8 := part32_len 8 (H0.take k) (by rw [List.length_take, H0_len]; omega)
      have hln : (H0.take k).length = k := by rw [List.length_take, H0_len]; omega
      have a1' := a1.below hb3
      obtain ⟨u, hu⟩ : ∃ u, (part32 8 (H0.take k))[k]? = some u := ⟨_, List.getElem?_eq_getElem (by omega)⟩
      have hcc := a1'.cell hu
      have hf := a1'.free k
      have HN : Hid (ArrIs (w3.setCell ⟨w.heap.size + 1, k, none⟩ (v32 (sqRoot p))) w.heap.size 34 (List.replicate 8 (.int .u32 0)) ∧ ArrIs (w3.setCell ⟨w.heap.size + 1, k, none⟩ (v32 (sqRoot p))) (w.heap.size + 1) 34 (part32 8 (H0.take (k + 1))) ∧ ArrIs (w3.setCell ⟨w.heap.size + 1, k, none⟩ (v32 (sqRoot p))) G1 66 (PR64.map v64) ∧ Below w.heap.size w (w3.setCell ⟨w.heap.size + 1, k, none⟩ (v32 (sqRoot p)))) := by
        refine ⟨(a0.below hb3).far (by omega), ?_, (a2.below hb3).far (by omega), kp_set (kp_call hb hb3) (by omega)⟩
        rw [H0_snoc k p hlt HP.out, part32_next 8 _ _ (by rw [hln]; exact hlt), hln]
        exact a1'.set k _
      clear a0 a1 a2 hb a1' hu hl8 hln hb3 HK
      go_wp2
      go_roundw
      case rel => exact ⟨k + 1, by go_num, by omega, HN.out⟩
      case measure => simp [intOf]; omega
    · obtain ⟨a0, a1, a2, hb⟩ := HK.out
      have i1 : ¬ (k : Int) < 8 := by omega
      rw [List.take_of_length_le (by rw [H0_len]; omega), part32_full 8 _ H0_len] at a1
      obtain ⟨ds, hds⟩ : ∃ ds, (H0.map v32).toArray = ds := ⟨_, rfl⟩
      have hone : ds.all (·.oneCell') = true := by rw [← hds]; exact all32 _
      have hsz : ds.size = 8 := by rw [← hds]; simp [H0_len]
      have hi : (Try.prog.info? 34).map (·.size) = some ds.size := by rw [hsz]; kernel_rfl
      have A1 : Hid (wr.heap[w.heap.size + 1]? = some (.cells ds 34 (0, 0))) := by rw [← hds]; exact a1
      have A0 : Hid (wr.heap[w.heap.size]? = some (.cells (List.replicate 8 (.int .u32 0)).toArray 34 (0, 0))) := a0
      have AR : Hid ((wr.setRow w.heap.size ds).heap[w.heap.size]? = some (.cells ds 34 (0, 0))) := setRow_heap wr _ _ _ _ _ a0
      have HB := Lib.hid (below_setRow hb (Nat.le_refl w.heap.size) ds)
      have HDS := Lib.hid hds
      have HC := Lib.hid (show _ ∧ _ ∧ _ from ⟨hsz, hone, hi⟩)
      clear hds a0 a1 a2 hb hsz hone hi HK
      go_wp2_with (first
        | (refine wpList_load_row rfl _ _ rfl (w.heap.size + 1) rfl _ _ _ _ A1.out Try.underlying34 rfl HC.out.2.2 ?_)
        | (refine wpList_store_row rfl _ _ _ rfl w.heap.size ds rfl rfl _ _ A0.out HC.out.2.2 (by rw [HC.out.1]; rfl) HC.out.2.1 ?_))
      refine bodyPost_ret (results_cell_row rfl _ _ w.heap.size _ _ _ _ rfl AR.out Try.underlying34 rfl HC.out.2.2) rfl ?_
      exact ⟨by rw [HDS.out], HB.out⟩
end Go.Proofs.Ytmbkbehccmadfaa
