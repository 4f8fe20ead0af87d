/-
  sha: the first primes.
-/
import Derived.Test.YtmbkbehccmadfaaShC
import Derived.Test.YtmbkbehccmadfaaRow
import Derived.Laws.Tables
import Derived.Laws.CopyOwn
namespace Go.Proofs.Ytmbkbehccmadfaa
open Go.RowKit Go
set_option linter.unusedVariables false
set_option linter.unusedSimpArgs false
set_option maxRecDepth 100000
/-- Block g holds an array of these values. -/
def ArrIs (w : World) (g : Nat) (t : TypeId) (vs : List Value) : Prop := w.heap[g]? = some (.cells vs.toArray t)
section
variable {w w' : World} {g : Nat} {t : TypeId} {vs : List Value}
theorem ArrIs.cell (h : ArrIs w g t vs) {j : Nat} {u : Value} (hu : vs[j]? = some u) : w.cell? ⟨g, j, none⟩ = some u := by
  rw [cell_of_row _ g j _ t _ h]; simpa using hu
theorem ArrIs.free (h : ArrIs w g t vs) (j : Nat) : w.frozen? ⟨g, j, none⟩ = false := frozen_of_row _ g j _ t h
theorem ArrIs.set (h : ArrIs w g t vs) (j : Nat) (u : Value) : ArrIs (w.setCell ⟨g, j, none⟩ u) g t (vs.set j u) := by
  unfold ArrIs
  rw [heap_setCell_same w g j _ t u h]
  simp
theorem ArrIs.below (h : ArrIs w g t vs) (hb : Below w.heap.size w w') : ArrIs w' g t vs := has_below h hb
theorem ArrIs.drew (h : ArrIs w g t vs) : ArrIs w.drew g t vs := h
theorem ArrIs.drewN (h : ArrIs w g t vs) (k : Nat) : ArrIs (w.drewN k) g t vs := h
theorem ArrIs.alloc (h : ArrIs w g t vs) (o : Obj) : ArrIs (w.alloc o) g t vs := has_alloc h o
theorem ArrIs.far (h : ArrIs w g t vs) {k j : Nat} {u : Value} (hne : g ≠ k) : ArrIs (w.setCell ⟨k, j, none⟩ u) g t vs := has_set h hne
theorem ArrIs.lt (h : ArrIs w g t vs) : g < w.heap.size := block_lt h
end
/-- The first 64 primes. -/
def PR64 : List Nat := [2, 3, 5, 7, 11, 13, 17, 19, 23, 29, 31, 37, 41, 43, 47, 53, 59, 61, 67, 71, 73, 79, 83, 89, 97, 101, 103, 107, 109, 113, 127, 131, 137, 139, 149, 151, 157, 163, 167, 173, 179, 181, 191, 193, 197, 199, 211, 223, 227, 229, 233, 239, 241, 251, 257, 263, 269, 271, 277, 281, 283, 293, 307, 311]
/-- Those below x. -/
def psB (x : Nat) : List Nat := PR64.filter fun p => decide (p < x)
theorem ps_step : ∀ x, x < 312 → 2 ≤ x → psB (x + 1) = (if (psB x).all (fun p => x % p != 0) then psB x ++ [x] else psB x) ∧ (psB x).length < 64 := by
  have h : ((List.range 312).all fun x => decide (x < 2) || (decide (psB (x + 1) = (if (psB x).all (fun p => x % p != 0) then psB x ++ [x] else psB x)) && decide ((psB x).length < 64))) = true := by kernel_rfl
  intro x h1 h2
  have := List.all_eq_true.1 h x (List.mem_range.2 h1)
  simp only [Bool.or_eq_true, Bool.and_eq_true, decide_eq_true_eq] at this
  rcases this with h3 | h3
  · omega
  · exact h3
theorem ps_all : psB 312 = PR64 := by kernel_rfl
theorem ps_two : psB 2 = [] := by kernel_rfl
theorem pr_len : PR64.length = 64 := by kernel_rfl
theorem pr_bd : ∀ p ∈ PR64, 2 ≤ p ∧ p ≤ 311 := by
  have h : (PR64.all fun p => decide (2 ≤ p) && decide (p ≤ 311)) = true := by kernel_rfl
  intro p hp
  have := List.all_eq_true.1 h p hp
  simpa using this
abbrev v64 (x : Nat) : Value := .int .u64 (x : Int)
def prArr (x : Nat) : List Value := (psB x).map v64 ++ List.replicate (64 - (psB x).length) (.int .u64 0)
theorem prArr_len (x : Nat) (h : (psB x).length ≤ 64) : (prArr x).length = 64 := by unfold prArr; simp; omega
theorem prArr_get (x i : Nat) (p : Nat) (h : (psB x)[i]? = some p) : (prArr x)[i]? = some (v64 p) := by
  have hl : i < (psB x).length := (List.getElem?_eq_some_iff.1 h).1
  unfold prArr
  rw [List.getElem?_append_left (by simpa using hl), List.getElem?_map, h]
  rfl
theorem prArr_next (x : Nat) (h : (psB x).length < 64) (hs : psB (x + 1) = psB x ++ [x]) : prArr (x + 1) = (prArr x).set (psB x).length (v64 x) := by
  unfold prArr
  rw [hs, List.set_append_right _ _ (by simp), List.length_map, Nat.sub_self]
  obtain ⟨k, hk⟩ : ∃ k, 64 - (psB x).length = k + 1 := ⟨63 - (psB x).length, by omega⟩
  rw [hk, List.length_append, show 64 - ((psB x).length + [x].length) = k by simp; omega, List.replicate_succ]
  simp
theorem prArr_full : prArr 312 = PR64.map v64 := by unfold prArr; rw [ps_all, pr_len]; simp
set_option maxHeartbeats 2000000 in
theorem primes_any (w : World) : Calls Try.prog 34 #[] w fun e w' => e = .returned (.agg (PR64.map v64).toArray) ∧ Below w.heap.size w w' := by
  go_enter Try.func34, Try.ntmps34
  go_wp2
  refine wp_nm fun W0 hW0 => ?_
  have k0 : Hid (∃ vs : List Value, vs.length = 64 ∧ ArrIs W0 w.heap.size 66 vs) := ⟨List.replicate 64 (.int .u64 0), rfl, by rw [← hW0]; exact (has_alloc (has_new w _) _)⟩
  have k1 : Hid (ArrIs W0 (w.heap.size + 1) 66 (prArr 2)) := by
    rw [← hW0]
    unfold prArr
    rw [ps_two]
    exact has_new' _ _ _ (by simp)
  have hb0 : Below w.heap.size w W0 := by rw [← hW0]; exact kp_alloc (kp_alloc (Below.refl _ _) _) _
  have HB0 := Lib.hid hb0
  have hs0 : W0.heap.size = w.heap.size + 2 := by rw [← hW0]; simp
  have HS0 := Lib.hid hs0
  clear hW0 hb0 hs0
  obtain ⟨G, hG⟩ : ∃ G, w.heap.size = G := ⟨_, rfl⟩
  have HG := Lib.hid hG
  rw [hG] at k0 k1 HB0 HS0 ⊢
  clear hG
  go_wp2
  go_loopw [2, 3] (fun vn vx wl => ∃ n x : Nat, vn = .int .i64 (n : Int) ∧ vx = .int .u64 (x : Int) ∧ 2 ≤ x ∧ x ≤ 312 ∧ Hid (n = (psB x).length ∧ ArrIs wl (G + 1) 66 (prArr x) ∧ (∃ vs : List Value, vs.length = 64 ∧ ArrIs wl G 66 vs) ∧ Below G w wl)) (fun _ vx _ => 312 - (intOf vx).toNat)
  case atStart => exact ⟨0, 2, rfl, rfl, Nat.le_refl _, by omega, by rw [ps_two]; rfl, k1.out, k0.out, HB0.out⟩
  case round =>
    obtain ⟨n, x, rfl, rfl, hx2, hx3, HK⟩ := hrel
    by_cases hx : x = 312
    · subst hx
      obtain ⟨hn, ha, ⟨vs, hvl, hv⟩, hb⟩ := HK.out
      rw [ps_all, pr_len] at hn
      subst hn
      rw [prArr_full] at ha
      have H1 : Hid (wr.heap[G + 1]? = some (.cells (PR64.map v64).toArray 66 (0, 0))) := ha
      have H0 : Hid (wr.heap[G]? = some (.cells vs.toArray 66 (0, 0))) := hv
      have HS : Hid ((wr.setRow G (PR64.map v64).toArray).heap[G]? = some (.cells (PR64.map v64).toArray 66 (0, 0))) := setRow_heap wr G _ _ _ _ hv
      have HB := Lib.hid (below_setRow hb (Nat.le_refl G) (PR64.map v64).toArray)
      have HVL := Lib.hid hvl
      clear ha hv hb hvl
      go_wp2_with (first
        | (refine wpList_load_row rfl _ _ rfl (G + 1) rfl _ _ _ _ H1.out Try.underlying66 rfl (by kernel_rfl) ?_)
        | (refine wpList_store_row rfl _ _ _ rfl G (PR64.map v64).toArray rfl rfl _ _ H0.out (by kernel_rfl) (by simp [HVL.out, pr_len]) (by kernel_rfl) ?_))
      refine bodyPost_ret (results_cell_row rfl _ _ G _ _ _ _ rfl HS.out Try.underlying66 rfl (by kernel_rfl)) rfl ?_
      exact ⟨rfl, by rw [HG.out]; exact HB.out⟩
    · have hstep := ps_step x (by omega) hx2
      have HST := Lib.hid hstep
      have hn64 : n < 64 := by have := HK.out.1; omega
      have i1 : (n : Int) < 64 := by omega
      have i2 : (n : Int) ≤ 64 := by omega
      clear hstep
      go_wp2
      go_loop [4, 14] (fun vb vi => ∃ (i : Nat) (b : Bool), vb = .bool b ∧ vi = .int .i64 (i : Int) ∧ i ≤ n ∧ Hid (b = ((psB x).take i).all (fun p => x % p != 0))) (fun _ vi => n - (intOf vi).toNat)
      case atStart => exact ⟨0, true, rfl, rfl, Nat.zero_le _, rfl⟩
      case round =>
        obtain ⟨i, b, rfl, rfl, hi, HB⟩ := hrel
        by_cases hin : i < n
        · as_aux_lemma =>
          obtain ⟨p, hp⟩ : ∃ p, (psB x)[i]? = some p := ⟨_, List.getElem?_eq_getElem (by rw [← HK.out.1]; exact hin)⟩
          have hc := HK.out.2.1.cell (prArr_get x i p hp)
          have hpm : p ∈ PR64 := (List.mem_filter.1 (List.mem_of_getElem? hp)).1
          have hpb := pr_bd p hpm
          obtain ⟨r, hr⟩ : ∃ r, x % p = r := ⟨_, rfl⟩
          have e1 : (x : Int) % (p : Int) = (r : Int) := by rw [← hr]; rfl
          have e2 : (x : Int).tmod (p : Int) = (r : Int) := by rw [Int.tmod_eq_emod_of_nonneg (by omega)]; exact e1
          have p0 : ((p : Int) == 0) = false := by simp; omega
          have HT : Hid (((psB x).take (i + 1)).all (fun p => x % p != 0) = (b && (r != 0))) := by
            unfold Hid
            rw [List.take_add_one, hp, List.all_append, ← HB.out]
            simp [hr]
          have hrb : r < p := by rw [← hr]; exact Nat.mod_lt _ (by omega)
          clear hp hpm hr
          cases b with
          | false =>
            go_wp2
            go_round
            case rel => exact ⟨i + 1, false, rfl, by go_num, by omega, by unfold Hid; rw [HT.out]; rfl⟩
            case measure => simp [intOf]; omega
          | true =>
            by_cases hr0 : r = 0
            · have t1 : ((r : Int) != 0) = false := by simp; omega
              have HR := Lib.hid hr0
              clear hr0
              go_wp2
              go_round
              case rel => exact ⟨i + 1, false, rfl, by go_num, by omega, by unfold Hid; rw [HT.out, HR.out]; rfl⟩
              case measure => simp [intOf]; omega
            · have t1 : ((r : Int) != 0) = true := by simp; omega
              have HR := Lib.hid (show (r != 0) = true by simp [hr0])
              clear hr0
              go_wp2
              go_round
              case rel => exact ⟨i + 1, true, rfl, by go_num, by omega, by unfold Hid; rw [HT.out, HR.out]; rfl⟩
              case measure => simp [intOf]; omega
        · obtain rfl : i = n := by omega
          have hb : b = (psB x).all (fun p => x % p != 0) := by
            rw [HB.out, List.take_of_length_le (by rw [← HK.out.1]; exact Nat.le_refl _)]
          obtain ⟨hn, ha, hv, hbl⟩ := HK.out
          have hst := HST.out.1
          cases b with
          | true =>
            rw [if_pos hb.symm] at hst
            have hnx := prArr_next x (by rw [← hn]; exact hn64) hst
            rw [← hn] at hnx
            have hlen := prArr_len x (by omega)
            obtain ⟨u, hu⟩ : ∃ u, (prArr x)[i]? = some u := ⟨_, List.getElem?_eq_getElem (by omega)⟩
            have hc := ha.cell hu
            have hf := ha.free i
            have HN : Hid (i + 1 = (psB (x + 1)).length ∧ ArrIs (wr.setCell ⟨G + 1, i, none⟩ (v64 x)) (G + 1) 66 (prArr (x + 1)) ∧ (∃ vs : List Value, vs.length = 64 ∧ ArrIs (wr.setCell ⟨G + 1, i, none⟩ (v64 x)) G 66 vs) ∧ Below G w (wr.setCell ⟨G + 1, i, none⟩ (v64 x))) := by
              obtain ⟨vs, v1, v2⟩ := hv
              refine ⟨by rw [hst]; simp; omega, by rw [hnx]; exact ha.set i _, ⟨vs, v1, v2.far (by omega)⟩, hbl.setCell (by simp) _⟩
            clear hb hst hnx hlen hu hn ha hv hbl HB HK HST
            go_wp2
            go_roundw
            case rel => exact ⟨i + 1, x + 1, by go_num, by go_num, by omega, by omega, HN.out⟩
            case measure => simp [intOf]; omega
          | false =>
            rw [if_neg (by rw [← hb]; simp)] at hst
            have HN : Hid (i = (psB (x + 1)).length ∧ ArrIs wr (G + 1) 66 (prArr (x + 1)) ∧ (∃ vs : List Value, vs.length = 64 ∧ ArrIs wr G 66 vs) ∧ Below G w wr) := by
              refine ⟨by rw [hst]; exact hn, ?_, hv, hbl⟩
              unfold prArr at ha ⊢
              rw [hst]; exact ha
            clear hb hst hn ha hv hbl HB HK HST
            go_wp2
            go_roundw
            case rel => exact ⟨i, x + 1, rfl, by go_num, by omega, by omega, HN.out⟩
            case measure => simp [intOf]; omega
end Go.Proofs.Ytmbkbehccmadfaa
