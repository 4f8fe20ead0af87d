/-
  nat: guess.
-/
import Derived.Test.YtbplchpbaonadaaDoorNk
import Derived.Deep.RegionHeld3
namespace Go.Proofs.YtbplchpbaonadaaDoor
open Go.RowKit Go
set_option linter.unusedVariables false
set_option linter.unusedSimpArgs false
set_option maxRecDepth 100000
def DrewPost (v : Value) (w : World) (e : Ending) (w' : World) : Prop := ∃ k, e = .returned v ∧ w' = w.drewN k
set_option maxHeartbeats 4000000 in
theorem guess_any (G off K n1 c1 n c m u1 u0 v1 : Nat) (w : World) (h1 : w.cell? ⟨G, off + n, none⟩ = some (.int .u32 (u1 : Int))) (h0 : w.cell? ⟨G, off + m, none⟩ = some (.int .u32 (u0 : Int))) (hv : w.cell? ⟨K, m, none⟩ = some (.int .u32 (v1 : Int)))
    (hn : n = m + 1) (hn1 : n < n1) (hn2 : n1 ≤ 1000) (b1 : u1 < 4294967296) (b0 : u0 < 4294967296) (bv : v1 < 4294967296) (hv0 : 0 < v1) :
    Calls Tryd.prog 76 #[.slice (some ⟨G, off, none⟩) n1 c1, .slice (some ⟨K, 0, none⟩) n c] w (DrewPost (.int .u32 ((min ((u1 * 4294967296 + u0) / v1) 4294967295 : Nat) : Int)) w) := by
  have e1 : IntKind.i64.wrap ((n : Int) - 1) = (m : Int) := by rw [show (n : Int) - 1 = m by omega]; exact IntWalk.i64_in _ (by omega)
  have i1 : (0 : Int) ≤ (n : Int) := by omega
  have i2 : (n : Int) < (n1 : Int) := by omega
  have i3 : (0 : Int) ≤ (m : Int) := by omega
  have i4 : (m : Int) < (n1 : Int) := by omega
  have i5 : (m : Int) < (n : Int) := by omega
  have es : IntKind.u64.wrap ((u1 : Int) * 4294967296) = ((u1 * 4294967296 : Nat) : Int) := by
    rw [show (u1 : Int) * 4294967296 = ((u1 * 4294967296 : Nat) : Int) by omega]
    exact IntWalk.u64_in _ (by omega)
  have hor := run_or64 u1 u0 b1 b0
  obtain ⟨hi9, hhi⟩ : ∃ hi9, u1 * 4294967296 = hi9 := ⟨_, rfl⟩
  obtain ⟨u, hu⟩ : ∃ u, hi9 + u0 = u := ⟨_, rfl⟩
  rw [hhi] at es hor
  rw [hhi]
  rw [hu] at hor
  rw [hu]
  have hub : u < 18446744073709551616 := by omega
  have eq2 : IntKind.u64.wrap ((u : Int).tdiv (v1 : Int)) = ((u / v1 : Nat) : Int) := by
    rw [IntWalk.u64_quo _ _ (by omega)]; push_cast; rfl
  have eq3 : (u : Int) / (v1 : Int) = ((u / v1 : Nat) : Int) := by push_cast; rfl
  obtain ⟨q, hq⟩ : ∃ q, u / v1 = q := ⟨_, rfl⟩
  rw [hq] at eq2 eq3
  have hqu : q ≤ u := by rw [← hq]; exact Nat.div_le_self _ _
  have eqw : IntKind.u64.wrap (q : Int) = (q : Int) := IntWalk.u64_in _ (by omega)
  rw [hq]
  obtain ⟨d, hd⟩ : ∃ d, min q 4294967295 = d := ⟨_, rfl⟩
  rw [hd]
  have em : min (q : Int) 4294967295 = (d : Int) := by omega
  have em2 : (d : Int) % 4294967296 = (d : Int) := by omega
  have ev : ((v1 : Int) == 0) = false := by simp; omega
  have ev2 : ¬ (v1 : Int) = 0 := by omega
  have HH := Lib.hid (show _ ∧ _ ∧ _ ∧ _ ∧ _ from ⟨hn, hhi, hu, hq, hd⟩)
  have EM := Lib.hid em2
  clear hn hhi hu hq hd hv0 hqu em2
  go_enter Tryd.func76, Tryd.ntmps76
  go_wp2_with fail
  go_quiet (fail)
  rename_i nq
  have g1 : (w.drewN nq).cell? ⟨K, m, none⟩ = some (.int .u32 (v1 : Int)) := hv
  have HQ : Hid (∃ k, w.drewN nq = w.drewN k) := ⟨nq, rfl⟩
  clear h1 h0 hv
  generalize w.drewN nq = wq at *
  go_wp2
  go_ret
  obtain ⟨k, hk⟩ := HQ.out
  exact ⟨k, rfl, hk⟩
theorem gr_set {w v : World} {row : Option Nat} {k j : Nat} {u : Value} (h : w.grownBy v row) (hk : w.heap.size ≤ k ∨ row = some k) : w.grownBy (v.setCell ⟨k, j, none⟩ u) row :=
  ⟨h.os, h.tape, h.output, by simpa using h.size, fun i hi hne => (heap_set_far v k i j u (by rintro rfl; rcases hk with hk | hk; (· omega); exact hne hk.symm)).trans (h.block i hi hne)⟩
theorem gr_alloc {w v : World} {row : Option Nat} (h : w.grownBy v row) (o : Obj) : w.grownBy (v.alloc o) row :=
  ⟨h.os, h.tape, h.output, by have := h.size; simp; omega, fun i hi hne => (heap_alloc_old v o (Nat.lt_of_lt_of_le hi h.size)).trans (h.block i hi hne)⟩
theorem gr_drew {w v : World} {row : Option Nat} (h : w.grownBy v row) : w.grownBy v.drew row := ⟨h.os, h.tape, h.output, h.size, h.block⟩
theorem gr_drewN {w v : World} {row : Option Nat} (h : w.grownBy v row) (k : Nat) : w.grownBy (v.drewN k) row := ⟨h.os, h.tape, h.output, h.size, h.block⟩
theorem BlkU.grown {w v : World} {K G : Nat} {Y : List Nat} (h : BlkU w K Y) (hg : w.grownBy v (some G)) (hne : K ≠ G) : BlkU v K Y := (hg.block K h.lt (by intro e; injection e with e; exact hne e)).trans h
theorem seg_cell {w : World} {G off i : Nat} {pre D : List Nat} (h : BlkU w G (pre ++ D)) (hp : pre.length = off) (hi : i < D.length) : w.cell? ⟨G, off + i, none⟩ = some (.int .u32 ((D.getD i 0 : Nat) : Int)) := by
  have h1 := h.cell (j := off + i) (by rw [List.length_append]; omega)
  rw [h1, List.getD_eq_getElem?_getD, List.getElem?_append_right (by omega), ← List.getD_eq_getElem?_getD, hp, Nat.add_sub_cancel_left]
theorem seg_set {w : World} {G off i x : Nat} {pre D : List Nat} (h : BlkU w G (pre ++ D)) (hp : pre.length = off) : BlkU (w.setCell ⟨G, off + i, none⟩ (.int .u32 (x : Int))) G (pre ++ D.set i x) := by
  have h1 := h.set (off + i) x
  rw [List.set_append_right _ _ (by omega), hp, Nat.add_sub_cancel_left] at h1
  exact h1
theorem same_set {D D0 : List Nat} {i x : Nat} (h : ∀ k, i ≤ k → D.getD k 0 = D0.getD k 0) : ∀ k, i + 1 ≤ k → (D.set i x).getD k 0 = D0.getD k 0 := fun k hk => by
  rw [getD_set_far _ _ _ _ (by omega)]
  exact h k (by omega)
end Go.Proofs.YtbplchpbaonadaaDoor
