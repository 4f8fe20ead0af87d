/-
  bank: no bank: reading, scanning, killing.
-/
import Derived.Test.YtkajlbdiofobcaaDoorBnM
namespace Go.Proofs.YtkajlbdiofobcaaDoor
open Go.RowKit Go
set_option linter.unusedVariables false
set_option linter.unusedSimpArgs false
set_option maxRecDepth 100000
attribute [local go_sem] Oper.semAt_some
theorem readnil_any (w : World) : Calls Tryd.prog 38 #[.pointer none] w fun e w' => e = .returned (.tuple #[.slice none 0 0, .int .i64 0, .bool false, .int .i64 2]) ∧ Below w.heap.size w w' := by
  refine (callsIn_wide (n := 4)).1 ?_
  refine callsIn_of_wp_marks Tryd.func38 rfl trivial ?_ rfl
  simp only [Tryd.ntmps38, List.size_toArray, List.length_cons, List.length_nil, Nat.reduceAdd, Nat.reduceSub, Array.replicate_succ, Array.replicate_zero, List.push_toArray, List.append_toArray, List.nil_append, List.cons_append]
  gi_wp2
  refine ⟨_, results_cctt Tryd.results38 _ (LV.one (v := .slice none 0 0) (cells_1 (has_alloc (has_new w (.cells #[.slice none 0 0] 80)) _)) (by intro w; kernel_rfl)) (LV.one (v := .int .i64 0) (cells_1 (has_new' _ (.cells #[.int .i64 0] 3) _ (by simp))) (by intro w; kernel_rfl)), ?_⟩
  exact ⟨rfl, kp_alloc (kp_alloc (Below.refl _ _) _) _⟩
theorem scannil_any (w : World) : Calls Tryd.prog 30 #[.pointer none] w fun e w' => e = .returned (.tuple #[.slice none 0 0, .int .i64 0, .bool false, .int .i64 2]) ∧ Below w.heap.size w w' := by
  have RDX := Lib.hid (readnil_any w)
  go_enter Tryd.func30, Tryd.ntmps30
  go_wp2_with fail
  refine RDX.out.mono ?_
  rintro e w1 ⟨rfl, hb1⟩
  go_wp2_with fail
  go_loopw [2, 20] (fun v2 v20 wl => v20 = .int .i64 0 ∧ v2 = .slice none 0 0 ∧ wl = w1) (fun _ _ _ => 0)
  case atStart => exact ⟨rfl, rfl, rfl⟩
  case round =>
    obtain ⟨rfl, rfl, rfl⟩ := hrel
    go_wp2
    refine bodyPost_ret (results_tmp4 rfl _ _ _) rfl ?_
    exact ⟨rfl, hb1⟩
theorem killnil_any (i : Int) (w : World) : Calls Tryd.prog 21 #[.pointer none, .int .i64 i] w fun e w' => e = .returned (.int .i64 2) ∧ Below w.heap.size w w' := by
  have RDX := Lib.hid (readnil_any w)
  go_enter Tryd.func21, Tryd.ntmps21
  go_wp2_with fail
  refine RDX.out.mono ?_
  rintro e w1 ⟨rfl, hb1⟩
  go_wp2
  go_ret
  exact ⟨rfl, hb1⟩
end Go.Proofs.YtkajlbdiofobcaaDoor
