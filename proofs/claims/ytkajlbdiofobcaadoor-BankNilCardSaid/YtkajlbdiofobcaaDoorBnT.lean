/-
  bank: the law's does, with no bank and no flash.
-/
import Derived.Test.YtkajlbdiofobcaaDoorBnS
namespace Go.Proofs.YtkajlbdiofobcaaDoor
open Go.RowKit Go
set_option linter.unusedVariables false
set_option linter.unusedSimpArgs false
set_option maxRecDepth 100000
theorem records_nil (w : World) : Calls Tryd.prog 33 #[.slice none 0 0] w fun e w' => e = .returned (.slice none 0 0) ∧ w' = w := by
  go_enter Tryd.func33, Tryd.ntmps33
  go_wp2_with fail
  go_loopw [3, 4] (fun v vi wl => v = .slice none 0 0 ∧ vi = .int .i64 0 ∧ wl = w) (fun _ _ _ => 0)
  case atStart => exact ⟨rfl, rfl, rfl⟩
  case round =>
    obtain ⟨rfl, rfl, rfl⟩ := hrel
    go_wp2
    go_ret
    exact ⟨rfl, rfl⟩
/-- What does answers where there is neither bank nor flash. -/
def DoesNil (r : Int) (w : World) (e : Ending) (w' : World) : Prop := e = .returned (.tuple #[.agg #[.slice none 0 0, .int .i64 0, .bool false, .int .i64 r], .bool true]) ∧ Below w.heap.size w w'
theorem does8_nil0 (np pt : Int) (K V : Option Addr) (kn kc vn vc : Nat) (w : World) :
    Calls Tryd.prog 12 #[.pointer none, .pointer none, .agg #[.int .i64 0, .int .i64 np, .int .i64 pt, .slice K kn kc, .slice V vn vc]] w (DoesNil 2 w) := by
  go_enter Tryd.func12, Tryd.ntmps12
  go_wp2_with fail
  refine (formatnil_any _ _).mono ?_
  rintro e w1 ⟨rfl, rfl⟩
  go_wp2
  refine bodyPost_ret (results_ct Tryd.results12 _ (LV.agg (has_alloc (has_new' _ _ _ (by simp)) _) Tryd.underlying36 rfl (by kernel_rfl))) rfl ?_
  exact ⟨rfl, kp_alloc (kp_alloc (kp_alloc (Below.refl _ _) _) _) _⟩
theorem does8_nil1 (np pt : Int) (K V : Option Addr) (kn kc vn vc : Nat) (w : World) :
    Calls Tryd.prog 12 #[.pointer none, .pointer none, .agg #[.int .i64 1, .int .i64 np, .int .i64 pt, .slice K kn kc, .slice V vn vc]] w (DoesNil 2 w) := by
  go_enter Tryd.func12, Tryd.ntmps12
  go_wp2_with fail
  refine (readynil_any _).mono ?_
  rintro e w1 ⟨rfl, rfl⟩
  go_wp2
  refine bodyPost_ret (results_ct Tryd.results12 _ (LV.agg (has_alloc (has_new' _ _ _ (by simp)) _) Tryd.underlying36 rfl (by kernel_rfl))) rfl ?_
  exact ⟨rfl, kp_alloc (kp_alloc (kp_alloc (Below.refl _ _) _) _) _⟩
theorem does8_nil2 (np pt : Int) (K V : Option Addr) (kn kc vn vc : Nat) (w : World) :
    Calls Tryd.prog 12 #[.pointer none, .pointer none, .agg #[.int .i64 2, .int .i64 np, .int .i64 pt, .slice K kn kc, .slice V vn vc]] w (DoesNil 2 w) := by
  go_enter Tryd.func12, Tryd.ntmps12
  go_wp2_with fail
  refine (headnil_any _).mono ?_
  rintro e w1 ⟨rfl, rfl⟩
  go_wp2
  refine bodyPost_ret (results_ct Tryd.results12 _ (LV.agg (has_alloc (has_new' _ _ _ (by simp)) _) Tryd.underlying36 rfl (by kernel_rfl))) rfl ?_
  exact ⟨rfl, kp_alloc (kp_alloc (kp_alloc (Below.refl _ _) _) _) _⟩
theorem does8_nil6 (np pt : Int) (K V : Option Addr) (kn kc vn vc : Nat) (w : World) :
    Calls Tryd.prog 12 #[.pointer none, .pointer none, .agg #[.int .i64 6, .int .i64 np, .int .i64 pt, .slice K kn kc, .slice V vn vc]] w (DoesNil 2 w) := by
  go_enter Tryd.func12, Tryd.ntmps12
  go_wp2_with fail
  refine (farm_nil _ _ _).mono ?_
  rintro e w1 ⟨rfl, rfl⟩
  go_wp2
  refine bodyPost_ret (results_ct Tryd.results12 _ (LV.agg (has_alloc (has_new' _ _ _ (by simp)) _) Tryd.underlying36 rfl (by kernel_rfl))) rfl ?_
  exact ⟨rfl, kp_alloc (kp_alloc (kp_alloc (Below.refl _ _) _) _) _⟩
theorem does8_nil7 (np pt : Int) (K V : Option Addr) (kn kc vn vc : Nat) (w : World) :
    Calls Tryd.prog 12 #[.pointer none, .pointer none, .agg #[.int .i64 7, .int .i64 np, .int .i64 pt, .slice K kn kc, .slice V vn vc]] w (DoesNil 2 w) := by
  go_enter Tryd.func12, Tryd.ntmps12
  go_wp2_with fail
  refine (fon_nil _).mono ?_
  rintro e w1 ⟨rfl, rfl⟩
  go_wp2
  refine bodyPost_ret (results_ct Tryd.results12 _ (LV.agg (has_alloc (has_new' _ _ _ (by simp)) _) Tryd.underlying36 rfl (by kernel_rfl))) rfl ?_
  exact ⟨rfl, kp_alloc (kp_alloc (kp_alloc (Below.refl _ _) _) _) _⟩
theorem does8_nilo (kd np pt : Int) (K V : Option Addr) (kn kc vn vc : Nat) (w : World) (hkd : ¬ (0 ≤ kd ∧ kd ≤ 8)) :
    Calls Tryd.prog 12 #[.pointer none, .pointer none, .agg #[.int .i64 kd, .int .i64 np, .int .i64 pt, .slice K kn kc, .slice V vn vc]] w (DoesNil 0 w) := by
  have t0 : (kd == 0) = false := beq_eq_false_iff_ne.2 (by omega)
  have t1 : (kd == 1) = false := beq_eq_false_iff_ne.2 (by omega)
  have t2 : (kd == 2) = false := beq_eq_false_iff_ne.2 (by omega)
  have t3 : (kd == 3) = false := beq_eq_false_iff_ne.2 (by omega)
  have t4 : (kd == 4) = false := beq_eq_false_iff_ne.2 (by omega)
  have t5 : (kd == 5) = false := beq_eq_false_iff_ne.2 (by omega)
  have t6 : (kd == 6) = false := beq_eq_false_iff_ne.2 (by omega)
  have t7 : (kd == 7) = false := beq_eq_false_iff_ne.2 (by omega)
  have t8 : (kd == 8) = false := beq_eq_false_iff_ne.2 (by omega)
  go_enter Tryd.func12, Tryd.ntmps12
  go_wp2
  refine bodyPost_ret (results_ct Tryd.results12 _ (LV.agg (has_alloc (has_new' _ _ _ (by simp)) _) Tryd.underlying36 rfl (by kernel_rfl))) rfl ?_
  exact ⟨rfl, kp_alloc (kp_alloc (kp_alloc (Below.refl _ _) _) _) _⟩
end Go.Proofs.YtkajlbdiofobcaaDoor
