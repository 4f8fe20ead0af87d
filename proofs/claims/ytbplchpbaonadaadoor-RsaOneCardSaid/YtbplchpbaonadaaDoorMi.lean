/-
  mont: Exp, refused; no modulus.
-/
import Derived.Test.YtbplchpbaonadaaDoorMh
namespace Go.Proofs.YtbplchpbaonadaaDoor
open Go.RowKit Go
set_option linter.unusedVariables false
set_option linter.unusedSimpArgs false
set_option maxRecDepth 100000
attribute [local go_sem] Oper.semAt_some
theorem expnil_any (A B : Option Addr) (n c k d : Nat) (w : World) :
    Calls Tryd.prog 25 #[.pointer none, .slice A n c, .slice B k d] w fun e w' => e = .returned (.tuple #[.slice none 0 0, .int .i64 2]) ∧ Below w.heap.size w w' := by
  refine (callsIn_wide (n := 4)).1 ?_
  refine callsIn_of_wp_marks Tryd.func25 rfl trivial ?_ rfl
  simp only [Tryd.ntmps25, List.size_toArray, List.length_cons, List.length_nil, Nat.reduceAdd, Nat.reduceSub, Array.replicate_succ, Array.replicate_zero, List.push_toArray, List.append_toArray, List.nil_append, List.cons_append]
  have hb0 : Hid (Below w.heap.size w (w.alloc (.cells #[.pointer none] 52))) := kp_alloc (Below.refl _ _) _
  gi_wp2
  refine ⟨_, results_tmp2 rfl _ _ _, ?_⟩
  exact ⟨rfl, hb0.out⟩
set_option maxHeartbeats 8000000 in
theorem mexp_all (g m : Nat) (A B : Option Addr) (n c k d : Nat) (x ex : List Nat) (w : World) (hM : MD w g m) (hA : RU w A n x) (hB : RU w B k ex) (hn : n ≤ 1000) (hk : k ≤ 1000) :
    Calls Tryd.prog 25 #[.pointer (some ⟨g, 0, none⟩), .slice A n c, .slice B k d] w (NumR w (mexpQ x ex m)) := by
  cases hx : underB x m with
  | false =>
    have herr : ∀ w', Below w.heap.size w w' → NumR w (mexpQ x ex m) (.returned (.tuple #[.slice none 0 0, .int .i64 1])) w' := fun w' hb => by
      unfold mexpQ
      rw [hx]
      exact ⟨none, 0, 0, rfl, NumS.nil _ _, Nat.le_refl _, by decide, by decide, hb⟩
    have HE := Lib.hid herr
    have hb0 : Hid (Below w.heap.size w (w.alloc (.cells #[.pointer (some ⟨g, 0, none⟩)] 52))) := kp_alloc (Below.refl _ _) _
    have BX := below_any g m A n c x _ (hM.below hb0.out) (hA.below hb0.out) (by omega)
    rw [hx] at BX
    have BX := Lib.hid BX
    clear hM hA hB hx herr
    refine (callsIn_wide (n := 4)).1 ?_
    refine callsIn_of_wp_marks Tryd.func25 rfl trivial ?_ rfl
    simp only [Tryd.ntmps25, List.size_toArray, List.length_cons, List.length_nil, Nat.reduceAdd, Nat.reduceSub, Array.replicate_succ, Array.replicate_zero, List.push_toArray, List.append_toArray, List.nil_append, List.cons_append]
    refine wpIn_wide.2 ?_
    go_wp2_with fail
    refine BX.out.mono ?_
    rintro e w1 ⟨rfl, hb⟩
    have HB := Lib.hid (kp_call hb0.out hb)
    clear hb
    go_wp2
    refine ⟨_, results_tmp2 rfl _ _ _, ?_⟩
    exact HE.out _ HB.out
  | true =>
    cases hr : rightB ex with
    | true =>
      have hq : mexpQ x ex m = (num (val x ^ val ex % m), 0) := by unfold mexpQ; rw [hx, hr]; rfl
      rw [hq]
      exact mexp_any g m A B n c k d x ex w hM hA hB hn hk hx hr
    | false =>
      have herr : ∀ w', Below w.heap.size w w' → NumR w (mexpQ x ex m) (.returned (.tuple #[.slice none 0 0, .int .i64 1])) w' := fun w' hb => by
        unfold mexpQ
        rw [hx, hr]
        exact ⟨none, 0, 0, rfl, NumS.nil _ _, Nat.le_refl _, by decide, by decide, hb⟩
      have HE := Lib.hid herr
      have hb0 : Hid (Below w.heap.size w (w.alloc (.cells #[.pointer (some ⟨g, 0, none⟩)] 52))) := kp_alloc (Below.refl _ _) _
      have BX := below_any g m A n c x _ (hM.below hb0.out) (hA.below hb0.out) (by omega)
      rw [hx] at BX
      have BX := Lib.hid BX
      have RE := fun W (h : Below w.heap.size w W) => right_any B k d ex W (hB.below h) (by omega)
      rw [hr] at RE
      have RE := Lib.hid RE
      clear hM hA hB hx herr hr
      refine (callsIn_wide (n := 4)).1 ?_
      refine callsIn_of_wp_marks Tryd.func25 rfl trivial ?_ rfl
      simp only [Tryd.ntmps25, List.size_toArray, List.length_cons, List.length_nil, Nat.reduceAdd, Nat.reduceSub, Array.replicate_succ, Array.replicate_zero, List.push_toArray, List.append_toArray, List.nil_append, List.cons_append]
      refine wpIn_wide.2 ?_
      go_wp2_with fail
      refine BX.out.mono ?_
      rintro e w1 ⟨rfl, hb⟩
      have HB := Lib.hid (kp_call hb0.out hb)
      clear hb
      go_wp2_with fail
      refine (RE.out _ HB.out).mono ?_
      rintro e w' ⟨rfl, rfl⟩
      go_wp2
      refine ⟨_, results_tmp2 rfl _ _ _, ?_⟩
      exact HE.out _ HB.out
end Go.Proofs.YtbplchpbaonadaaDoor
