/-
  bank: without power: reading, scanning, killing, adding.
-/
import Derived.Test.YtkajlbdiofobcaaDoorBnN
namespace Go.Proofs.YtkajlbdiofobcaaDoor
open Go.RowKit Go
set_option linter.unusedVariables false
set_option linter.unusedSimpArgs false
set_option maxRecDepth 100000
attribute [local go_sem] Oper.semAt_some
section
variable {w : World} {base b g a c F C : Nat} {S : FS}
set_option maxHeartbeats 4000000 in
theorem read_off (hK : BK w base b g a c S F C) (hS : S.off = true) : Calls Tryd.prog 38 #[.pointer (some ⟨b, 0, none⟩)] w fun e w' => e = .returned (.tuple #[.slice none 0 0, .int .i64 0, .bool false, .int .i64 6]) ∧ Below w.heap.size w w' := by
  have ST := Lib.hid (fun W (hb : Below w.heap.size w W) => start_any (hK.below hb))
  have RD : Hid (∀ W, Below w.heap.size w W → Calls Tryd.prog 44 #[.pointer (some ⟨g, 0, none⟩), .int .i64 ((F * S.s : Nat) : Int), .int .i64 16] W fun e w' => e = .returned (.tuple #[.slice none 0 0, .int .i64 6]) ∧ w' = W) := fun W hb =>
    (fread_no (hK.fl.below hb) (F * S.s : Nat) 16 (.inl hS)).mono fun e w' ⟨h1, h2⟩ => ⟨by rw [h1, hS]; rfl, h2⟩
  obtain ⟨k0, k1, k2⟩ := cells_3 hK.bk
  have hblt := hK.alt
  generalize F * S.s = N0 at *
  have KEEP : Hid (∀ W, Below w.heap.size w W → W.cell? ⟨b, 0, none⟩ = some (.pointer (some ⟨g, 0, none⟩)) ∧ Below w.heap.size w W) := fun W hb => ⟨kp_cell hb k0, hb⟩
  clear k1 k2 hS hK
  refine (callsIn_wide (n := 4)).1 ?_
  refine callsIn_of_wp_marks Tryd.func38 rfl trivial ?_ rfl
  simp only [Tryd.ntmps38, List.size_toArray, List.length_cons, List.length_nil, Nat.reduceAdd, Nat.reduceSub, Array.replicate_succ, Array.replicate_zero, List.push_toArray, List.append_toArray, List.nil_append, List.cons_append]
  gi_wp2
  refine wpIn_nm fun W1 hW1 => ?_
  have HZ : Hid (W1.heap[w.heap.size]? = some (.cells #[.slice none 0 0] 80) ∧ W1.heap[w.heap.size + 1]? = some (.cells #[.int .i64 0] 3) ∧ Below w.heap.size w W1 ∧ W1.heap.size = w.heap.size + 2) := by
    rw [← hW1]; exact ⟨has_alloc (has_new _ _) _, has_new' _ _ _ (by simp), kp_alloc (kp_alloc (Below.refl _ _) _) _, by simp⟩
  clear hW1
  have hb1 := HZ.out.2.2.1
  have k0' := kp_cell hb1 k0
  clear k0
  have G0 := Lib.hid hb1
  refine wpIn_wide.2 ?_
  go_region_held3 (fun W => W.cell? ⟨b, 0, none⟩ = some (.pointer (some ⟨g, 0, none⟩)) ∧ Below w.heap.size w W)
    ((apply KEEP.out; repeat (with_reducible (first | assumption | refine kp_drew ?_ | refine kp_call ?_ (by assumption)))))
    (first
      | (go_at_call 39; (with_reducible refine (ST.out _ (by (go_split_ands; assumption))).mono ?_); (rintro e X1 ⟨rfl, hb2⟩; have H2 : Hid (Below W1.heap.size W1 X1) := (by (first | exact hb2 | exact (kp_drew (Below.refl _ _)).trans hb2))))
      | (go_at_call 44; (with_reducible refine (RD.out _ (by (go_split_ands; assumption))).mono ?_); (rintro e X2 ⟨rfl, hX2⟩; subst X2)))
  all_goals
    clear hb2
    have hz1 := HZ.out.2.2.2
    have hz3 := H2.out.size
    have g0 := has_below HZ.out.1 H2.out
    have g1 := has_below HZ.out.2.1 H2.out
    have e4 := cells_1 g0
    have f4 := free_1 g0
    have e5 := cells_1 g1
    have f5 := free_1 g1
    have HG0 := Lib.hid g0
    have HG1 := Lib.hid g1
    have HX2 : Hid (Below w.heap.size w X1) := kp_call G0.out H2.out
    clear g0 g1
    gi_wp2
    refine ⟨_, results_cctt Tryd.results38 _ (LV.one (cells_1 (has_set (set_1 (v0 := .slice none 0 0) HG0.out) (by omega))) (by intro w; kernel_rfl)) (LV.one (cells_1 (set_1 (v0 := .int .i64 0) ((heap_set_far _ _ _ _ _ (by omega)).trans HG1.out))) (by intro w; kernel_rfl)), ?_⟩
    exact ⟨rfl, kp_set (kp_set HX2.out (by omega)) (by omega)⟩
theorem scan_off (hK : BK w base b g a c S F C) (hS : S.off = true) : Calls Tryd.prog 30 #[.pointer (some ⟨b, 0, none⟩)] w fun e w' => e = .returned (.tuple #[.slice none 0 0, .int .i64 0, .bool false, .int .i64 6]) ∧ Below w.heap.size w w' := by
  have RDX := Lib.hid (read_off hK hS)
  clear hK hS
  go_enter Tryd.func30, Tryd.ntmps30
  go_wp2_with fail
  refine RDX.out.mono ?_
  rintro e w1 ⟨rfl, hb1⟩
  go_wp2_with fail
  go_loopw [2, 20] (fun v2 v20 wl => v20 = .int .i64 0 ∧ v2 = .slice none 0 0 ∧ wl = w1) (fun _ _ _ => 0)
  case atStart => exact ⟨rfl, rfl, rfl⟩
  case round =>
    obtain ⟨rfl, rfl, rfl⟩ := hrel
    go_wp2
    refine bodyPost_ret (results_tmp4 rfl _ _ _) rfl ?_
    exact ⟨rfl, hb1⟩
theorem kill_off (hK : BK w base b g a c S F C) (hS : S.off = true) (i : Int) : Calls Tryd.prog 21 #[.pointer (some ⟨b, 0, none⟩), .int .i64 i] w fun e w' => e = .returned (.int .i64 6) ∧ Below w.heap.size w w' := by
  have RDX := Lib.hid (read_off hK hS)
  clear hK hS
  go_enter Tryd.func21, Tryd.ntmps21
  go_wp2_with fail
  refine RDX.out.mono ?_
  rintro e w1 ⟨rfl, hb1⟩
  go_wp2
  go_ret
  exact ⟨rfl, hb1⟩
theorem add_off (hK : BK w base b g a c S F C) (hS : S.off = true) (A B : Option Addr) (n ca m cb : Nat) (hfit : 1 ≤ n ∧ n ≤ 255 ∧ m ≤ 65536) :
    Calls Tryd.prog 17 #[.pointer (some ⟨b, 0, none⟩), .slice A n ca, .slice B m cb] w fun e w' => e = .returned (.int .i64 6) ∧ Below w.heap.size w w' := by
  have LF := Lib.hid (fun W => lfit_any (n : Int) (m : Int) W)
  have hd : decide (1 ≤ (n : Int) ∧ (n : Int) ≤ 255 ∧ (m : Int) ≤ 65536) = true := decide_eq_true (by omega)
  rw [hd] at LF
  have RDX := Lib.hid (read_off hK hS)
  clear hK hS hd hfit
  go_enter Tryd.func17, Tryd.ntmps17
  go_wp2_with fail
  refine (LF.out _).mono ?_
  rintro e v1 ⟨rfl, hv1⟩
  subst v1
  go_wp2_with fail
  refine RDX.out.mono ?_
  rintro e w1 ⟨rfl, hb1⟩
  go_wp2
  go_ret
  exact ⟨rfl, hb1⟩
end
end Go.Proofs.YtkajlbdiofobcaaDoor
