/-
  flash: Program's errors; what Erase hands to write.
-/
import Derived.Test.YtkajlbdiofobcaaDoorFlD
import Derived.Deep.RegionHeld3
namespace Go.Proofs.YtkajlbdiofobcaaDoor
open Go.RowKit Go
set_option linter.unusedVariables false
set_option linter.unusedSimpArgs false
set_option maxRecDepth 100000
theorem cell_grown {w w' : World} {a b j : Nat} {u : Value} (h : w.grownBy w' (some a)) (hne : b ≠ a) (hc : w.cell? ⟨b, j, none⟩ = some u) : w'.cell? ⟨b, j, none⟩ = some u :=
  (World.cell?_of_block (h.block b (World.block_lt_of_cell? w _ hc) (fun e => hne (Option.some.inj e)))).trans hc
section
variable {base g a c : Nat} {S : FS} {w W : World}
/-- Program, where it answers an error. -/
theorem fprogram_no (h : FL w base g a c S) (k : Int) (n cA : Nat) (A : Option Addr) (hn9 : n ≤ 1000000000) (hno : S.off = true ∨ k < 0 ∨ (0 < n ∧ ((S.n * S.s : Nat) : Int) - n < k)) :
    Calls Tryd.prog 34 #[.pointer (some ⟨g, 0, none⟩), .int .i64 k, .slice A n cA] w
      fun e w' => e = .returned (.int .i64 (if S.off then 6 else 1)) ∧ Below w.heap.size w w' := by
  rcases hS : S.off with _ | _
  all_goals
    have H := Lib.hid h
    have hM := h.big
    clear h
    go_enter Tryd.func34, Tryd.ntmps34
    go_wp2_with fail
    refine calls_nm fun W hW => ?_
    have hbW : Hid (Below w.heap.size w W) := by rw [← hW]; exact kp_alloc (kp_alloc (Below.refl _ _) _) _
    have h3 : W.heap[w.heap.size]? = some (.cells #[.pointer (some ⟨g, 0, none⟩)] 41) := by rw [← hW]; exact has_alloc (has_new _ _) _
    have h4 : W.heap[w.heap.size + 1]? = some (.cells #[.int .i64 k] 3) := by rw [← hW]; exact has_new' _ _ _ (by simp)
    have HW := Lib.hid (H.out.below hbW.out)
    obtain ⟨k0, k1, k2, k3, k4, k5⟩ := cells_6 HW.out.st
    have c3 := cells_1 h3
    have c4 := cells_1 h4
    have RD := Lib.hid (fready_any HW.out)
    clear hW h3 h4 k0 k2 k3 k4 k5
    obtain ⟨M, hMM⟩ : ∃ M, S.n * S.s = M := ⟨_, rfl⟩
    rw [hMM] at hno hM k1
    clear hMM H HW
  · rw [hS] at RD hno
    clear hS
    refine RD.out.mono ?_
    rintro e w1 ⟨rfl, rfl⟩
    clear RD
    by_cases hk : k < 0
    · have p8 : decide (k < 0) = true := decide_eq_true hk
      clear hno
      go_wp2_with fail
      go_quiet (fail)
      go_wp2
      go_ret
      exact ⟨rfl, kp_drewN hbW.out _⟩
    · have hx : 0 < n ∧ (M : Int) - n < k := by
        rcases hno with h | h | h
        · cases h
        · exact absurd h hk
        · exact h
      have p8 : decide (k < 0) = false := decide_eq_false hk
      have p1 : (0 : Int) < (n : Int) := by omega
      have p4 : decide ((n : Int) > 0) = true := decide_eq_true p1
      have p5 : decide (n > 0) = true := decide_eq_true hx.1
      have p6 : decide (k > (M : Int) - (n : Int)) = true := decide_eq_true hx.2
      have p7 : decide ((M : Int) - (n : Int) < k) = true := decide_eq_true hx.2
      have e1 : IntKind.i64.wrap ((M : Int) - (n : Int)) = (M : Int) - (n : Int) := IntWalk.i64_in _ (by omega)
      have hx0 := hx.1
      have hx1 := hx.2
      clear hno hx
      go_wp2_with fail
      go_quiet (fail)
      go_wp2
      go_ret
      exact ⟨rfl, kp_drewN hbW.out _⟩
  · rw [hS] at RD
    clear hno hS
    refine RD.out.mono ?_
    rintro e w1 ⟨rfl, rfl⟩
    clear RD
    go_wp2
    go_ret
    exact ⟨rfl, hbW.out⟩
/-- What Erase does. -/
theorem erase1_any (h : FL W base g a c S) (o m b6 c6 : Nat) (ho : o + m ≤ S.n * S.s) (c6' : W.cell? ⟨b6, 0, none⟩ = some (.slice (some ⟨a, o, none⟩) m c6)) :
    Calls Tryd.prog 54 #[.pointer (some ⟨b6, 0, none⟩)] W
      fun e w' => e = .returned (.tuple #[]) ∧ FL w' base g a c { S with bs := splice S.bs o (List.replicate m 255) } ∧ Far g a W w' := by
  have H := Lib.hid h
  have FI := Lib.hid (fill_any a o m c6 _ c base S.bs W h.own ho (by have := h.big; omega))
  clear h
  go_enter Tryd.func54, Tryd.ntmps54
  go_wp2_with fail
  refine FI.out.mono ?_
  rintro e w1 ⟨rfl, h1, h2⟩
  have Z := Lib.hid (And.intro (H.out.over h2 h1) (Far.of_a (g := g) h2))
  clear h1 h2 FI H
  go_wp2
  go_end0
  exact ⟨rfl, Z.out⟩
/-- What Erase does where the power goes. -/
theorem erase2_any (h : FL W base g a c S) (o m b6 c6 b2 q : Nat) (ho : o + m ≤ S.n * S.s) (hm : m ≤ c6) (n6 : b6 ≠ a) (n2 : b2 ≠ a) (hq : q = min S.part m) (c6' : W.cell? ⟨b6, 0, none⟩ = some (.slice (some ⟨a, o, none⟩) m c6)) (c2 : W.cell? ⟨b2, 0, none⟩ = some (.pointer (some ⟨g, 0, none⟩))) :
    Calls Tryd.prog 55 #[.pointer (some ⟨b6, 0, none⟩), .pointer (some ⟨b2, 0, none⟩)] W
      fun e w' => e = .returned (.tuple #[]) ∧ FL w' base g a c { S with bs := splice S.bs o (List.replicate q 255) } ∧ Far g a W w' := by
  have H := Lib.hid h
  have FI := Lib.hid fun (c9 : Nat) (k : Nat) => fill_any a o q c9 _ c base S.bs (W.drewN k) (h.own.drewN k) (by omega) (by have := h.big; omega)
  have FD := Lib.hid fun (c9 : Nat) => fill_any a o q c9 _ c base S.bs W.drew h.own.drew (by omega) (by have := h.big; omega)
  obtain ⟨k0, k1, k2, k3, k4, k5⟩ := cells_6 h.st
  clear h k0 k1 k2 k3 k5
  obtain ⟨PP, hPP⟩ : ∃ PP, S.part = PP := ⟨_, rfl⟩
  rw [hPP] at k4 hq
  clear hPP
  by_cases hmp : m < PP
  · obtain rfl : m = q := by omega
    have i1 : (m : Int) ≤ (c6 : Int) := by omega
    have i2 : (0 : Int) ≤ (m : Int) := by omega
    have i3 : m ≤ c6 := by omega
    clear hq
    go_enter Tryd.func55, Tryd.ntmps55
    go_wp2_with fail
    go_region_held3 (fun W' => (W'.cell? ⟨b6, 0, none⟩ = some (.slice (some ⟨a, o, none⟩) m c6)) ∧ (W'.cell? ⟨b2, 0, none⟩ = some (.pointer (some ⟨g, 0, none⟩))) ∧ (W'.cell? ⟨g, 4, none⟩ = some (.int .i64 (PP : Int))))
      (first | exact ⟨c6', c2, k4⟩ | exact ⟨cell_grown h2 n6 c6', cell_grown h2 n2 c2, cell_grown h2 (Ne.symm H.out.ne) k4⟩)
      (first
        | (go_at_call 41; (with_reducible refine (FD.out _).mono ?_); (rintro e w1 ⟨rfl, h1, h2⟩)))
    have Z := Lib.hid (And.intro (H.out.drew.over h2 h1) (((Far.refl g a W).drew).trans (Far.of_a (g := g) h2)))
    clear h1 h2
    go_wp2
    go_end0
    exact ⟨rfl, Z.out⟩
  · obtain rfl : PP = q := by omega
    have i1 : (PP : Int) ≤ (c6 : Int) := by omega
    have i2 : (0 : Int) ≤ (PP : Int) := by omega
    have i3 : PP ≤ c6 := by omega
    clear hq
    go_enter Tryd.func55, Tryd.ntmps55
    go_wp2_with fail
    go_region_held3 (fun W' => (W'.cell? ⟨b6, 0, none⟩ = some (.slice (some ⟨a, o, none⟩) m c6)) ∧ (W'.cell? ⟨b2, 0, none⟩ = some (.pointer (some ⟨g, 0, none⟩))) ∧ (W'.cell? ⟨g, 4, none⟩ = some (.int .i64 (PP : Int))))
      (first | exact ⟨c6', c2, k4⟩ | exact ⟨cell_grown h2 n6 c6', cell_grown h2 n2 c2, cell_grown h2 (Ne.symm H.out.ne) k4⟩)
      (first
        | (go_at_call 41; (with_reducible refine (FD.out _).mono ?_); (rintro e w1 ⟨rfl, h1, h2⟩)))
    have Z := Lib.hid (And.intro (H.out.drew.over h2 h1) (((Far.refl g a W).drew).trans (Far.of_a (g := g) h2)))
    clear h1 h2
    go_wp2
    go_end0
    exact ⟨rfl, Z.out⟩
end
end Go.Proofs.YtkajlbdiofobcaaDoor
