/-
  flash: what reads and sets a flash, but Program and Erase.
-/
import Derived.Test.YtkajlbdiofobcaaDoorFlA
import Derived.Deep.QuietTactic
import Derived.BigQuiet
namespace Go.Proofs.YtkajlbdiofobcaaDoor
open Go.RowKit Go
set_option linter.unusedVariables false
set_option linter.unusedSimpArgs false
set_option maxRecDepth 100000
theorem own_nil (w : World) : OwnB (w.alloc (.cells #[] 5)) w.heap.size (some ⟨w.heap.size, 0, none⟩) 0 0 [] :=
  ⟨rfl, .inr ⟨w.heap.size, 0, #[], rfl, Nat.le_refl _, heap_alloc_new w _, Nat.le_refl _, Nat.zero_le _, rfl, rfl⟩⟩
section
variable {base g a c : Nat} {S : FS} {w : World}
theorem fready_any (h : FL w base g a c S) : Calls Tryd.prog 36 #[.pointer (some ⟨g, 0, none⟩)] w fun e w' => e = .returned (.int .i64 (if S.off then 6 else 0)) ∧ w' = w := by
  obtain ⟨k0, k1, k2, k3, k4, k5⟩ := cells_6 h.st
  clear h k0 k1 k3 k4 k5
  rcases hS : S.off with _ | _
  all_goals
    rw [hS] at k2
    go_enter Tryd.func36, Tryd.ntmps36
    go_wp2
    go_ret
    exact ⟨rfl, rfl⟩
theorem fsectors_any (h : FL w base g a c S) : Calls Tryd.prog 31 #[.pointer (some ⟨g, 0, none⟩)] w fun e w' => e = .returned (.int .i64 (S.n : Int)) ∧ Below w.heap.size w w' := by
  obtain ⟨k0, k1, k2, k3, k4, k5⟩ := cells_6 h.st
  have hs := h.s1
  have hn := h.n2
  have e1 : wrap64 (((S.n * S.s : Nat) : Int) / (S.s : Int)) = (S.n : Int) := by
    rw [show ((S.n * S.s : Nat) : Int) / (S.s : Int) = ((S.n * S.s / S.s : Nat) : Int) from rfl, Nat.mul_div_cancel _ (by omega)]
    unfold wrap64
    omega
  have e2 : ((S.s : Int) == 0) = false := by rw [beq_eq_false_iff_ne]; omega
  have e3 : ¬ ((S.s : Int) = 0) := by omega
  have e4 : ¬ (S.s = 0) := by omega
  clear h k2 k3 k4 k5
  generalize S.n * S.s = M at *
  generalize S.n = N at *
  generalize S.s = T at *
  go_enter Tryd.func31, Tryd.ntmps31
  go_wp2_with fail
  go_quiet (fail)
  go_wp2
  go_ret
  exact ⟨by simp [e1], kp_drewN (Below.refl _ _) _⟩
theorem fsize_any (h : FL w base g a c S) : Calls Tryd.prog 32 #[.pointer (some ⟨g, 0, none⟩)] w fun e w' => e = .returned (.int .i64 (S.s : Int)) ∧ w' = w := by
  obtain ⟨k0, k1, k2, k3, k4, k5⟩ := cells_6 h.st
  clear h k1 k2 k3 k4 k5
  go_enter Tryd.func32, Tryd.ntmps32
  go_wp2
  go_ret
  exact ⟨rfl, rfl⟩
theorem fdead_any (h : FL w base g a c S) : Calls Tryd.prog 29 #[.pointer (some ⟨g, 0, none⟩)] w fun e w' => e = .returned (.bool S.off) ∧ w' = w := by
  obtain ⟨k0, k1, k2, k3, k4, k5⟩ := cells_6 h.st
  clear h k1 k5 k3 k4 k0
  go_enter Tryd.func29, Tryd.ntmps29
  go_wp2
  go_ret
  exact ⟨rfl, rfl⟩
theorem fimage_any (h : FL w base g a c S) : Calls Tryd.prog 27 #[.pointer (some ⟨g, 0, none⟩)] w (Fresh w S.bs) := by
  have hlt := h.alt
  obtain ⟨_, k1, _⟩ := cells_6 (h.alloc (.cells #[] 5)).st
  have HR := Lib.hid (h.own.rb.alloc (.cells #[] 5))
  have hM := h.big
  obtain ⟨_, k2, _⟩ := cells_6 h.st
  clear h
  go_enter Tryd.func27, Tryd.ntmps27
  go_wp2_with (at_builtin; refine wpList_apn _ _ rfl rfl rfl w.heap.size (some ⟨w.heap.size, 0, none⟩) 0 0 [] rfl (own_nil w) (some ⟨a, 0, none⟩) (S.n * S.s) c _ rfl HR.out (by omega) (by simp) ?_)
  intro A' c' w' hown hg
  go_wp2
  go_ret
  exact ⟨A', _, c', rfl, by simpa using hown, ((Below.refl _ _).alloc (Nat.le_refl _) _).grown hg (by simp) (by intro k hk; cases hk; exact Nat.le_refl _)⟩
theorem fon_any (h : FL w base g a c S) : Calls Tryd.prog 19 #[.pointer (some ⟨g, 0, none⟩)] w fun e w' => e = .returned (.int .i64 (if S.off then 0 else 12)) ∧ FL w' base g a c { S with off := false } ∧ Far g a w w' := by
  obtain ⟨k0, k1, k2, k3, k4, k5⟩ := cells_6 h.st
  obtain ⟨f0, f1, f2, f3, f4, f5⟩ := free_6 h.st
  have H := Lib.hid h
  clear h k0 k1 k3 k4 k5 f0 f1 f3 f4 f5
  rcases hS : S.off with _ | _
  · rw [hS] at k2
    have HS := Lib.hid hS
    clear hS
    go_enter Tryd.func19, Tryd.ntmps19
    go_wp2
    go_ret
    refine ⟨rfl, ?_, Far.refl _ _ _⟩
    have h := H.out
    have hS := HS.out
    rcases S with ⟨n, s, bs, off, left, part, wr⟩
    simp only at hS
    subst hS
    exact h
  · rw [hS] at k2
    clear hS
    go_enter Tryd.func19, Tryd.ntmps19
    go_wp2
    go_ret
    exact ⟨rfl, H.out.setOff false, (Far.refl _ _ _).setg _ _⟩
/-- Arm, where there is power. -/
theorem farm_any (h : FL w base g a c S) (hS : S.off = false) (n p : Nat) (hn : n < 9223372036854775808) : Calls Tryd.prog 16 #[.pointer (some ⟨g, 0, none⟩), .int .i64 (n : Int), .int .i64 (p : Int)] w fun e w' => e = .returned (.int .i64 0) ∧ FL w' base g a c { S with left := n, part := p } ∧ Far g a w w' := by
  obtain ⟨f0, f1, f2, f3, f4, f5⟩ := free_6 h.st
  have H := Lib.hid h
  have RD := Lib.hid (fready_any h)
  have H2 := Lib.hid ((h.setLeft n hn).setPart p)
  obtain ⟨_, _, _, _, f6, _⟩ := free_6 (h.setLeft n hn).st
  obtain ⟨_, _, _, k3, k4, _⟩ := cells_6 h.st
  obtain ⟨_, _, _, _, k6, _⟩ := cells_6 (h.setLeft n hn).st
  rw [hS] at RD
  clear h f0 f1 f2 f5 hS
  have i1 : (0 : Int) ≤ (n : Int) := by omega
  have i2 : (0 : Int) ≤ (p : Int) := by omega
  go_enter Tryd.func16, Tryd.ntmps16
  go_wp2_with fail
  refine RD.out.mono ?_
  rintro e w1 ⟨rfl, rfl⟩
  go_wp2
  go_ret
  exact ⟨rfl, H2.out, ((Far.refl _ _ _).setg _ _).setg _ _⟩
/-- Arm, where it answers an error. -/
theorem farm_no (h : FL w base g a c S) (n p : Int) (hno : S.off = true ∨ n < 0 ∨ p < 0) : Calls Tryd.prog 16 #[.pointer (some ⟨g, 0, none⟩), .int .i64 n, .int .i64 p] w fun e w' => e = .returned (.int .i64 (if S.off then 6 else 1)) ∧ w' = w := by
  have RD := Lib.hid (fready_any h)
  clear h
  rcases hS : S.off with _ | _
  · rw [hS] at RD hno
    by_cases hn : n < 0
    · clear hno
      go_enter Tryd.func16, Tryd.ntmps16
      go_wp2_with fail
      refine RD.out.mono ?_
      rintro e w1 ⟨rfl, rfl⟩
      go_wp2
      go_ret
      exact ⟨rfl, rfl⟩
    · have hp : p < 0 := by rcases hno with h | h | h; cases h; exact absurd h hn; exact h
      clear hno
      go_enter Tryd.func16, Tryd.ntmps16
      go_wp2_with fail
      refine RD.out.mono ?_
      rintro e w1 ⟨rfl, rfl⟩
      go_wp2
      go_ret
      exact ⟨rfl, rfl⟩
  · rw [hS] at RD
    clear hno hS
    go_enter Tryd.func16, Tryd.ntmps16
    go_wp2_with fail
    refine RD.out.mono ?_
    rintro e w1 ⟨rfl, rfl⟩
    go_wp2
    go_ret
    exact ⟨rfl, rfl⟩
/-- Read, where it answers bytes. -/
theorem fread_any (h : FL w base g a c S) (hS : S.off = false) (k n : Nat) (hk : k + n ≤ S.n * S.s) : Calls Tryd.prog 44 #[.pointer (some ⟨g, 0, none⟩), .int .i64 (k : Int), .int .i64 (n : Int)] w fun e w' => ∃ A c', e = .returned (.tuple #[.slice A n c', .int .i64 0]) ∧ OwnB w' w.heap.size A n c' ((S.bs.drop k).take n) ∧ Below w.heap.size w w' := by
  have RD := Lib.hid (fready_any h)
  rw [hS] at RD
  have hlt := h.alt
  have hM := h.big
  have hcap := h.own.cap.1
  have hl := h.len
  obtain ⟨_, k1, _⟩ := cells_6 (h.alloc (.cells #[] 5)).st
  obtain ⟨_, k2, _⟩ := cells_6 h.st
  have HR : Hid (∀ A, A = (if c = k then some ⟨a, 0, none⟩ else some ⟨a, k, none⟩) → RB (w.alloc (.cells #[] 5)) A n ((S.bs.drop k).take n)) := by
    intro A hA
    by_cases hck : c = k
    · have hn0 : n = 0 := by omega
      subst hn0
      rw [List.take_zero]
      exact ⟨rfl, Bs.nil⟩
    rw [if_neg hck] at hA
    have h1 := ((h.own.reads.alloc (Nat.le_refl _) (.cells #[] 5)).drop_ k).take_ n
    have h2 : A = (some (⟨a, 0, none⟩ : Addr)).map (·.add k) := by
      rw [hA]
      by_cases hz : k = 0
      · subst hz; rfl
      · simp [Addr.add, hz]
    rw [h2]
    exact ⟨by rw [List.length_take, List.length_drop]; omega, h1.more (by simp)⟩
  clear h hS
  generalize S.n * S.s = M at *
  have e1 : IntKind.i64.wrap ((M : Int) - (k : Int)) = (M : Int) - (k : Int) := IntWalk.i64_in _ (by omega)
  have e2 : IntKind.i64.wrap ((k : Int) + (n : Int)) = (k : Int) + (n : Int) := IntWalk.i64_in _ (by omega)
  have i1 : (0 : Int) ≤ (k : Int) := by omega
  have i2 : (0 : Int) ≤ (n : Int) := by omega
  have i3 : (k : Int) ≤ (M : Int) := by omega
  have i4 : (n : Int) ≤ (M : Int) - (k : Int) := by omega
  have i5 : (k : Int) + (n : Int) ≤ (c : Int) := by omega
  have i6 : ((k : Int) + (n : Int)).toNat = k + n := by omega
  have i7 : k + n - k = n := by omega
  have i8 : (0 : Int) ≤ (k : Int) + (n : Int) := by omega
  have i9 : (k : Int) ≤ (k : Int) + (n : Int) := by omega
  go_enter Tryd.func44, Tryd.ntmps44
  go_wp2_with fail
  refine RD.out.mono ?_
  rintro e w1 ⟨rfl, rfl⟩
  go_wp2_with (at_builtin; refine wpList_apn _ _ rfl rfl rfl w1.heap.size (some ⟨w1.heap.size, 0, none⟩) 0 0 [] rfl (own_nil w1) _ n _ _ rfl (HR.out _ rfl) (by omega) (by simp) ?_)
  all_goals
    intro A' c' w' hown hg
    go_wp2
    go_ret2
    exact ⟨A', c', by simp, by simpa using hown, ((Below.refl _ _).alloc (Nat.le_refl _) _).grown hg (by simp) (by intro k hk; cases hk; exact Nat.le_refl _)⟩
end
end Go.Proofs.YtkajlbdiofobcaaDoor
