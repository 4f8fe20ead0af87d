/-
  mont: it works; no modulus.
-/
import Derived.Test.YtbplchpbaonadaaDoorMi
import Derived.Test.YtbplchpbaonadaaDoorNu
namespace Go.Proofs.YtbplchpbaonadaaDoor
open Go.RowKit Go
set_option linter.unusedVariables false
set_option linter.unusedSimpArgs false
set_option maxRecDepth 100000
/-- New, told by its answer: a modulus. -/
theorem new_yes (A : Option Addr) (n c : Nat) (ms : List Nat) (w : World) (hA : RU w A n ms) (hm : mayB ms = true) :
    Calls Tryd.prog 24 #[.slice A n c] w fun e w' => ∃ g, e = .returned (.tuple #[.pointer (some ⟨g, 0, none⟩), .int .i64 0]) ∧ w.heap.size ≤ g ∧ MD w' g (val ms) ∧ Below w.heap.size w w' :=
  (new_ok A n c ms w hA hm).mono fun e w' h => by
    obtain ⟨h1, h2⟩ := h
    rw [hm] at h2
    obtain ⟨g, h3, h4, h5⟩ := h2
    exact ⟨g, h3, h4, h5.md, h1⟩
theorem new_own (A : Option Addr) (n c : Nat) (ms : List Nat) (w : World) (hA : RU w A n ms) (hm : mayB ms = true) :
    Calls Tryd.prog 24 #[.slice A n c] w fun e w' => ∃ g, e = .returned (.tuple #[.pointer (some ⟨g, 0, none⟩), .int .i64 0]) ∧ w.heap.size ≤ g ∧ MDO w' w.heap.size g (val ms) ∧ Below w.heap.size w w' :=
  (new_ok A n c ms w hA hm).mono fun e w' h => by
    obtain ⟨h1, h2⟩ := h
    rw [hm] at h2
    obtain ⟨g, h3, h4, h5⟩ := h2
    exact ⟨g, h3, h4, h5, h1⟩
theorem new_no (A : Option Addr) (n c : Nat) (ms : List Nat) (w : World) (hA : RU w A n ms) (hn : n ≤ 1000) (hm : mayB ms = false) :
    Calls Tryd.prog 24 #[.slice A n c] w fun e w' => e = .returned (.tuple #[.pointer none, .int .i64 1]) ∧ Below w.heap.size w w' :=
  (new_err A n c ms w hA hn hm).mono fun e w' h => by
    obtain ⟨h1, h2⟩ := h
    rw [hm] at h2
    exact ⟨h2, h1⟩
theorem one_ru {w : World} {g v : Nat} (h : BlkU w g [v]) (hv : v < 4294967296) : RU w (some ⟨g, 0, none⟩) 1 [v] := h.ru (Lim.cons hv Lim.nil) 0 1 (by simp)
theorem num_small {v : Nat} (h0 : 0 < v) (h : v < 4294967296) : num v = [v] := by
  rw [num_pos v (by omega), Nat.mod_eq_of_lt h, Nat.div_eq_of_lt h, num_zero]
theorem val_one (v : Nat) : val [v] = v := by simp [val]
end Go.Proofs.YtbplchpbaonadaaDoor
