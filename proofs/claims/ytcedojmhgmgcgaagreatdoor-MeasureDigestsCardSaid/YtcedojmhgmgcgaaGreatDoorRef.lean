/-
  What the statements' own helpers do: copies of bytes, whether bytes are the same.
-/
import Derived.Test.YtcedojmhgmgcgaaGreatDoorOwn
import Derived.Outline
import Derived.WalkLawsBesides
import Derived.WalkSpells
namespace Go.Proofs.YtcedojmhgmgcgaaGreatDoor
open Go.RowKit Go
set_option linter.unusedVariables false
set_option maxRecDepth 100000

theorem copy_any (A : Option Addr) (n c : Nat) (bs : List UInt8) (w : World) (h : RB w A n bs) (hn : n ≤ 140737488355328) :
    Calls Tryz.prog 14 #[.slice A n c] w (Fresh w bs) := by
  obtain ⟨rfl, hb⟩ := h
  go_enter Tryz.func14, Tryz.ntmps14
  go_wp2_with (at_builtin; refine wpList_app _ _ rfl rfl rfl w.heap.size none 0 0 [] rfl (OwnB.nil _ _) w.heap.size A c bs rfl hb (by simpa using hn) (Nat.le_refl _) ?_)
  intro A' c' w' hown hg
  go_wp2
  go_ret
  exact ⟨A', _, c', rfl, hown, (Below.refl _ _).grown hg (Nat.le_refl _) (by intro k hk; cases hk)⟩

theorem eq_any (A1 A2 : Option Addr) (n1 n2 c1 c2 : Nat) (xs ys : List UInt8) (w : World) (h1 : RB w A1 n1 xs) (h2 : RB w A2 n2 ys) :
    Calls Tryz.prog 25 #[.slice A1 n1 c1, .slice A2 n2 c2] w fun e w' => e = .returned (.bool (xs == ys)) ∧ w = w' := by
  obtain ⟨rfl, h1⟩ := h1
  obtain ⟨rfl, h2⟩ := h2
  have e1 := run_strOf w _ A1 xs c1 h1
  have e2 := run_strOf w _ A2 ys c2 h2
  have t1 := strOf_toList xs
  have t2 := strOf_toList ys
  go_enter Tryz.func25, Tryz.ntmps25
  go_wp2
  go_ret
  exact ⟨rfl, rfl⟩
end Go.Proofs.YtcedojmhgmgcgaaGreatDoor
