/-
  What the statements' own helpers do: copies of bytes, whether bytes are the same.
-/
import Derived.Test.YtfampefflkkckaaDoorOwn
import Derived.Outline
import Derived.WalkLawsBesides
import Derived.WalkSpells
namespace Go.Proofs.YtfampefflkkckaaDoor
open Go.RowKit Go
set_option linter.unusedVariables false
set_option maxRecDepth 100000

theorem copy_any (A : Option Addr) (n c : Nat) (bs : List UInt8) (w : World) (h : RB w A n bs) (hn : n ≤ 140737488355328) :
    Calls Tryd.prog 51 #[.slice A n c] w (Fresh w bs) := by
  obtain ⟨rfl, hb⟩ := h
  go_enter Tryd.func51, Tryd.ntmps51
  go_wp2_with (at_builtin; refine wpList_app _ _ rfl rfl rfl w.heap.size none 0 0 [] rfl (OwnB.nil _ _) w.heap.size A c bs rfl hb (by simpa using hn) (Nat.le_refl _) ?_)
  intro A' c' w' hown hg
  go_wp2
  go_ret
  exact ⟨A', _, c', rfl, hown, (Below.refl _ _).grown hg (Nat.le_refl _) (by intro k hk; cases hk)⟩

end Go.Proofs.YtfampefflkkckaaDoor
