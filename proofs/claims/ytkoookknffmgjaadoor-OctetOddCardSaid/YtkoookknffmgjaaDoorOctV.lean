/-
  octet: the anchor of layer 1's statements.
-/
import Derived.Test.YtkoookknffmgjaaDoorOctC
import Derived.Test.YtkoookknffmgjaaDoorOctN
namespace Go.Proofs.YtkoookknffmgjaaDoor
open Go.RowKit Go
set_option linter.unusedVariables false
set_option maxRecDepth 100000
theorem works_any (w : World) (hs : Sizes w) :
    Calls Tryd.prog 12 #[] w fun e w' => e = .returned (.bool true) ∧ Below w.heap.size w w' := by
  have G1 : Hid (∀ W, Sizes W → ∀ A c, RB W A 3 [1, 2, 3] → Calls Tryd.prog 14 #[.slice A 3 c, .int .i64 1, .int .i64 2] W fun e w' => e = .returned (.tuple #[.int .u64 770, .int .i64 0]) ∧ W = w') :=
    fun W h A c hR => get_ok A 3 c [1, 2, 3] 1 2 W hR h (by decide) rfl (by decide)
  have G2 : Hid (∀ W, Sizes W → ∀ A c, RB W A 3 [1, 2, 3] → Calls Tryd.prog 16 #[.slice A 3 c, .int .i64 1, .int .i64 2] W fun e w' => e = .returned (.tuple #[.int .u64 515, .int .i64 0]) ∧ Below W.heap.size W w') :=
    fun W h A c hR => getBig_ok A 3 c [1, 2, 3] 1 2 W hR h (by decide) rfl (by decide)
  have G3 : Hid (∀ W, Calls Tryd.prog 29 #[.string ⟨#[65, 66]⟩] W fun e w' => ∃ A n c, e = .returned (.slice A n c) ∧ OwnB w' W.heap.size A n c [65, 0, 66, 0] ∧ Below W.heap.size W w') :=
    fun W => wide_any ⟨#[65, 66]⟩ W (by decide)
  have G4 : Hid (∀ W A n c, RB W A n [65, 0, 66, 0] → Calls Tryd.prog 27 #[.slice A n c] W fun e w' => e = .returned (.tuple #[.string ⟨#[65, 66]⟩, .int .i64 0]) ∧ Below W.heap.size W w') :=
    fun W A n c hR => narrow_any A n c [65, 0, 66, 0] W hR (by have := hR.1; simp at this; omega)
  have G5 : Hid (∀ W A c, RB W A 3 [1, 2, 3] → 3 ≤ c → c ≤ 9223372036854775807 → Calls Tryd.prog 18 #[.slice A 3 c, .int .i64 1, .int .i64 2] W (FreshCut W [2, 3])) :=
    fun W A c hR h1 h2 => cut_ok A 3 c [1, 2, 3] 1 2 W hR h1 h2 (by decide) (by decide)
  have G6 : Hid (∀ W, Sizes W → Calls Tryd.prog 23 #[.slice none 0 0, .int .u64 7, .int .i64 4] W (Fresh W [7, 0, 0, 0])) :=
    fun W h => put_ok none 0 0 [] 7 4 W (RB.nil _ _) h (by decide) rfl (by decide)
  go_enter Tryd.func12, Tryd.ntmps12
  go_wp2_with fail
  have hR : RB (w.alloc (.cells #[.int .u8 1, .int .u8 2, .int .u8 3] 5)) (some ⟨w.heap.size, 0, none⟩) 3 [1, 2, 3] := ⟨rfl, (bs_new w [1, 2, 3] 5 (0, 0) _ rfl).more (by simp)⟩
  have hb0 : Below w.heap.size w (w.alloc (.cells #[.int .u8 1, .int .u8 2, .int .u8 3] 5)) := (Below.refl _ _).alloc (Nat.le_refl _) _
  have hs0 := hs.below' hb0
  generalize w.alloc (.cells #[.int .u8 1, .int .u8 2, .int .u8 3] 5) = w0 at hR hb0 hs0 ⊢
  refine (G1.out w0 hs0 _ 3 hR).mono ?_
  rintro e w' ⟨rfl, rfl⟩
  go_wp2_with fail
  refine (G2.out w0 hs0 _ 3 hR).mono ?_
  rintro e w1 ⟨rfl, hb1⟩
  have hR1 := hR.below hb1
  have hb1' := hb0.trans (hb1.mono hb0.size)
  have hs1 := hs.below' hb1'
  go_wp2_with fail
  refine (G3.out w1).mono ?_
  rintro e w2 ⟨A2, n2, c2, rfl, hown2, hb2⟩
  have hR2 := hR1.below hb2
  have hb2' := hb1'.trans (hb2.mono hb1'.size)
  go_wp2_with fail
  refine (G4.out w2 A2 n2 c2 hown2.rb).mono ?_
  rintro e w3 ⟨rfl, hb3⟩
  have hR3 := hR2.below hb3
  have hb3' := hb2'.trans (hb3.mono hb2'.size)
  go_wp2_with fail
  refine (G5.out w3 _ 3 hR3 (by decide) (by decide)).mono ?_
  rintro e w4 ⟨A4, n4, c4, rfl, hown4, hb4⟩
  have hb4' := hb3'.trans (hb4.mono hb3'.size)
  have hs4 := hs.below' hb4'
  have hn4 : n4 = 2 := hown4.len.symm
  subst hn4
  obtain ⟨g, rfl, _, _⟩ := hown4.shape (by have := hown4.cap; omega)
  have hc4 : w4.cell? ⟨g, 1, none⟩ = some (.int .u8 3) := hown4.cellAt 1 3 rfl
  go_wp2_with fail
  refine (G6.out w4 hs4).mono ?_
  rintro e w5 ⟨A5, n5, c5, rfl, hown5, hb5⟩
  have hn5 : n5 = 4 := hown5.len.symm
  subst hn5
  go_wp2
  go_ret
  exact ⟨rfl, hb4'.trans (hb5.mono hb4'.size)⟩
end Go.Proofs.YtkoookknffmgjaaDoor
