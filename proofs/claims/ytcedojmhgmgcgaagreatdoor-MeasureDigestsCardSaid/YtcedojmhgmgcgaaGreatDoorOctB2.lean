/-
  octet.Cut (for seats that do not have all of octet).
-/
import Derived.Test.YtcedojmhgmgcgaaGreatDoorOctB1
import Derived.Test.YtcedojmhgmgcgaaGreatDoorCpy
import Derived.Test.YtcedojmhgmgcgaaGreatDoorRef
namespace Go.Proofs.YtcedojmhgmgcgaaGreatDoor
open Go.RowKit Go
set_option linter.unusedVariables false
set_option maxRecDepth 100000
/-- What Cut answers of bytes that are there. -/
def FreshCut (w : World) (bs : List UInt8) (e : Ending) (w' : World) : Prop :=
  ∃ A n c, e = .returned (.tuple #[.slice A n c, .bool true]) ∧ OwnB w' w.heap.size A n c bs ∧ Below w.heap.size w w'
theorem cut_ok (A : Option Addr) (n c : Nat) (bs : List UInt8) (a k : Nat) (w : World) (hR : RB w A n bs) (hn : n ≤ c) (hc : c ≤ 9223372036854775807) (hin : a + k ≤ n) (hlim : k ≤ 140737488355328) :
    Calls Tryz.prog 73 #[.slice A n c, .int .i64 a, .int .i64 k] w (FreshCut w (cut bs a k)) := by
  have I := Lib.hid (within_any A n c a k w (by omega) (by omega) (by omega))
  have hi : inB n a k = true := by simp [inB]; omega
  rw [hi] at I
  clear hi
  go_enter Tryz.func73, Tryz.ntmps73
  go_wp2_with fail
  refine I.out.mono ?_
  rintro e w' ⟨rfl, rfl⟩
  go_wp2_with (refine wpList_mk (.tmp 14) (.tmp 14) rfl rfl _ _ _ _ k rfl rfl rfl rfl hlim ?_)
  intro w1 hown1 hg1
  have hb1 : Below w.heap.size w w1 := (Below.refl _ _).grown hg1 (Nat.le_refl _) (by intro g hg; cases hg)
  have hrd := (hR.2.below hb1).drop_ a
  have hld : (bs.drop a).length = n - a := by rw [List.length_drop, hR.1]
  have HL := Lib.hid hld
  have hfin : ∀ w', OwnB w' w.heap.size (some ⟨w.heap.size, 0, none⟩) k k (splice (List.replicate k 0) 0 ((bs.drop a).take k)) → OwnB w' w.heap.size (some ⟨w.heap.size, 0, none⟩) k k (cut bs a k) := by
    intro w' h
    rwa [splice_zero _ _ (by rw [List.length_replicate, List.length_take, hld]; omega)] at h
  have HF := Lib.hid hfin
  clear hfin hld
  by_cases hca : c = a
  · obtain rfl : k = 0 := by omega
    clear hrd
    subst hca
    go_wp2_with (refine wpList_cpy (.tmp 16) (.tmp 19) rfl rfl w.heap.size w.heap.size 0 0 0 0 0 _ rfl hown1 0 _ _ _ [] rfl rfl Bs.nil (by omega) ?_)
    intro w2 hown2 hg2
    go_wp2
    go_ret2
    exact ⟨_, _, _, rfl, by simpa [cut, splice_nil] using hown2, hb1.grown hg2 hb1.size (fun g hg => by injection hg with hg; omega)⟩
  · go_wp2_with (refine wpList_cpy (.tmp 16) (.tmp 19) rfl rfl w.heap.size w.heap.size 0 k k k k _ rfl hown1 w.heap.size _ _ _ (bs.drop a) rfl HL.out hrd (by omega) ?_)
    intro w2 hown2 hg2
    go_wp2
    go_ret2
    exact ⟨_, _, _, rfl, HF.out _ hown2, hb1.grown hg2 hb1.size (fun g hg => by injection hg with hg; omega)⟩
theorem cut_not (A : Option Addr) (n c : Nat) (a k : Int) (w : World) (hn : n ≤ 9223372036854775807) (h1 : -9223372036854775808 ≤ k) (h2 : k ≤ 9223372036854775807) (hno : inB n a k = false) :
    Calls Tryz.prog 73 #[.slice A n c, .int .i64 a, .int .i64 k] w fun e w' => e = .returned (.tuple #[.slice none 0 0, .bool false]) ∧ w = w' := by
  have I := Lib.hid (within_any A n c a k w (by omega) h1 h2)
  rw [hno] at I
  clear hno
  go_enter Tryz.func73, Tryz.ntmps73
  go_wp2_with fail
  refine I.out.mono ?_
  rintro e w' ⟨rfl, rfl⟩
  go_wp2
  go_ret2
  exact ⟨rfl, rfl⟩
end Go.Proofs.YtcedojmhgmgcgaaGreatDoor
