/-
  octet: Get, GetBig; Cut.
-/
import Derived.Test.YtkoookknffmgjaaDoorOctA
import Derived.Test.YtkoookknffmgjaaDoorCpy
namespace Go.Proofs.YtkoookknffmgjaaDoor
open Go.RowKit Go
set_option linter.unusedVariables false

/-- k bytes from a on. -/
def cut (bs : List UInt8) (a k : Nat) : List UInt8 := (bs.drop a).take k
theorem cut_len (bs : List UInt8) (a k : Nat) (h : a + k ≤ bs.length) : (cut bs a k).length = k := by
  unfold cut
  rw [List.length_take, List.length_drop]; omega
theorem cut_get (bs : List UInt8) (a k i : Nat) (h : i < k) : (cut bs a k)[i]? = bs[a + i]? := by
  unfold cut
  rw [List.getElem?_take, if_pos h, List.getElem?_drop]
theorem pick_low (bs : List UInt8) (a k : Nat) (h : a + k ≤ bs.length) : pick bs a (fun i => i) k = cut bs a k := by
  apply List.ext_getElem?
  intro i
  by_cases hi : i < k
  · rw [cut_get _ _ _ _ hi]
    unfold pick
    rw [List.getElem?_map, List.getElem?_range hi, Option.map_some, List.getD_eq_getElem?_getD, List.getElem?_eq_getElem (show a + i < bs.length by omega)]
    rfl
  · rw [List.getElem?_eq_none (by rw [pick_len]; omega), List.getElem?_eq_none (by rw [cut_len _ _ _ h]; omega)]
theorem pick_high (bs : List UInt8) (a k : Nat) (h : a + k ≤ bs.length) : pick bs a (fun i => k - 1 - i) k = (cut bs a k).reverse := by
  apply List.ext_getElem?
  intro i
  by_cases hi : i < k
  · rw [List.getElem?_reverse (by rw [cut_len _ _ _ h]; omega), cut_len _ _ _ h, cut_get _ _ _ _ (by omega)]
    unfold pick
    rw [List.getElem?_map, List.getElem?_range hi, Option.map_some, List.getD_eq_getElem?_getD, List.getElem?_eq_getElem (show a + (k - 1 - i) < bs.length by omega)]
    rfl
  · rw [List.getElem?_eq_none (by rw [pick_len]; omega), List.getElem?_eq_none (by rw [List.length_reverse, cut_len _ _ _ h]; omega)]

theorem lowest_any (i : Int) (w : World) : Calls Tryd.prog 33 #[.int .i64 i] w fun e w' => e = .returned (.int .i64 i) ∧ w = w' := by
  go_enter Tryd.func33, Tryd.ntmps33
  go_wp2
  go_ret
  exact ⟨rfl, rfl⟩
theorem highest_any (i k : Nat) (p : Addr) (w : World) (hi : i < k) (hk : k ≤ 8) (hp : w.cell? p = some (.int .i64 (k : Int))) :
    Calls Tryd.prog 41 #[.int .i64 (i : Int), .pointer (some p)] w fun e w' => e = .returned (.int .i64 ((k - 1 - i : Nat) : Int)) ∧ w = w' := by
  have he : ((k - 1 - i : Nat) : Int) = (k : Int) - 1 - (i : Int) := by omega
  rw [he]
  clear he
  go_enter Tryd.func41, Tryd.ntmps41
  go_wp2
  go_ret
  exact ⟨rfl, rfl⟩
theorem get_ok (A : Option Addr) (n c : Nat) (bs : List UInt8) (a k : Nat) (w : World) (hR : RB w A n bs) (hs : Sizes w) (hn : n ≤ 9223372036854775807) (hk : isSz k = true) (hin : a + k ≤ n) :
    Calls Tryd.prog 14 #[.slice A n c, .int .i64 a, .int .i64 k] w fun e w' => e = .returned (.tuple #[.int .u64 (leN (cut bs a k) : Nat), .int .i64 0]) ∧ w = w' := by
  have G := Lib.hid (get_inner 33 #[] (fun i => i) A n c bs a k w hR hs hn hk hin (fun i h => h) (fun _ _ => by kernel_rfl) (fun i _ => lowest_any i w))
  rw [pick_low bs a k (by rw [hR.1]; exact hin)] at G
  go_enter Tryd.func14, Tryd.ntmps14
  go_wp2_with fail
  refine G.out.mono ?_
  rintro e w' ⟨rfl, rfl⟩
  go_wp2
  go_ret2
  exact ⟨rfl, rfl⟩
theorem get_not (A : Option Addr) (n c : Nat) (at_ k : Int) (w : World) (hs : Sizes w) (hn : n ≤ 9223372036854775807) (h1 : -9223372036854775808 ≤ k) (h2 : k ≤ 9223372036854775807) (hno : isSz k = false ∨ inB n at_ k = false) :
    Calls Tryd.prog 14 #[.slice A n c, .int .i64 at_, .int .i64 k] w fun e w' => e = .returned (.tuple #[.int .u64 0, .int .i64 1]) ∧ w = w' := by
  have G := Lib.hid (get_no (.func (Fn.func 33) #[] #[]) A n c at_ k w hs hn h1 h2 hno)
  clear hno
  go_enter Tryd.func14, Tryd.ntmps14
  go_wp2_with fail
  refine G.out.mono ?_
  rintro e w' ⟨rfl, rfl⟩
  go_wp2
  go_ret2
  exact ⟨rfl, rfl⟩
theorem high_fn (k : Int) (w : World) : Calls Tryd.prog 36 #[.int .i64 k] w fun e w' => e = .returned (.func (Fn.func 41) #[] #[.pointer (some ⟨w.heap.size, 0, none⟩)]) ∧ w' = w.alloc (.cells #[.int .i64 k] 3) := by
  go_enter Tryd.func36, Tryd.ntmps36
  go_wp2
  go_ret
  exact ⟨rfl, rfl⟩
theorem getBig_ok (A : Option Addr) (n c : Nat) (bs : List UInt8) (a k : Nat) (w : World) (hR : RB w A n bs) (hs : Sizes w) (hn : n ≤ 9223372036854775807) (hk : isSz k = true) (hin : a + k ≤ n) :
    Calls Tryd.prog 16 #[.slice A n c, .int .i64 a, .int .i64 k] w fun e w' => e = .returned (.tuple #[.int .u64 (leN (cut bs a k).reverse : Nat), .int .i64 0]) ∧ Below w.heap.size w w' := by
  have hk8 : k ≤ 8 := by simp [isSz] at hk; omega
  have G := Lib.hid (get_inner 41 #[.pointer (some ⟨w.heap.size, 0, none⟩)] (fun i => k - 1 - i) A n c bs a k (w.alloc (.cells #[.int .i64 k] 3)) (hR.alloc _) (hs.alloc _) hn hk hin (fun i h => by omega) (fun _ _ => by kernel_rfl)
    (fun i hi => highest_any i k ⟨w.heap.size, 0, none⟩ _ hi hk8 (by simp)))
  rw [pick_high bs a k (by rw [hR.1]; exact hin)] at G
  have HF := Lib.hid (high_fn k w)
  clear hk
  go_enter Tryd.func16, Tryd.ntmps16
  go_wp2_with fail
  refine HF.out.mono ?_
  rintro e w' ⟨rfl, rfl⟩
  go_wp2_with fail
  refine G.out.mono ?_
  rintro e w' ⟨rfl, rfl⟩
  go_wp2
  go_ret2
  exact ⟨rfl, (Below.refl _ _).alloc (Nat.le_refl _) _⟩
theorem getBig_not (A : Option Addr) (n c : Nat) (at_ k : Int) (w : World) (hs : Sizes w) (hn : n ≤ 9223372036854775807) (h1 : -9223372036854775808 ≤ k) (h2 : k ≤ 9223372036854775807) (hno : isSz k = false ∨ inB n at_ k = false) :
    Calls Tryd.prog 16 #[.slice A n c, .int .i64 at_, .int .i64 k] w fun e w' => e = .returned (.tuple #[.int .u64 0, .int .i64 1]) ∧ Below w.heap.size w w' := by
  have G := Lib.hid (get_no (.func (Fn.func 41) #[] #[.pointer (some ⟨w.heap.size, 0, none⟩)]) A n c at_ k (w.alloc (.cells #[.int .i64 k] 3)) (hs.alloc _) hn h1 h2 hno)
  have HF := Lib.hid (high_fn k w)
  clear hno
  go_enter Tryd.func16, Tryd.ntmps16
  go_wp2_with fail
  refine HF.out.mono ?_
  rintro e w' ⟨rfl, rfl⟩
  go_wp2_with fail
  refine G.out.mono ?_
  rintro e w' ⟨rfl, rfl⟩
  go_wp2
  go_ret2
  exact ⟨rfl, (Below.refl _ _).alloc (Nat.le_refl _) _⟩
/-- What Cut answers of bytes that are there. -/
def FreshCut (w : World) (bs : List UInt8) (e : Ending) (w' : World) : Prop :=
  ∃ A n c, e = .returned (.tuple #[.slice A n c, .bool true]) ∧ OwnB w' w.heap.size A n c bs ∧ Below w.heap.size w w'
theorem cut_ok (A : Option Addr) (n c : Nat) (bs : List UInt8) (a k : Nat) (w : World) (hR : RB w A n bs) (hn : n ≤ c) (hc : c ≤ 9223372036854775807) (hin : a + k ≤ n) (hlim : k ≤ 140737488355328) :
    Calls Tryd.prog 18 #[.slice A n c, .int .i64 a, .int .i64 k] w (FreshCut w (cut bs a k)) := by
  have I := Lib.hid (within_any A n c a k w (by omega) (by omega) (by omega))
  have hi : inB n a k = true := by simp [inB]; omega
  rw [hi] at I
  clear hi
  go_enter Tryd.func18, Tryd.ntmps18
  go_wp2_with fail
  refine I.out.mono ?_
  rintro e w' ⟨rfl, rfl⟩
  go_wp2_with (refine wpList_mk (.tmp 14) (.tmp 14) rfl rfl _ _ _ _ k rfl rfl rfl rfl hlim ?_)
  intro w1 hown1 hg1
  have hb1 : Below w.heap.size w w1 := (Below.refl _ _).grown hg1 (Nat.le_refl _) (by intro g hg; cases hg)
  have hrd := (hR.2.below hb1).drop_ a
  have hld : (bs.drop a).length = n - a := by rw [List.length_drop, hR.1]
  have HL := Lib.hid hld
  have hfin : ∀ w', OwnB w' w.heap.size (some ⟨w.heap.size, 0, none⟩) k k (splice (List.replicate k 0) 0 ((bs.drop a).take k)) → OwnB w' w.heap.size (some ⟨w.heap.size, 0, none⟩) k k (cut bs a k) := by
    intro w' h
    rwa [splice_zero _ _ (by rw [List.length_replicate, List.length_take, hld]; omega)] at h
  have HF := Lib.hid hfin
  clear hfin hld
  by_cases hca : c = a
  · obtain rfl : k = 0 := by omega
    clear hrd
    subst hca
    go_wp2_with (refine wpList_cpy (.tmp 16) (.tmp 19) rfl rfl w.heap.size w.heap.size 0 0 0 0 0 _ rfl hown1 0 _ _ _ [] rfl rfl Bs.nil (by omega) ?_)
    intro w2 hown2 hg2
    go_wp2
    go_ret2
    exact ⟨_, _, _, rfl, by simpa [cut, splice_nil] using hown2, hb1.grown hg2 hb1.size (fun g hg => by injection hg with hg; omega)⟩
  · go_wp2_with (refine wpList_cpy (.tmp 16) (.tmp 19) rfl rfl w.heap.size w.heap.size 0 k k k k _ rfl hown1 w.heap.size _ _ _ (bs.drop a) rfl HL.out hrd (by omega) ?_)
    intro w2 hown2 hg2
    go_wp2
    go_ret2
    exact ⟨_, _, _, rfl, HF.out _ hown2, hb1.grown hg2 hb1.size (fun g hg => by injection hg with hg; omega)⟩
theorem cut_not (A : Option Addr) (n c : Nat) (a k : Int) (w : World) (hn : n ≤ 9223372036854775807) (h1 : -9223372036854775808 ≤ k) (h2 : k ≤ 9223372036854775807) (hno : inB n a k = false) :
    Calls Tryd.prog 18 #[.slice A n c, .int .i64 a, .int .i64 k] w fun e w' => e = .returned (.tuple #[.slice none 0 0, .bool false]) ∧ w = w' := by
  have I := Lib.hid (within_any A n c a k w (by omega) h1 h2)
  rw [hno] at I
  clear hno
  go_enter Tryd.func18, Tryd.ntmps18
  go_wp2_with fail
  refine I.out.mono ?_
  rintro e w' ⟨rfl, rfl⟩
  go_wp2
  go_ret2
  exact ⟨rfl, rfl⟩
end Go.Proofs.YtkoookknffmgjaaDoor
