/-
  octet: Get, GetBig; Cut.
-/
import Derived.Test.YtcedojmhgmgcgaaGreatDoorOctA
import Derived.Test.YtcedojmhgmgcgaaGreatDoorCpy
namespace Go.Proofs.YtcedojmhgmgcgaaGreatDoor
open Go.RowKit Go
set_option linter.unusedVariables false
set_option maxRecDepth 100000

/-- k bytes from a on. -/
def cut (bs : List UInt8) (a k : Nat) : List UInt8 := (bs.drop a).take k
theorem cut_len (bs : List UInt8) (a k : Nat) (h : a + k ≤ bs.length) : (cut bs a k).length = k := by
  unfold cut
  rw [List.length_take, List.length_drop]; omega
theorem cut_get (bs : List UInt8) (a k i : Nat) (h : i < k) : (cut bs a k)[i]? = bs[a + i]? := by
  unfold cut
  rw [List.getElem?_take, if_pos h, List.getElem?_drop]
theorem pick_low (bs : List UInt8) (a k : Nat) (h : a + k ≤ bs.length) : pick bs a (fun i => i) k = cut bs a k := by
  apply List.ext_getElem?
  intro i
  by_cases hi : i < k
  · rw [cut_get _ _ _ _ hi]
    unfold pick
    rw [List.getElem?_map, List.getElem?_range hi, Option.map_some, List.getD_eq_getElem?_getD, List.getElem?_eq_getElem (show a + i < bs.length by omega)]
    rfl
  · rw [List.getElem?_eq_none (by rw [pick_len]; omega), List.getElem?_eq_none (by rw [cut_len _ _ _ h]; omega)]
theorem pick_high (bs : List UInt8) (a k : Nat) (h : a + k ≤ bs.length) : pick bs a (fun i => k - 1 - i) k = (cut bs a k).reverse := by
  apply List.ext_getElem?
  intro i
  by_cases hi : i < k
  · rw [List.getElem?_reverse (by rw [cut_len _ _ _ h]; omega), cut_len _ _ _ h, cut_get _ _ _ _ (by omega)]
    unfold pick
    rw [List.getElem?_map, List.getElem?_range hi, Option.map_some, List.getD_eq_getElem?_getD, List.getElem?_eq_getElem (show a + (k - 1 - i) < bs.length by omega)]
    rfl
  · rw [List.getElem?_eq_none (by rw [pick_len]; omega), List.getElem?_eq_none (by rw [List.length_reverse, cut_len _ _ _ h]; omega)]

theorem lowest_any (i : Int) (w : World) : Calls Tryz.prog 75 #[.int .i64 i] w fun e w' => e = .returned (.int .i64 i) ∧ w = w' := by
  go_enter Tryz.func75, Tryz.ntmps75
  go_wp2
  go_ret
  exact ⟨rfl, rfl⟩
theorem get_ok (A : Option Addr) (n c : Nat) (bs : List UInt8) (a k : Nat) (w : World) (hR : RB w A n bs) (hs : Sizes w) (hn : n ≤ 9223372036854775807) (hk : isSz k = true) (hin : a + k ≤ n) :
    Calls Tryz.prog 55 #[.slice A n c, .int .i64 a, .int .i64 k] w fun e w' => e = .returned (.tuple #[.int .u64 (leN (cut bs a k) : Nat), .int .i64 0]) ∧ w = w' := by
  have G := Lib.hid (get_inner 75 #[] (fun i => i) A n c bs a k w hR hs hn hk hin (fun i h => h) (fun _ _ => by kernel_rfl) (fun i _ => lowest_any i w))
  rw [pick_low bs a k (by rw [hR.1]; exact hin)] at G
  go_enter Tryz.func55, Tryz.ntmps55
  go_wp2_with fail
  refine G.out.mono ?_
  rintro e w' ⟨rfl, rfl⟩
  go_wp2
  go_ret2
  exact ⟨rfl, rfl⟩
theorem get_not (A : Option Addr) (n c : Nat) (at_ k : Int) (w : World) (hs : Sizes w) (hn : n ≤ 9223372036854775807) (h1 : -9223372036854775808 ≤ k) (h2 : k ≤ 9223372036854775807) (hno : isSz k = false ∨ inB n at_ k = false) :
    Calls Tryz.prog 55 #[.slice A n c, .int .i64 at_, .int .i64 k] w fun e w' => e = .returned (.tuple #[.int .u64 0, .int .i64 1]) ∧ w = w' := by
  have G := Lib.hid (get_no (.func (Fn.func 75) #[] #[]) A n c at_ k w hs hn h1 h2 hno)
  clear hno
  go_enter Tryz.func55, Tryz.ntmps55
  go_wp2_with fail
  refine G.out.mono ?_
  rintro e w' ⟨rfl, rfl⟩
  go_wp2
  go_ret2
  exact ⟨rfl, rfl⟩
end Go.Proofs.YtcedojmhgmgcgaaGreatDoor
