import Derived.Test.YtlpbkoiopaejgaaDoorCrcB
import Derived.Test.YtlpbkoiopaejgaaDoorRef
import Derived.Test.YtlpbkoiopaejgaaDoorCrcN
namespace Go.Proofs.YtlpbkoiopaejgaaDoor
open Go.RowKit Go
set_option linter.unusedVariables false

theorem wb_num (x : BitVec 32) (i : Nat) : ((wb x i).toNat : Int) = tn x / (2 ^ (8 * i) : Nat) % 256 := by
  unfold wb tn
  rw [UInt8.toNat_ofNat', BitVec.toNat_ushiftRight, Nat.shiftRight_eq_div_pow]
  rfl
theorem low_any (A : Option Addr) (n c : Nat) (bs : List UInt8) (x : BitVec 32) (w : World) (h : RB w A n bs) (hn : n ≤ 16384) :
    Calls Tryd.prog 16 #[.slice A n c, wv x] w (Fresh w (bs ++ le4 x)) := by
  have H := Lib.hid (copy_any A n c bs w h (by omega))
  have g1 := tn_ge x
  have g2 := tn_le x
  have f0 : tn x % 256 = ((wb x 0).toNat : Int) := by rw [wb_num]; simp
  have f1 : tn x / 256 % 256 = ((wb x 1).toNat : Int) := (wb_num x 1).symm
  have f2 : tn x / 65536 % 256 = ((wb x 2).toNat : Int) := (wb_num x 2).symm
  have f3 : tn x / 16777216 = ((wb x 3).toNat : Int) := by have h3 := wb_num x 3; rw [h3]; simp; omega
  go_enter Tryd.func16, Tryd.ntmps16
  go_wp2_with fail
  refine H.out.mono ?_
  rintro e w1 ⟨A1, n1, c1, rfl, hown1, hb1⟩
  obtain rfl : n = n1 := h.1.symm.trans hown1.len
  go_wp2
  go_loopw [5, 6] (fun v i wr => ∃ k A2 c2, k ≤ 4 ∧ i = .int .i64 (k : Nat) ∧ v = .slice A2 (n + k) c2 ∧ OwnB wr w.heap.size A2 (n + k) c2 (bs ++ (le4 x).take k) ∧ Below w.heap.size w wr) (fun _ i _ => 4 - (intOf i).toNat)
  case atStart => exact ⟨0, A1, c1, by omega, rfl, rfl, by simpa using hown1, hb1⟩
  case round =>
    obtain ⟨k, A2, c2, hk, rfl, rfl, hown, hbl⟩ := hrel
    have hk' : k = 0 ∨ k = 1 ∨ k = 2 ∨ k = 3 ∨ k = 4 := by omega
    have hz := hbl.size
    have hl := Lib.hid h.1
    clear H hown1 hb1 hk
    rcases hk' with rfl | rfl | rfl | rfl | rfl
    · go_wp2_with (at_builtin; refine wpList_app _ _ rfl rfl rfl w.heap.size A2 _ c2 (bs ++ (le4 x).take 0) rfl (hown.alloc _) (wr.heap.size + 1) (some ⟨wr.heap.size, 0, none⟩) 1 [wb x 0] rfl (bs_new _ _ _ _ _ rfl) (by have := hl.out; simp; omega) (by simp; omega) ?_)
      intro A3 c3 w3 hown3 hg3
      go_wp2
      go_roundw
      case rel => exact ⟨1, A3, c3, by omega, rfl, rfl, by simpa [le4] using hown3, (hbl.alloc hz _).grown hg3 (by simp; omega) (fun g hg => (hown.blk_lt hg).1)⟩
      case measure => simp [intOf]
    · go_wp2_with (at_builtin; refine wpList_app _ _ rfl rfl rfl w.heap.size A2 _ c2 (bs ++ (le4 x).take 1) rfl (hown.alloc _) (wr.heap.size + 1) (some ⟨wr.heap.size, 0, none⟩) 1 [wb x 1] rfl (bs_new _ _ _ _ _ rfl) (by have := hl.out; simp; omega) (by simp; omega) ?_)
      intro A3 c3 w3 hown3 hg3
      go_wp2
      go_roundw
      case rel => exact ⟨2, A3, c3, by omega, rfl, rfl, by simpa [le4] using hown3, (hbl.alloc hz _).grown hg3 (by simp; omega) (fun g hg => (hown.blk_lt hg).1)⟩
      case measure => simp [intOf]
    · go_wp2_with (at_builtin; refine wpList_app _ _ rfl rfl rfl w.heap.size A2 _ c2 (bs ++ (le4 x).take 2) rfl (hown.alloc _) (wr.heap.size + 1) (some ⟨wr.heap.size, 0, none⟩) 1 [wb x 2] rfl (bs_new _ _ _ _ _ rfl) (by have := hl.out; simp; omega) (by simp; omega) ?_)
      intro A3 c3 w3 hown3 hg3
      go_wp2
      go_roundw
      case rel => exact ⟨3, A3, c3, by omega, rfl, rfl, by simpa [le4] using hown3, (hbl.alloc hz _).grown hg3 (by simp; omega) (fun g hg => (hown.blk_lt hg).1)⟩
      case measure => simp [intOf]
    · go_wp2_with (at_builtin; refine wpList_app _ _ rfl rfl rfl w.heap.size A2 _ c2 (bs ++ (le4 x).take 3) rfl (hown.alloc _) (wr.heap.size + 1) (some ⟨wr.heap.size, 0, none⟩) 1 [wb x 3] rfl (bs_new _ _ _ _ _ rfl) (by have := hl.out; simp; omega) (by simp; omega) ?_)
      intro A3 c3 w3 hown3 hg3
      go_wp2
      go_roundw
      case rel => exact ⟨4, A3, c3, by omega, rfl, rfl, by simpa [le4] using hown3, (hbl.alloc hz _).grown hg3 (by simp; omega) (fun g hg => (hown.blk_lt hg).1)⟩
      case measure => simp [intOf]
    · go_wp2
      go_ret
      exact ⟨A2, n + 4, c2, rfl, by simpa [le4] using hown, hbl⟩

theorem rest_row (A0 : Option Addr) (n0 c0 : Nat) (b0 : List UInt8) (w : World) (h0 : IsBs w A0 n0 c0 b0) (hT : Tab w) :
    Calls Tryd.prog 6 #[.slice A0 n0 c0] w fun e w' => e = .returned (.bool true) ∧ Below w.heap.size w w' := by
  have hn := h0.lim
  have hb := h0.rb
  have hz := hT.1
  have WK := Lib.hid (fun W (h : Tab W) => works_any W h)
  by_cases hlen : n0 ≤ 16384
  · have S1 := Lib.hid (sum_any A0 n0 c0 b0 w hT hb hn)
    have L := Lib.hid (low_any A0 n0 c0 b0 (ext 0#32 b0) w hb hlen)
    have S2 : Hid (∀ (W : World) (A : Option Addr) (n c : Nat), Tab W → RB W A n (b0 ++ le4 (ext 0#32 b0)) → Calls Tryd.prog 11 #[.slice A n c] W fun e w' => e = .returned (.int .u32 558161692) ∧ W = w') := by
      intro W A n c h1 h2
      have hl := h2.1
      have hl0 := hb.1
      have := sum_any A n c _ W h1 h2 (by simp [le4] at hl; omega)
      rw [ext_rest] at this
      exact this
    go_enter Tryd.func6, Tryd.ntmps6
    go_wp2_with fail
    refine S1.out.mono ?_
    rintro e w' ⟨rfl, rfl⟩
    go_wp2_with fail
    refine L.out.mono ?_
    rintro e w1 ⟨A1, n1, c1, rfl, hown1, hb1⟩
    have hT1 := hT.below hb1 hz
    go_wp2_with fail
    refine (S2.out w1 A1 n1 c1 hT1 hown1.rb).mono ?_
    rintro e w' ⟨rfl, rfl⟩
    go_wp2_with fail
    refine (WK.out w1 hT1).mono ?_
    rintro e w2 ⟨rfl, hb2⟩
    go_wp2
    go_ret
    exact ⟨rfl, hb1.trans (hb2.mono hb1.size)⟩
  · go_enter Tryd.func6, Tryd.ntmps6
    go_wp2_with fail
    refine (WK.out w hT).mono ?_
    rintro e w' ⟨rfl, hb1⟩
    go_wp2
    go_ret
    exact ⟨rfl, hb1⟩
end Go.Proofs.YtlpbkoiopaejgaaDoor
