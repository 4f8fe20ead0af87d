import Derived.Test.YtlpbkoiopaejgaaDoorCrcA
import Derived.Lib.SlBytesConst
import Derived.Test.YtlpbkoiopaejgaaDoorRows
import Derived.MakeChecks
namespace Go.Proofs.YtlpbkoiopaejgaaDoor
open Go.RowKit Go
set_option linter.unusedVariables false

theorem wv0 : wv 0#32 = .int .u32 0 := rfl
theorem sum_any (A : Option Addr) (n c : Nat) (bs : List UInt8) (w : World) (ht : Tab w) (hb : RB w A n bs) (hn : n ≤ 9223372036854775807) :
    Calls Tryd.prog 11 #[.slice A n c] w fun e w' => e = .returned (wv (ext 0#32 bs)) ∧ w = w' := by
  have H := Lib.hid (extend_any 0#32 A n c bs w ht hb hn)
  rw [wv0] at H
  go_enter Tryd.func11, Tryd.ntmps11
  go_wp2_with fail
  refine H.out.mono ?_
  rintro e w' ⟨rfl, rfl⟩
  go_wp2
  go_ret
  exact ⟨rfl, rfl⟩
/-- The bytes of the anchor. -/
def nine : List UInt8 := [49, 50, 51, 52, 53, 54, 55, 56, 57]
theorem works_any (w : World) (ht : Tab w) :
    Calls Tryd.prog 9 #[] w fun e w' => e = .returned (.bool true) ∧ Below w.heap.size w w' := by
  have ea : tn (ext 0#32 nine) = 3421780262 := by
    rw [show nine = [49, 50, 51, 52, 53, 54, 55, 56, 57] from rfl, anchor]; decide
  have H : Hid (∀ W : World, Tab W → RB W (some ⟨w.heap.size, 0, none⟩) 9 nine → Calls Tryd.prog 11 #[.slice (some ⟨w.heap.size, 0, none⟩) 9 9] W fun e w' => e = .returned (.int .u32 3421780262) ∧ W = w') := by
    intro W h1 h2
    rw [← ea]
    exact sum_any (some ⟨w.heap.size, 0, none⟩) 9 9 nine W h1 h2 (by decide)
  clear ea
  have kc := fun (w : World) (C : Array Value) (n c : Nat) => Lib.run_convert_bytes_const (P := Tryd.prog) w 23 5 C n c Tryd.underlying23 Tryd.underlying5
  go_enter Tryd.func9, Tryd.ntmps9
  go_wp2_with fail
  clear kc
  refine (H.out _ (ht.alloc _) ⟨rfl, (bs_new w nine 5 (9, 10) _ rfl).more (by simp)⟩).mono ?_
  rintro e w' ⟨rfl, rfl⟩
  go_wp2
  go_ret
  exact ⟨rfl, (Below.refl _ _).alloc (Nat.le_refl _) _⟩

/-- FROM TWO UNLIKE SUMS ON THE SAME BYTES COME TO TWO UNLIKE SUMS. -/
theorem apart_walk (x y : BitVec 32) (A : Option Addr) (n c : Nat) (bs : List UInt8) (w : World) (ht : Tab w) (hb : RB w A n bs) (hn : n ≤ 9223372036854775807) :
    Calls Tryd.prog 8 #[wv x, wv y, .slice A n c] w fun e w' => e = .returned (.bool true) ∧ Below w.heap.size w w' := by
  have W := Lib.hid (works_any w ht)
  have E1 := Lib.hid (extend_any x A n c bs w ht hb hn)
  have E2 := Lib.hid (extend_any y A n c bs w ht hb hn)
  have K := Lib.hid (fun h => congrArg tn (ext_inj bs x y (tn_inj h)))
  have K2 : Hid (tn x = tn y → tn (ext x bs) = tn (ext y bs)) := fun h => by rw [tn_inj h]
  generalize ext x bs = p at *
  generalize ext y bs = q at *
  by_cases hlen : n ≤ 16384
  · by_cases h : tn x = tn y
    · have k1 : (tn p == tn q) = true := by have h' := K2.out h; simp [h']
      have k2 : (tn x == tn y) = true := by simp [h]
      clear h
      go_enter Tryd.func8, Tryd.ntmps8
      go_wp2_with fail
      refine E1.out.mono ?_
      rintro e w' ⟨rfl, rfl⟩
      go_wp2_with fail
      refine E2.out.mono ?_
      rintro e w' ⟨rfl, rfl⟩
      go_wp2_with fail
      refine W.out.mono ?_
      rintro e w' ⟨rfl, hb1⟩
      go_wp2
      go_ret
      exact ⟨rfl, hb1⟩
    · have k1 : (tn p == tn q) = false := by
        have h' : ¬ tn p = tn q := fun e => h (K.out e)
        simp [h']
      have k2 : (tn x == tn y) = false := by simp [h]
      clear h
      go_enter Tryd.func8, Tryd.ntmps8
      go_wp2_with fail
      refine E1.out.mono ?_
      rintro e w' ⟨rfl, rfl⟩
      go_wp2_with fail
      refine E2.out.mono ?_
      rintro e w' ⟨rfl, rfl⟩
      go_wp2_with fail
      refine W.out.mono ?_
      rintro e w' ⟨rfl, hb1⟩
      go_wp2
      go_ret
      exact ⟨rfl, hb1⟩
  · go_enter Tryd.func8, Tryd.ntmps8
    go_wp2_with fail
    refine W.out.mono ?_
    rintro e w' ⟨rfl, hb1⟩
    go_wp2
    go_ret
    exact ⟨rfl, hb1⟩

/-- WHAT THE ROWS' CONDITION GIVES THE WALKS. -/
theorem of_laid {W : World} (h : laidMetH Tryd.prog Rows.crcApartRow.laid W) : Tab W := by
  rw [MakeChecks.laidMetH_plain _ _ _ (by kernel_rfl)] at h
  have ht : Lib.TabIs Tryd.prog W "lintel/crc.table" .u32 tabZ :=
    Lib.tabIs_of_head (rest := []) g_tab (show (Tryd.prog.globals[0]?).map (·.type) = some 38 by kernel_rfl) Tryd.underlying38 Tryd.underlying22 (by kernel_rfl) (by kernel_rfl) h
  exact ⟨by have := World.var?_cell g_tab ht 0; have := World.block_lt_of_cell? W _ (this.trans (show _ = some (.int .u32 0) from rfl)); exact this, ht⟩

theorem word_of_wf {z : Int} (h : (Lit.int .u32 z).wf = true) : tn (BitVec.ofInt 32 z) = z := by
  have hb := bounds_u32 h
  unfold tn
  rw [BitVec.toNat_ofInt]
  omega

theorem apart_row (a0 a1 : Int) (A2 : Option Addr) (n2 c2 : Nat) (b2 : List UInt8) (w : World) (w0 : (Lit.int .u32 a0).wf = true) (w1 : (Lit.int .u32 a1).wf = true) (h2 : IsBs w A2 n2 c2 b2) (hT : Tab w) :
    Calls Tryd.prog 8 #[.int .u32 a0, .int .u32 a1, .slice A2 n2 c2] w fun e w' => e = .returned (.bool true) ∧ Below w.heap.size w w' := by
  rw [← word_of_wf w0, ← word_of_wf w1]
  exact apart_walk _ _ _ _ _ _ w hT h2.rb h2.lim
end Go.Proofs.YtlpbkoiopaejgaaDoor
