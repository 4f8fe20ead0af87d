import Derived.Test.YtkajlbdiofobcaaDoorBytes
import Derived.Test.YtkajlbdiofobcaaDoorCrcM
import Derived.Outline
import Derived.WalkLawsBesides
import Derived.WalkSpells
import Derived.Laws.Rows
import Derived.LoopN
import Derived.Lib.LaidTab
import Derived.WalkSmall
import Derived.Laws.BitsAllLaws
namespace Go.Proofs.YtkajlbdiofobcaaDoor
open Go.RowKit Go
set_option linter.unusedVariables false
set_option maxRecDepth 100000

/-- A word's number, closed to the walk. -/
def tn (x : BitVec 32) : Int := x.toNat
/-- A word as the model holds it. -/
abbrev wv (x : BitVec 32) : Value := .int .u32 (tn x)
theorem tn_ge (x : BitVec 32) : 0 ≤ tn x := by unfold tn; omega
theorem tn_le (x : BitVec 32) : tn x ≤ 4294967295 := by unfold tn; have := x.isLt; omega
theorem tn_inj {x y : BitVec 32} (h : tn x = tn y) : x = y := BitVec.eq_of_toNat_eq (by unfold tn at h; omega)
def tabZ : List Int := [0, 498536548, 997073096, 651767980, 1994146192, 1802195444, 1303535960, 1342533948, 3988292384, 4027552580, 3604390888, 3412177804, 2607071920, 2262029012, 2685067896, 3183342108]
/-- The table is as it was laid. -/
def Tab (w : World) : Prop := 0 < w.heap.size ∧ Lib.TabIs Tryd.prog w "lintel/crc.table" .u32 tabZ
theorem g_tab : Tryd.prog.globalNamed "lintel/crc.table" = some 0 := by kernel_rfl
theorem tabZ_eq : ∀ k, k < 16 → tabZ.getD k 0 = tn (BitVec.ofNat 32 (tabL.getD k 0)) := by decide
theorem lo4_lt (x : BitVec 32) : lo4 x < 16 := by
  unfold lo4
  rw [BitVec.toNat_and]
  exact Nat.lt_of_le_of_lt Nat.and_le_right (by decide)
theorem Tab.cell {w : World} (h : Tab w) (x : BitVec 32) : w.cell? ⟨0, lo4 x, none⟩ = some (wv (tab x)) := by
  rw [h.2.cell g_tab (lo4 x) (lo4_lt x), tabZ_eq _ (lo4_lt x)]
  rfl
theorem Tab.below {w w' : World} {B : Nat} (h : Tab w) (hb : Below B w w') (hB : 0 < B) : Tab w' :=
  ⟨Nat.lt_of_lt_of_le h.1 hb.size, var?_below hb g_tab hB h.2⟩
theorem Tab.drew {w : World} (h : Tab w) : Tab w.drew := h
theorem Tab.drewN {w : World} (h : Tab w) (k : Nat) : Tab (w.drewN k) := h.below (below_drewN (Below.refl w.heap.size w) k) h.1
theorem Tab.alloc {w : World} (h : Tab w) (o : Obj) : Tab (w.alloc o) := h.below ((Below.refl w.heap.size w).alloc (Nat.le_refl _) o) h.1

theorem tn_xor (x y : BitVec 32) : bits .xor .u32 (tn x) (tn y) = tn (xr x y) := by
  unfold tn xr
  rw [u32_xor_nat _ _ x.isLt y.isLt, BitVec.toNat_xor]
theorem tn_bw (q : UInt8) : tn (bw q) = (q.toNat : Int) := by
  unfold tn bw
  rw [BitVec.toNat_ofNat, Nat.mod_eq_of_lt (by have := q.toNat_lt; omega)]
theorem tn_xorb (x : BitVec 32) (q : UInt8) : bits .xor .u32 (tn x) (q.toNat : Int) = tn (xr x (bw q)) := by
  rw [← tn_bw, tn_xor]
theorem tn_and15 (x : BitVec 32) : bits .and .u32 (tn x) 15 = (lo4 x : Int) := by
  unfold tn lo4
  have := u32_and_nat x.toNat 15 x.isLt (by decide)
  rw [BitVec.toNat_and]
  exact this
theorem tn_shr4 (x : BitVec 32) : tn x / 16 = tn (sh4 x) := by
  unfold tn sh4
  rw [BitVec.toNat_ushiftRight, Nat.shiftRight_eq_div_pow]; rfl
theorem tn_not (x : BitVec 32) : bits .xor .u32 IntKind.u32.max (tn x) = tn (cpl x) := by
  have h : IntKind.u32.max = tn (4294967295#32) := by decide
  rw [h, tn_xor]
  unfold xr cpl
  rw [BitVec.xor_comm, show (4294967295#32 : BitVec 32) = BitVec.allOnes 32 from rfl, BitVec.xor_allOnes]
theorem fold_step (bs : List UInt8) (k : Nat) (h : k < bs.length) (x : BitVec 32) :
    (bs.take (k + 1)).foldl byteStep x = nib (nib (xr ((bs.take k).foldl byteStep x) (bw bs[k]))) := by
  rw [List.take_succ_eq_append_getElem h, List.foldl_append]; rfl

set_option maxHeartbeats 400000 in
theorem extend_bs (s : BitVec 32) (A : Option Addr) (bs : List UInt8) (c : Nat) (w : World) (ht : Tab w) (hb : Bs w w.heap.size A bs) (hn : bs.length ≤ 9223372036854775807) :
    Calls Tryd.prog 62 #[wv s, .slice A bs.length c] w fun e w' => e = .returned (wv (ext s bs)) ∧ w = w' := by
  have hnot := tn_not s
  go_enter Tryd.func62, Tryd.ntmps62
  go_wp2
  go_loop [5, 12] (fun r i => ∃ k : Nat, k ≤ bs.length ∧ i = .int .i64 k ∧ r = wv ((bs.take k).foldl byteStep (cpl s))) (fun _ i => bs.length - (intOf i).toNat)
  case atStart => exact ⟨0, Nat.zero_le _, rfl, rfl⟩
  case round =>
    obtain ⟨k, hk, rfl, rfl⟩ := hrel
    by_cases hlt : k < bs.length
    · obtain ⟨b, off, rfl, _, hcell⟩ := hb.at_ hlt
      have H := Lib.hid (fold_step bs k hlt (cpl s))
      generalize (bs.take k).foldl byteStep (cpl s) = r at H ⊢
      generalize bs[k] = q at H hcell
      have hq : (q.toNat : Int) ≤ 255 := by have := q.toNat_lt; omega
      have e1 := tn_xorb r q
      have l1 := lo4_lt (xr r (bw q))
      have g1 := tn_ge (xr r (bw q))
      have c1 := ht.cell (xr r (bw q))
      have l2 := lo4_lt (nib (xr r (bw q)))
      have g2 := tn_ge (nib (xr r (bw q)))
      have c2 := ht.cell (nib (xr r (bw q)))
      have e2 := tn_and15
      have e3 := tn_shr4
      have e4 : ∀ x, bits .xor .u32 (tn (sh4 x)) (tn (tab x)) = tn (nib x) := fun x => tn_xor _ _
      go_wp2
      refine wp_loop_rounds 3 ?_
      iterate 3 (rw [rounds_succ]; go_wp2)
      go_round
      case rel => exact ⟨k + 1, by omega, by go_num, by rw [H.out]⟩
      case measure => simp [intOf]; omega
    · have hnot2 := tn_not ((bs.take k).foldl byteStep (cpl s))
      go_wp2
      go_ret
      exact ⟨by rw [List.take_of_length_le (by omega)]; rfl, rfl⟩
theorem extend_any (s : BitVec 32) (A : Option Addr) (n c : Nat) (bs : List UInt8) (w : World) (ht : Tab w) (h : RB w A n bs) (hn : n ≤ 9223372036854775807) :
    Calls Tryd.prog 62 #[wv s, .slice A n c] w fun e w' => e = .returned (wv (ext s bs)) ∧ w = w' := by
  obtain ⟨rfl, hb⟩ := h
  exact extend_bs s A bs c w ht hb hn
end Go.Proofs.YtkajlbdiofobcaaDoor
