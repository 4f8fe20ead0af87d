/-
  sha: padding.
-/
import Derived.Test.YtmbkbehccmadfaaShK
namespace Go.Proofs.Ytmbkbehccmadfaa
open Go.RowKit Go
set_option linter.unusedVariables false
set_option linter.unusedSimpArgs false
set_option maxRecDepth 100000
def padL (t : Nat) : List UInt8 := [be8 t 0, be8 t 1, be8 t 2, be8 t 3, be8 t 4, be8 t 5, be8 t 6, be8 t 7].map UInt8.ofNat
def padP (t i : Nat) : List UInt8 := (128 :: List.replicate (zerosQ t) 0) ++ ((padL t).take i ++ List.replicate (8 - i) 0)
/-- The padding, as bytes. -/
def padB (t : Nat) : List UInt8 := padP t 8
theorem padL_get (t i : Nat) (h : i < 8) : (padL t)[i]? = some (UInt8.ofNat (be8 t i)) := by
  match i, h with
  | 0, _ => rfl
  | 1, _ => rfl
  | 2, _ => rfl
  | 3, _ => rfl
  | 4, _ => rfl
  | 5, _ => rfl
  | 6, _ => rfl
  | 7, _ => rfl
theorem padP_zero (t : Nat) : (List.replicate (zerosQ t + 9) (0 : UInt8)).set 0 128 = padP t 0 := by
  unfold padP
  rw [List.replicate_succ]
  simp only [List.set_cons_zero, List.take_zero, List.nil_append, List.cons_append, List.replicate_append_replicate]
theorem padP_next (t i : Nat) (h : i < 8) : (padP t i).set (zerosQ t + 1 + i) (UInt8.ofNat (be8 t i)) = padP t (i + 1) := by
  have hl : (padL t).length = 8 := rfl
  unfold padP
  rw [List.set_append_right _ _ (by simp <;> omega), List.set_append_right _ _ (by simp <;> omega)]
  rw [List.take_add_one, padL_get t i h, show 8 - i = (8 - (i + 1)) + 1 by omega, List.replicate_succ]
  rw [show zerosQ t + 1 + i - (128 :: List.replicate (zerosQ t) (0 : UInt8)).length - (List.take i (padL t)).length = 0 by simp; omega]
  simp
theorem padP_len (t i : Nat) (h : i ≤ 8) : (padP t i).length = zerosQ t + 9 := by
  have hl : (padL t).length = 8 := rfl
  unfold padP
  simp
  omega
theorem padB_eq (t : Nat) : padB t = (padQ t).map UInt8.ofNat := by
  have hl : (padL t).length = 8 := rfl
  unfold padB padP padQ
  rw [List.take_of_length_le (by omega)]
  simp [padL]
theorem be8_num (t i x : Nat) (hx : t * 8 % 18446744073709551616 = x) : (((UInt8.ofNat (be8 t i)).toNat : Nat) : Int) = (x : Int) / 2 ^ (56 - 8 * i) % 256 := by
  have hm : (UInt8.ofNat (be8 t i)).toNat = x / 2 ^ (56 - 8 * i) % 256 := by
    rw [UInt8.toNat_ofNat']
    unfold be8
    rw [hx]
    exact Nat.mod_mod _ _
  have hp : (2 : Int) ^ (56 - 8 * i) = ((2 ^ (56 - 8 * i) : Nat) : Int) := by simp
  rw [hp, hm]
  generalize 2 ^ (56 - 8 * i) = P
  omega
theorem run_shr56 (x j : Nat) (hj : j < 8) (w : World) : (Op.shift BinOp.shr IntKind.u64 (x : Int) IntKind.i64 (56 - 8 * (j : Int))).run Try.prog w = .ok (.int .u64 ((x : Int) / 2 ^ (56 - 8 * j))) w := by
  unfold Op.shift
  rw [if_neg (by omega)]
  have hm : min (56 - 8 * (j : Int)).toNat IntKind.u64.bits = 56 - 8 * j := by
    show min (56 - 8 * (j : Int)).toNat 64 = 56 - 8 * j
    omega
  simp only [hm]
  rw [Int.fdiv_eq_ediv_of_nonneg _ (Int.pow_nonneg (by decide))]
  rfl
theorem padding_any (t : Nat) (ht : t < 18446744073709551616) (w : World) :
    Calls Try.prog 26 #[.int .u64 (t : Int)] w fun e w' => e = .returned (.slice (some ⟨w.heap.size, 0, none⟩) (zerosQ t + 9 : Nat) (zerosQ t + 9 : Nat)) ∧ OwnB w' w.heap.size (some ⟨w.heap.size, 0, none⟩) (zerosQ t + 9) (zerosQ t + 9) (padB t) ∧ Below w.heap.size w w' := by
  obtain ⟨m, hm⟩ : ∃ m, t % 64 = m := ⟨_, rfl⟩
  obtain ⟨z, hz⟩ : ∃ z, zerosQ t = z := ⟨_, rfl⟩
  obtain ⟨x, hx⟩ : ∃ x, t * 8 % 18446744073709551616 = x := ⟨_, rfl⟩
  have hml : m < 64 := by omega
  have hz' : (119 - m) % 64 = z := by rw [← hz, ← hm]; rfl
  have hzl : z < 64 := by omega
  have p0 : padP t 0 = (List.replicate (z + 9) (0 : UInt8)).set 0 128 := by rw [← hz, padP_zero]
  have pn : ∀ i, i < 8 → (padP t i).set (z + 1 + i) (UInt8.ofNat (be8 t i)) = padP t (i + 1) := fun i hi => by rw [← hz]; exact padP_next t i hi
  have pl : ∀ i, i ≤ 8 → (padP t i).length = z + 9 := fun i hi => by rw [← hz]; exact padP_len t i hi
  have P0 := Lib.hid p0
  have PN := Lib.hid pn
  have PL := Lib.hid pl
  have HX := Lib.hid hx
  have a1 : (t : Int) % 64 = (m : Int) := by omega
  have a2 : (119 - (m : Int)) % 64 = (z : Int) := by omega
  have a3 : IntKind.u64.wrap (119 - (m : Int)) = 119 - (m : Int) := by rw [IntKind.wrap_u64]; omega
  have a4 : IntKind.u64.wrap (1 + (z : Int)) = 1 + (z : Int) := by rw [IntKind.wrap_u64]; omega
  have a5 : IntKind.u64.wrap (1 + (z : Int) + 8) = 1 + (z : Int) + 8 := by rw [IntKind.wrap_u64]; omega
  have a6 : IntKind.u64.wrap ((t : Int) * 8) = (x : Int) := by rw [IntKind.wrap_u64]; omega
  rw [hz]
  clear hm hz hz' p0 pn pl hx ht
  go_enter Try.func26, Try.ntmps26
  go_wp2_with (refine wpList_mk _ _ rfl rfl _ _ _ _ (z + 9) rfl rfl (by omega) (by omega) (by omega) ?_)
  intro w1 hown hg
  have hb : Below w.heap.size w w1 := (Below.refl _ _).grown hg (Nat.le_refl _) (by intro g hg; cases hg)
  have hc0 := hown.cellAt 0 0 (by simp)
  have hf0 := hown.free 0
  have HS : Hid (OwnB (w1.setCell ⟨w.heap.size, 0, none⟩ (.int .u8 128)) w.heap.size (some ⟨w.heap.size, 0, none⟩) (z + 9) (z + 9) (padP t 0) ∧ Below w.heap.size w (w1.setCell ⟨w.heap.size, 0, none⟩ (.int .u8 128))) := by
    refine ⟨?_, hb.setCell (Nat.le_refl _) _⟩
    rw [P0.out]
    exact hown.stored 0 128
  clear hown hg hb
  go_wp2
  go_loopw [16] (fun vi wl => ∃ i : Nat, vi = .int .i64 (i : Int) ∧ i ≤ 8 ∧ Hid (OwnB wl w.heap.size (some ⟨w.heap.size, 0, none⟩) (z + 9) (z + 9) (padP t i) ∧ Below w.heap.size w wl)) (fun vi _ => 8 - (intOf vi).toNat)
  case atStart => exact ⟨0, rfl, Nat.zero_le _, HS.out⟩
  case round =>
    obtain ⟨i, rfl, hi, HK⟩ := hrel
    clear HS hc0 hf0 a1 a2 a3 a4 a5
    by_cases hlt : i < 8
    · obtain ⟨hown, hbl⟩ := HK.out
      have i1 : (i : Int) < 8 := by omega
      obtain ⟨b0, hb0⟩ : ∃ b0, (padP t i)[z + 1 + i]? = some b0 := ⟨_, List.getElem?_eq_getElem (by rw [PL.out i hi]; omega)⟩
      have c0 := hown.cellAt (z + 1 + i) b0 hb0
      have f0 := hown.free (z + 1 + i)
      have e1 : IntKind.u64.wrap ((z : Int) + 9 - 8) = (z : Int) + 1 := by rw [IntKind.wrap_u64]; omega
      have e2 : IntKind.u64.wrap ((z : Int) + 1 + (i : Int)) = (z : Int) + 1 + (i : Int) := by rw [IntKind.wrap_u64]; omega
      have e3 : IntKind.u64.wrap ((i : Int)) = (i : Int) := by rw [IntKind.wrap_u64]; omega
      have e4 : IntKind.u64.wrap ((z : Int) + 9) = (z : Int) + 9 := by rw [IntKind.wrap_u64]; omega
      have e5 : IntKind.i64.wrap (8 * (i : Int)) = 8 * (i : Int) := IntWalk.i64_in _ (by omega)
      have e6 : IntKind.i64.wrap (56 - 8 * (i : Int)) = 56 - 8 * (i : Int) := IntWalk.i64_in _ (by omega)
      have hsh := run_shr56 x i hlt
      have hnb : IntKind.u8.wrap ((x : Int) / 2 ^ (56 - 8 * i)) = (((UInt8.ofNat (be8 t i)).toNat : Nat) : Int) := by rw [IntKind.wrap_u8', be8_num t i x HX.out]
      have i2 : 0 ≤ (z : Int) + 1 + (i : Int) := by omega
      have i3 : (z : Int) + 1 + (i : Int) < (z : Int) + 9 := by omega
      have i4 : ((z : Int) + 1 + (i : Int)).toNat = z + 1 + i := by omega
      have HST : Hid (OwnB (wr.setCell ⟨w.heap.size, z + 1 + i, none⟩ (.int .u8 (((UInt8.ofNat (be8 t i)).toNat : Nat) : Int))) w.heap.size (some ⟨w.heap.size, 0, none⟩) (z + 9) (z + 9) (padP t (i + 1)) ∧ Below w.heap.size w (wr.setCell ⟨w.heap.size, z + 1 + i, none⟩ (.int .u8 (((UInt8.ofNat (be8 t i)).toNat : Nat) : Int)))) := by
        refine ⟨?_, hbl.setCell (Nat.le_refl _) _⟩
        rw [← PN.out i hlt]
        exact hown.stored _ _
      clear hb0 hown hbl HK
      go_wp2
      go_roundw
      case rel => exact ⟨i + 1, by go_num, by omega, HST⟩
      case measure => simp [intOf]; omega
    · obtain rfl : i = 8 := by omega
      go_wp2
      go_ret
      exact ⟨rfl, HK.out⟩
end Go.Proofs.Ytmbkbehccmadfaa
