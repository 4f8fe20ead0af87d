import Derived.Test.YtlpbkoiopaejgaaDoorCrcC
import Derived.Test.YtlpbkoiopaejgaaDoorRoomy
namespace Go.Proofs.YtlpbkoiopaejgaaDoor
open Go.RowKit Go
set_option linter.unusedVariables false

def sh1 (x : BitVec 32) : BitVec 32 := x >>> 1
def ofI (y : Int) : BitVec 32 := BitVec.ofInt 32 y
theorem tn_ofI (y : Int) (h0 : 0 ≤ y) (h1 : y ≤ 4294967295) : tn (ofI y) = y := by
  unfold tn ofI
  rw [BitVec.toNat_ofInt]
  omega
theorem tn_and1 (x : BitVec 32) : bits .and .u32 (tn x) 1 = if x.getLsbD 0 then 1 else 0 := by
  unfold tn
  have := u32_and_nat x.toNat 1 x.isLt (by decide)
  rw [show ((1 : Nat) : Int) = 1 from rfl] at this
  rw [this, Nat.and_one_is_mod]
  show ((x.toNat % 2 : Nat) : Int) = if x.toNat.testBit 0 then 1 else 0
  rw [Nat.testBit_zero]
  have : x.toNat % 2 = 0 ∨ x.toNat % 2 = 1 := by omega
  rcases this with h | h <;> simp [h]
theorem tn_shr1 (x : BitVec 32) : tn x / 2 = tn (sh1 x) := by
  unfold tn sh1
  rw [BitVec.toNat_ushiftRight, Nat.shiftRight_eq_div_pow]; rfl
theorem tn_xpoly (x : BitVec 32) : bits .xor .u32 (tn x) 3988292384 = tn (xr x poly) := by
  rw [show (3988292384 : Int) = tn poly from rfl, tn_xor]
theorem step_bit (x : BitVec 32) (b : Bool) : stepB x b = xr (sh1 x) (if (x.getLsbD 0 ^^ b) then poly else 0#32) := by
  unfold stepB bit1 xr sh1
  rw [BitVec.getLsbD_xor, BitVec.ushiftRight_xor_distrib, show (b2w b) >>> 1 = 0#32 by cases b <;> decide, BitVec.xor_zero, b2w_bit]
  simp
theorem step_any (x : BitVec 32) (y : Int) (b : Bool) (w : World) (h0 : 0 ≤ y) (h1 : y ≤ 4294967295) (hb : decide (y % 2 = 1) = b) :
    Calls Tryd.prog 18 #[wv x, .int .u32 y] w fun e w' => e = .returned (wv (stepB x b)) ∧ w = w' := by
  have g0 := tn_ge x
  have g1 := tn_le x
  have f1 : bits .xor .u32 (tn x) y = tn (xr x (ofI y)) := by rw [← tn_xor, tn_ofI y h0 h1]
  have f2 := tn_and1 (xr x (ofI y))
  have f3 := tn_shr1 x
  have f4 := tn_xpoly (sh1 x)
  have hbit : (xr x (ofI y)).getLsbD 0 = (x.getLsbD 0 ^^ b) := by
    unfold xr
    rw [BitVec.getLsbD_xor]
    congr 1
    rw [← hb]
    show (ofI y).toNat.testBit 0 = _
    rw [Nat.testBit_zero]
    have ht := tn_ofI y h0 h1
    unfold tn at ht
    congr 1
    have : ((ofI y).toNat % 2 = 1) ↔ (y % 2 = 1) := by omega
    exact propext this
  rw [hbit] at f2
  have hs := step_bit x b
  cases hz : (x.getLsbD 0 ^^ b)
  · rw [hz] at f2 hs
    simp only [Bool.false_eq_true, if_false] at f2 hs
    have hs' : wv (stepB x b) = wv (sh1 x) := by rw [hs]; unfold xr; simp
    rw [hs']
    clear hz hbit hs hs' hb f4
    go_enter Tryd.func18, Tryd.ntmps18
    go_wp2
    go_ret
    exact ⟨rfl, rfl⟩
  · rw [hz] at f2 hs
    simp only [if_true] at f2 hs
    rw [hs]
    clear hz hbit hs hb
    go_enter Tryd.func18, Tryd.ntmps18
    go_wp2
    go_ret
    exact ⟨rfl, rfl⟩
/-- Bit number i of bytes. -/
theorem bits_at (bs : List UInt8) (i : Nat) (h : i < 8 * bs.length) (q : UInt8) (hq : bs[i / 8]? = some q) : (bitsOf bs)[i]? = some (q.toNat.testBit (i % 8)) := by
  induction bs generalizing i with
  | nil => simp at h
  | cons p r ih =>
    have e : bitsOf (p :: r) = bits8 p ++ bitsOf r := rfl
    rw [e]
    by_cases h8 : i < 8
    · rw [List.getElem?_append_left (by rw [bits8_len]; omega)]
      rw [show i / 8 = 0 by omega] at hq
      simp at hq
      subst hq
      rw [show i % 8 = i by omega]
      unfold bits8
      rw [List.getElem?_map, List.getElem?_range h8, Option.map_some]
    · rw [List.getElem?_append_right (by rw [bits8_len]; omega), bits8_len, ih (i - 8) (by simp at h; omega) (by
        rw [show i / 8 = (i - 8) / 8 + 1 by omega] at hq
        simpa using hq)]
      rw [show (i - 8) % 8 = i % 8 by omega]
theorem bit_num (q : UInt8) (j : Nat) (h : j < 8) : decide ((q.toNat : Int) / ((2 ^ j : Nat) : Int) % 2 = 1) = q.toNat.testBit j := by
  rw [Nat.testBit_eq_decide_div_mod_eq]
  congr 1
  apply propext
  omega
end Go.Proofs.YtlpbkoiopaejgaaDoor
