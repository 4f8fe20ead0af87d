/-
  Plain mathematics of CRC-32, a bit at a time: windows of at most 32 bits; a sum behind its text; bursts.
-/
import Derived.Test.YtlpbkoiopaejgaaDoorCrcM
namespace Go.Proofs.YtlpbkoiopaejgaaDoor
def b2w (b : Bool) : BitVec 32 := if b then 1#32 else 0#32
def stepB (x : BitVec 32) (b : Bool) : BitVec 32 := bit1 (x ^^^ b2w b)
/-- Bits, the first one lowest. -/
def W : List Bool → BitVec 32
  | [] => 0#32
  | b :: r => b2w b ^^^ (W r <<< 1)
theorem b2w_bit (b : Bool) (i : Nat) : (b2w b).getLsbD i = (decide (i = 0) && b) := by
  cases b
  · simp [b2w]
  · by_cases h : i = 0
    · subst h; decide
    · simp [b2w, h, BitVec.getLsbD_one]
theorem W_bit (ws : List Bool) (i : Nat) (h : i < 32) : (W ws).getLsbD i = ws.getD i false := by
  induction ws generalizing i with
  | nil => simp [W]
  | cons b r ih =>
    unfold W
    rw [BitVec.getLsbD_xor, b2w_bit, BitVec.getLsbD_shiftLeft]
    cases i with
    | zero => simp
    | succ i => simp [ih i (by omega), h]
theorem bit1_shl (y : BitVec 32) (h : y.getLsbD 31 = false) : bit1 (y <<< 1) = y := by
  rw [bit1_even _ (by rw [BitVec.getLsbD_shiftLeft]; simp)]
  apply BitVec.eq_of_getLsbD_eq
  intro i hi
  rw [BitVec.getLsbD_ushiftRight, BitVec.getLsbD_shiftLeft]
  by_cases h31 : i = 31
  · subst h31
    rw [h]; simp
  · simp [show 1 + i < 32 by omega, show 1 + i - 1 = i by omega]
theorem foldB (ws : List Bool) (x : BitVec 32) (h : ws.length ≤ 32) : ws.foldl stepB x = bits0 ws.length (x ^^^ W ws) := by
  induction ws generalizing x with
  | nil => simp [W, bits0]
  | cons b r ih =>
    simp only [List.length_cons] at h
    rw [List.foldl_cons, ih _ (by omega), List.length_cons, bits0_add r.length 1]
    congr 1
    show _ = bit1 (x ^^^ W (b :: r))
    rw [show W (b :: r) = b2w b ^^^ (W r <<< 1) from rfl, show stepB x b = bit1 (x ^^^ b2w b) from rfl]
    rw [← BitVec.xor_assoc, bit1_xor (x ^^^ b2w b), bit1_shl (W r) (by rw [W_bit _ _ (by omega)]; simp [List.getD, List.getElem?_eq_none (show r.length ≤ 31 by omega)])]
/-- A byte's bits. -/
def bits8 (q : UInt8) : List Bool := (List.range 8).map fun i => q.toNat.testBit i
def bitsOf (bs : List UInt8) : List Bool := bs.flatMap bits8
theorem bits8_len (q : UInt8) : (bits8 q).length = 8 := by simp [bits8]
theorem bitsOf_len (bs : List UInt8) : (bitsOf bs).length = 8 * bs.length := by
  induction bs with
  | nil => rfl
  | cons q r ih =>
    show (bits8 q ++ bitsOf r).length = _
    rw [List.length_append, ih, bits8_len, List.length_cons]; omega
theorem bits8_get (q : UInt8) (i : Nat) : (bits8 q).getD i false = (decide (i < 8) && q.toNat.testBit i) := by
  unfold bits8
  by_cases h : i < 8
  · simp [List.getD, h]
  · simp [List.getD, h]
theorem W_bits8 (q : UInt8) : W (bits8 q) = bw q := by
  apply BitVec.eq_of_getLsbD_eq
  intro i hi
  rw [W_bit _ _ hi, bits8_get]
  unfold bw
  rw [BitVec.getLsbD_ofNat]
  by_cases h : i < 8
  · simp [h, hi]
  · have : q.toNat.testBit i = false := Nat.testBit_lt_two_pow (Nat.lt_of_lt_of_le q.toNat_lt (Nat.pow_le_pow_right (by decide) (by omega)))
    simp [this]
theorem byteStep_bits (x : BitVec 32) (q : UInt8) : byteStep x q = (bits8 q).foldl stepB x := by
  rw [foldB _ _ (by rw [bits8_len]; omega), W_bits8, byteStep_eq, bits8_len]
theorem fold_bits (bs : List UInt8) (x : BitVec 32) : bs.foldl byteStep x = (bitsOf bs).foldl stepB x := by
  induction bs generalizing x with
  | nil => rfl
  | cons q r ih =>
    show _ = (bits8 q ++ bitsOf r).foldl stepB x
    rw [List.foldl_append, List.foldl_cons, ih, byteStep_bits]

/-- A word's byte number i. -/
def wb (x : BitVec 32) (i : Nat) : UInt8 := UInt8.ofNat ((x >>> (8 * i)).toNat)
def le4 (x : BitVec 32) : List UInt8 := [wb x 0, wb x 1, wb x 2, wb x 3]
theorem wb_bit (x : BitVec 32) (k i : Nat) (h : i < 8) : (wb x k).toNat.testBit i = x.getLsbD (8 * k + i) := by
  unfold wb
  rw [UInt8.toNat_ofNat', Nat.testBit_mod_two_pow, BitVec.toNat_ushiftRight, Nat.testBit_shiftRight]
  simp [h, BitVec.getLsbD]
theorem W_le4 (v : BitVec 32) : W (bitsOf (le4 v)) = v := by
  apply BitVec.eq_of_getLsbD_eq
  intro i hi
  rw [W_bit _ _ hi]
  have hb : bitsOf (le4 v) = bits8 (wb v 0) ++ (bits8 (wb v 1) ++ (bits8 (wb v 2) ++ (bits8 (wb v 3) ++ []))) := rfl
  have hg : ∀ k j, j < 8 → (bits8 (wb v k))[j]? = some (v.getLsbD (8 * k + j)) := by
    intro k j hj
    unfold bits8
    rw [List.getElem?_map, List.getElem?_range hj, Option.map_some, wb_bit _ _ _ hj]
  rw [List.getD_eq_getElem?_getD, hb]
  by_cases h0 : i < 8
  · rw [List.getElem?_append_left (by rw [bits8_len]; omega), hg 0 i h0]; simp
  rw [List.getElem?_append_right (by rw [bits8_len]; omega), bits8_len]
  by_cases h1 : i < 16
  · rw [List.getElem?_append_left (by rw [bits8_len]; omega), hg 1 _ (by omega)]
    rw [show 8 * 1 + (i - 8) = i by omega]; rfl
  rw [List.getElem?_append_right (by rw [bits8_len]; omega), bits8_len]
  by_cases h2 : i < 24
  · rw [List.getElem?_append_left (by rw [bits8_len]; omega), hg 2 _ (by omega)]
    rw [show 8 * 2 + (i - 8 - 8) = i by omega]; rfl
  rw [List.getElem?_append_right (by rw [bits8_len]; omega), bits8_len, List.getElem?_append_left (by rw [bits8_len]; omega), hg 3 _ (by omega)]
  rw [show 8 * 3 + (i - 8 - 8 - 8) = i by omega]; rfl
theorem fold_le4 (x v : BitVec 32) : (le4 v).foldl byteStep x = bits0 32 (x ^^^ v) := by
  rw [fold_bits, foldB _ _ (by rw [bitsOf_len]; show 8 * 4 ≤ 32; decide), W_le4, bitsOf_len]; rfl
theorem xor_cpl (x : BitVec 32) : x ^^^ cpl x = cpl 0#32 := by
  unfold cpl
  apply BitVec.eq_of_getLsbD_eq
  intro i hi
  simp only [BitVec.getLsbD_xor, BitVec.getLsbD_not, hi, decide_true, Bool.true_and]
  cases x.getLsbD i <;> simp
/-- A text with its sum behind it has one sum. -/
theorem ext_rest (bs : List UInt8) : ext 0#32 (bs ++ le4 (ext 0#32 bs)) = 0x2144df1c#32 := by
  unfold ext
  rw [List.foldl_append, fold_le4, xor_cpl]
  decide
end Go.Proofs.YtlpbkoiopaejgaaDoor
