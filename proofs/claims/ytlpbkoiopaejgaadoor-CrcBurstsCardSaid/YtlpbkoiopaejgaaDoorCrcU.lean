/-
  Plain mathematics of CRC-32: bursts of at most 32 bits are told.
-/
import Derived.Test.YtlpbkoiopaejgaaDoorCrcN
namespace Go.Proofs.YtlpbkoiopaejgaaDoor
/-- Bit number k of bytes. -/
def bitAt (cs : List UInt8) (k : Nat) : Bool := (cs.getD (k / 8) 0).toNat.testBit (k % 8)
theorem bitsOf_at (cs : List UInt8) (k : Nat) (h : k < 8 * cs.length) : (bitsOf cs)[k]? = some (bitAt cs k) := by
  induction cs generalizing k with
  | nil => simp at h
  | cons p r ih =>
    have e : bitsOf (p :: r) = bits8 p ++ bitsOf r := rfl
    rw [e]
    by_cases h8 : k < 8
    · rw [List.getElem?_append_left (by rw [bits8_len]; omega)]
      unfold bitAt bits8
      rw [show k / 8 = 0 by omega, show k % 8 = k by omega, List.getElem?_map, List.getElem?_range h8]
      rfl
    · rw [List.getElem?_append_right (by rw [bits8_len]; omega), bits8_len, ih (k - 8) (by simp at h; omega)]
      unfold bitAt
      rw [show k / 8 = (k - 8) / 8 + 1 by omega, show (k - 8) % 8 = k % 8 by omega]
      rfl
/-- A byte with one bit turned. -/
def turn1 (q : UInt8) (m : Nat) : UInt8 := q ^^^ UInt8.ofNat (2 ^ m)
theorem turn1_bit (q : UInt8) (m t : Nat) (_hm : m < 8) (ht : t < 8) : (turn1 q m).toNat.testBit t = (q.toNat.testBit t ^^ decide (t = m)) := by
  unfold turn1
  rw [UInt8.toNat_xor, Nat.testBit_xor, UInt8.toNat_ofNat', Nat.testBit_mod_two_pow, Nat.testBit_two_pow]
  simp [ht]
  by_cases h : m = t
  · subst h; simp
  · simp [h, Ne.symm h]
def turnAt (cs : List UInt8) (k : Nat) : List UInt8 := cs.set (k / 8) (turn1 (cs.getD (k / 8) 0) (k % 8))
theorem turnAt_len (cs : List UInt8) (k : Nat) : (turnAt cs k).length = cs.length := by unfold turnAt; rw [List.length_set]
theorem turnAt_bit (cs : List UInt8) (k0 k : Nat) (h0 : k0 < 8 * cs.length) : bitAt (turnAt cs k0) k = (bitAt cs k ^^ decide (k = k0)) := by
  unfold bitAt turnAt
  by_cases h : k / 8 = k0 / 8
  · rw [h, List.getD_eq_getElem?_getD, List.getElem?_set_self (by omega), Option.getD_some, turn1_bit _ _ _ (by omega) (by omega)]
    congr 1
    have : (k % 8 = k0 % 8) ↔ (k = k0) := by omega
    exact decide_eq_decide.2 this
  · rw [List.getD_eq_getElem?_getD, List.getElem?_set_ne (fun e => h e.symm), ← List.getD_eq_getElem?_getD]
    rw [show (decide (k = k0)) = false by simp; rintro rfl; exact h rfl]
    simp
/-- The bytes behind i steps of the burst. -/
def burst (cs : List UInt8) (fr : Nat) (mask : Nat) : Nat → List UInt8
  | 0 => cs
  | i + 1 => if mask.testBit i = true ∧ fr + i < 8 * cs.length then turnAt (burst cs fr mask i) (fr + i) else burst cs fr mask i
theorem burst_len (cs : List UInt8) (fr mask i : Nat) : (burst cs fr mask i).length = cs.length := by
  induction i with
  | zero => rfl
  | succ i ih => unfold burst; split <;> simp [turnAt_len, ih]
def errB (fr mask i k : Nat) : Bool := decide (fr ≤ k ∧ k < fr + i) && mask.testBit (k - fr)
theorem burst_bit (cs : List UInt8) (fr mask i k : Nat) (hk : k < 8 * cs.length) : bitAt (burst cs fr mask i) k = (bitAt cs k ^^ errB fr mask i k) := by
  induction i with
  | zero =>
    unfold burst errB
    rw [show (decide (fr ≤ k ∧ k < fr + 0)) = false by simp]
    simp
  | succ i ih =>
    have herr : errB fr mask (i + 1) k = (errB fr mask i k ^^ (decide (k = fr + i) && mask.testBit i)) := by
      unfold errB
      by_cases h : k = fr + i
      · subst h
        simp
      · have : (decide (fr ≤ k ∧ k < fr + (i + 1))) = decide (fr ≤ k ∧ k < fr + i) := decide_eq_decide.2 (by omega)
        rw [this]
        simp [h]
    unfold burst
    split
    · rename_i hc
      rw [turnAt_bit _ _ _ (by rw [burst_len]; exact hc.2), ih, herr, hc.1, Bool.and_true, Bool.xor_assoc]
    · rename_i hc
      rw [ih, herr]
      by_cases h : k = fr + i
      · have : mask.testBit i = false := by
          cases hm : mask.testBit i
          · rfl
          · exact absurd ⟨hm, by omega⟩ hc
        simp [this]
      · simp [h]
/-- Was any bit turned? -/
def turnedB (fr mask N : Nat) : Nat → Bool
  | 0 => false
  | i + 1 => turnedB fr mask N i || (mask.testBit i && decide (fr + i < N))
theorem turnedB_iff (fr mask N i : Nat) : turnedB fr mask N i = true ↔ ∃ j, j < i ∧ mask.testBit j = true ∧ fr + j < N := by
  induction i with
  | zero => simp [turnedB]
  | succ i ih =>
    unfold turnedB
    rw [Bool.or_eq_true, ih, Bool.and_eq_true, decide_eq_true_eq]
    constructor
    · rintro (⟨j, h1, h2, h3⟩ | ⟨h2, h3⟩)
      · exact ⟨j, by omega, h2, h3⟩
      · exact ⟨i, by omega, h2, h3⟩
    · rintro ⟨j, h1, h2, h3⟩
      by_cases h : j = i
      · subst h; exact .inr ⟨h2, h3⟩
      · exact .inl ⟨j, by omega, h2, h3⟩
theorem stepB_xor (x y : BitVec 32) (a b : Bool) : stepB (x ^^^ y) (a ^^ b) = stepB x a ^^^ stepB y b := by
  unfold stepB
  rw [← bit1_xor]
  congr 1
  apply BitVec.eq_of_getLsbD_eq
  intro i hi
  simp only [BitVec.getLsbD_xor, b2w_bit]
  cases x.getLsbD i <;> cases y.getLsbD i <;> cases decide (i = 0) <;> cases a <;> cases b <;> rfl
theorem fold_xor2 : ∀ (a b : List Bool) (x y : BitVec 32), a.length = b.length → (List.zipWith (fun p q => p ^^ q) a b).foldl stepB (x ^^^ y) = a.foldl stepB x ^^^ b.foldl stepB y
  | [], [], _, _, _ => rfl
  | p :: a, q :: b, x, y, h => by
    simp only [List.zipWith_cons_cons, List.foldl_cons, stepB_xor]
    exact fold_xor2 a b _ _ (by simpa using h)
theorem fold_false (l : List Bool) (x : BitVec 32) (h : ∀ b ∈ l, b = false) : l.foldl stepB x = bits0 l.length x := by
  induction l generalizing x with
  | nil => rfl
  | cons b r ih =>
    rw [List.foldl_cons, ih _ (fun c hc => h c (List.mem_cons_of_mem _ hc)), h b (List.mem_cons_self ..), List.length_cons, bits0_add r.length 1]
    congr 1
    show stepB x false = bit1 x
    unfold stepB b2w
    simp
theorem W_zero (ws : List Bool) (hl : ws.length ≤ 32) (h : W ws = 0#32) : ∀ b ∈ ws, b = false := by
  intro b hb
  obtain ⟨i, hi, rfl⟩ := List.getElem_of_mem hb
  have := W_bit ws i (by omega)
  rw [h] at this
  simp [List.getD, List.getElem?_eq_getElem hi] at this
  exact this
/-- A burst of at most 32 bits is told: the register behind it is nought just if there was none. -/
theorem burst_told (N fr mask : Nat) : (((List.range N).map (errB fr mask 32)).foldl stepB 0#32 = 0#32) ↔ turnedB fr mask N 32 = false := by
  have hsplit : (List.range N).map (errB fr mask 32) = ((List.range N).map (errB fr mask 32)).take fr ++ (((List.range N).map (errB fr mask 32)).drop fr).take 32 ++ ((List.range N).map (errB fr mask 32)).drop (fr + 32) := by
    rw [List.append_assoc, ← List.drop_drop, List.take_append_drop, List.take_append_drop]
  have h1 : ∀ b ∈ ((List.range N).map (errB fr mask 32)).take fr, b = false := by
    intro b hb
    obtain ⟨i, hi, rfl⟩ := List.getElem_of_mem hb
    rw [List.length_take] at hi
    rw [List.getElem_take, List.getElem_map, List.getElem_range]
    unfold errB
    rw [show (decide (fr ≤ i ∧ i < fr + 32)) = false by simp; omega]; rfl
  have h3 : ∀ b ∈ ((List.range N).map (errB fr mask 32)).drop (fr + 32), b = false := by
    intro b hb
    obtain ⟨i, hi, rfl⟩ := List.getElem_of_mem hb
    rw [List.getElem_drop, List.getElem_map, List.getElem_range]
    unfold errB
    rw [show (decide (fr ≤ fr + 32 + i ∧ fr + 32 + i < fr + 32)) = false by simp]; rfl
  have hw : ((((List.range N).map (errB fr mask 32)).drop fr).take 32).length ≤ 32 := by rw [List.length_take]; omega
  have hzero : (W ((((List.range N).map (errB fr mask 32)).drop fr).take 32) = 0#32) ↔ turnedB fr mask N 32 = false := by
    constructor
    · intro h
      cases ht : turnedB fr mask N 32
      · rfl
      · obtain ⟨j, hj, hm, hN⟩ := (turnedB_iff fr mask N 32).1 ht
        have hmem : errB fr mask 32 (fr + j) ∈ (((List.range N).map (errB fr mask 32)).drop fr).take 32 := by
          apply List.mem_of_getElem? (i := j)
          rw [List.getElem?_take, if_pos hj, List.getElem?_drop, List.getElem?_map, List.getElem?_range hN]; rfl
        have := W_zero _ hw h _ hmem
        unfold errB at this
        rw [show (decide (fr ≤ fr + j ∧ fr + j < fr + 32)) = true by simp; omega, show fr + j - fr = j by omega, hm] at this
        cases this
    · intro h
      apply BitVec.eq_of_getLsbD_eq
      intro i hi
      rw [W_bit _ _ hi, List.getD_eq_getElem?_getD, List.getElem?_take, if_pos hi, List.getElem?_drop, List.getElem?_map]
      by_cases hN : fr + i < N
      · rw [List.getElem?_range hN]
        have : mask.testBit i = false := by
          cases hm : mask.testBit i
          · rfl
          · have := (turnedB_iff fr mask N 32).2 ⟨i, hi, hm, hN⟩
            rw [h] at this; cases this
        simp [errB, this]
      · rw [List.getElem?_eq_none (by simp; omega)]; simp
  rw [← hzero, hsplit, List.foldl_append, List.foldl_append, fold_false _ _ h1, bits0_nil, foldB _ _ hw, BitVec.zero_xor, fold_false _ _ h3, ← bits0_add]
  rw [← hsplit]
  constructor
  · intro h; exact bits0_zero _ _ h
  · intro h; rw [h, bits0_nil]
theorem bits_burst (cs : List UInt8) (fr mask : Nat) : bitsOf (burst cs fr mask 32) = List.zipWith (fun p q => p ^^ q) (bitsOf cs) ((List.range (8 * cs.length)).map (errB fr mask 32)) := by
  apply List.ext_getElem?
  intro k
  by_cases hk : k < 8 * cs.length
  · rw [bitsOf_at _ _ (by rw [burst_len]; exact hk), burst_bit _ _ _ _ _ hk, List.getElem?_zipWith, bitsOf_at _ _ hk, List.getElem?_map, List.getElem?_range hk]
    rfl
  · rw [List.getElem?_eq_none (by rw [bitsOf_len, burst_len]; omega), List.getElem?_eq_none (by rw [List.length_zipWith, bitsOf_len]; omega)]
/-- A text with its sum behind it, a burst in it: the sum is right just if nothing was turned. -/
theorem burst_sum (b p : List UInt8) (v : BitVec 32) (fr mask : Nat) (h : p ++ le4 v = burst (b ++ le4 (ext 0#32 b)) fr mask 32) :
    (ext 0#32 p = v) ↔ turnedB fr mask (8 * (b ++ le4 (ext 0#32 b)).length) 32 = false := by
  have hfold : (p ++ le4 v).foldl byteStep (cpl 0#32) = bits0 32 (cpl 0#32) ^^^ ((List.range (8 * (b ++ le4 (ext 0#32 b)).length)).map (errB fr mask 32)).foldl stepB 0#32 := by
    rw [h, fold_bits, bits_burst, ← BitVec.xor_zero (x := cpl 0#32), fold_xor2 _ _ _ _ (by rw [bitsOf_len, List.length_map, List.length_range]), BitVec.xor_zero, ← fold_bits, List.foldl_append, fold_le4]
    congr 2
    show List.foldl byteStep (cpl 0#32) b ^^^ cpl (List.foldl byteStep (cpl 0#32) b) = _
    exact xor_cpl _
  rw [List.foldl_append, fold_le4] at hfold
  rw [← burst_told]
  constructor
  · intro he
    have : List.foldl byteStep (cpl 0#32) p ^^^ v = cpl 0#32 := by
      rw [← he]
      exact xor_cpl _
    rw [this] at hfold
    have h2 := congrArg (bits0 32 (cpl 0#32) ^^^ ·) hfold
    simpa [← BitVec.xor_assoc] using h2.symm
  · intro hz
    rw [hz, BitVec.xor_zero] at hfold
    have h1 := bits0_inj 32 _ _ hfold
    have h2 : List.foldl byteStep (cpl 0#32) p ^^^ (List.foldl byteStep (cpl 0#32) p ^^^ v) = List.foldl byteStep (cpl 0#32) p ^^^ cpl 0#32 := by rw [h1]
    rw [← BitVec.xor_assoc, BitVec.xor_self, BitVec.zero_xor] at h2
    rw [h2]
    show cpl (List.foldl byteStep (cpl 0#32) p) = _
    generalize List.foldl byteStep (cpl 0#32) p = R
    unfold cpl
    apply BitVec.eq_of_getLsbD_eq
    intro i hi
    simp only [BitVec.getLsbD_xor, BitVec.getLsbD_not, hi, decide_true, Bool.true_and]
    cases R.getLsbD i <;> simp
/-- The word of four bytes. -/
def leW (q0 q1 q2 q3 : UInt8) : BitVec 32 := BitVec.ofNat 32 (q0.toNat + 256 * q1.toNat + 65536 * q2.toNat + 16777216 * q3.toNat)
theorem leW_nat (q0 q1 q2 q3 : UInt8) : (leW q0 q1 q2 q3).toNat = q0.toNat + 256 * q1.toNat + 65536 * q2.toNat + 16777216 * q3.toNat := by
  unfold leW
  rw [BitVec.toNat_ofNat]
  have := q0.toNat_lt
  have := q1.toNat_lt
  have := q2.toNat_lt
  have := q3.toNat_lt
  omega
theorem le4_leW (q0 q1 q2 q3 : UInt8) : le4 (leW q0 q1 q2 q3) = [q0, q1, q2, q3] := by
  have h0 := q0.toNat_lt
  have h1 := q1.toNat_lt
  have h2 := q2.toNat_lt
  have h3 := q3.toNat_lt
  have e : ∀ i, (wb (leW q0 q1 q2 q3) i).toNat = (leW q0 q1 q2 q3).toNat / 2 ^ (8 * i) % 256 := by
    intro i
    unfold wb
    rw [UInt8.toNat_ofNat', BitVec.toNat_ushiftRight, Nat.shiftRight_eq_div_pow]
  have a0 := e 0
  have a1 := e 1
  have a2 := e 2
  have a3 := e 3
  rw [leW_nat] at a0 a1 a2 a3
  unfold le4
  congr 1
  · apply UInt8.toNat_inj.1; rw [a0]; simp; omega
  congr 1
  · apply UInt8.toNat_inj.1; rw [a1]; simp; omega
  congr 1
  · apply UInt8.toNat_inj.1; rw [a2]; simp; omega
  congr 1
  · apply UInt8.toNat_inj.1; rw [a3]; simp; omega
end Go.Proofs.YtlpbkoiopaejgaaDoor
