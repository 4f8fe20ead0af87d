/-
  Plain mathematics of CRC-32: the register, a bit at a time and half a byte at a time.
-/
namespace Go.Proofs.YtkajlbdiofobcaaDoor
def xr (x y : BitVec 32) : BitVec 32 := x ^^^ y
def bw (q : UInt8) : BitVec 32 := BitVec.ofNat 32 q.toNat
def sh4 (x : BitVec 32) : BitVec 32 := x >>> 4
def lo4 (x : BitVec 32) : Nat := (x &&& 15#32).toNat
def cpl (x : BitVec 32) : BitVec 32 := ~~~ x
def tabL : List Nat := [0x00000000, 0x1db71064, 0x3b6e20c8, 0x26d930ac, 0x76dc4190, 0x6b6b51f4, 0x4db26158, 0x5005713c, 0xedb88320, 0xf00f9344, 0xd6d6a3e8, 0xcb61b38c, 0x9b64c2b0, 0x86d3d2d4, 0xa00ae278, 0xbdbdf21c]
/-- The table's word for the lowest four bits. -/
def tab (x : BitVec 32) : BitVec 32 := BitVec.ofNat 32 (tabL.getD (lo4 x) 0)
def nib (x : BitVec 32) : BitVec 32 := xr (sh4 x) (tab x)
def byteStep (x : BitVec 32) (b : UInt8) : BitVec 32 := nib (nib (xr x (bw b)))
def ext (s : BitVec 32) (bs : List UInt8) : BitVec 32 := cpl (bs.foldl byteStep (cpl s))

def poly : BitVec 32 := 0xEDB88320#32
/-- The register with one bit more. -/
def bit1 (x : BitVec 32) : BitVec 32 := (x >>> 1) ^^^ (if x.getLsbD 0 then poly else 0#32)
theorem ite_xor (a b : Bool) : (if (a ^^ b) then poly else 0#32) = (if a then poly else 0#32) ^^^ (if b then poly else 0#32) := by
  cases a <;> cases b <;> decide
theorem bit1_xor (x y : BitVec 32) : bit1 (x ^^^ y) = bit1 x ^^^ bit1 y := by
  unfold bit1
  rw [BitVec.ushiftRight_xor_distrib, BitVec.getLsbD_xor, ite_xor]
  simp only [BitVec.xor_assoc]
  congr 1
  rw [BitVec.xor_comm (y >>> 1), BitVec.xor_assoc, BitVec.xor_comm (y >>> 1)]
/-- n bits of nought more. -/
def bits0 : Nat → BitVec 32 → BitVec 32
  | 0, x => x
  | n + 1, x => bit1 (bits0 n x)
theorem bits0_xor (n : Nat) (x y : BitVec 32) : bits0 n (x ^^^ y) = bits0 n x ^^^ bits0 n y := by
  induction n with
  | zero => rfl
  | succ n ih => simp only [bits0, ih, bit1_xor]
theorem bits0_add (m n : Nat) (x : BitVec 32) : bits0 (m + n) x = bits0 m (bits0 n x) := by
  induction m with
  | zero => simp [bits0]
  | succ m ih => rw [Nat.succ_add]; simp only [bits0, ih]
theorem bit1_even (x : BitVec 32) (h : x.getLsbD 0 = false) : bit1 x = x >>> 1 := by
  unfold bit1; rw [h]; simp
theorem bits0_shl (n : Nat) (x : BitVec 32) : bits0 n ((x >>> n) <<< n) = x >>> n := by
  induction n generalizing x with
  | zero => simp [bits0]
  | succ n ih =>
    rw [show n + 1 = n + 1 from rfl, bits0_add n 1]
    have h0 : bits0 1 ((x >>> (n + 1)) <<< (n + 1)) = ((x >>> 1) >>> n) <<< n := by
      show bit1 ((x >>> (n + 1)) <<< (n + 1)) = _
      rw [bit1_even _ (by rw [BitVec.getLsbD_shiftLeft]; simp)]
      apply BitVec.eq_of_getLsbD_eq
      intro i hi
      simp only [BitVec.getLsbD_ushiftRight, BitVec.getLsbD_shiftLeft]
      by_cases h1 : i < n
      · simp [h1, show 1 + i < n + 1 by omega]
      · by_cases h31 : i = 31
        · subst h31
          have : x.getLsbD (1 + (n + (31 - n))) = false := BitVec.getLsbD_of_ge _ _ (by omega)
          simp [this]
        · rw [show (decide (1 + i < 32)) = true by simp; omega, show (decide (i < 32)) = true by simp; omega, show (decide (1 + i < n + 1)) = false by simp; omega, show (decide (i < n)) = false by simp; omega]
          simp only [Bool.not_false, Bool.true_and]
          congr 1; omega
    rw [h0, ih]
    rw [← BitVec.shiftRight_add]
    congr 1; omega
theorem split4 (x : BitVec 32) : x = ((x >>> 4) <<< 4) ^^^ (x &&& 15#32) := by
  apply BitVec.eq_of_getLsbD_eq
  intro i hi
  simp only [BitVec.getLsbD_xor, BitVec.getLsbD_shiftLeft, BitVec.getLsbD_ushiftRight, BitVec.getLsbD_and]
  by_cases h : i < 4
  · have : i = 0 ∨ i = 1 ∨ i = 2 ∨ i = 3 := by omega
    rcases this with rfl | rfl | rfl | rfl <;> simp
  · have h15 : (15#32).getLsbD i = false := by
      rw [BitVec.getLsbD_ofNat]
      have : Nat.testBit 15 i = false := Nat.testBit_lt_two_pow (Nat.lt_of_lt_of_le (show 15 < 2 ^ 4 by decide) (Nat.pow_le_pow_right (by decide) (by omega)))
      simp [this]
    rw [h15]
    simp [h, hi, show 4 + (i - 4) = i by omega]
theorem nib_lo : ∀ k, k < 16 → bits0 4 (BitVec.ofNat 32 k) = BitVec.ofNat 32 (tabL.getD k 0) := by decide
theorem nib_eq (x : BitVec 32) : nib x = bits0 4 x := by
  have hl : lo4 x < 16 := by
    unfold lo4
    rw [BitVec.toNat_and]
    exact Nat.lt_of_le_of_lt Nat.and_le_right (by decide)
  rw [show bits0 4 x = bits0 4 (((x >>> 4) <<< 4) ^^^ (x &&& 15#32)) from congrArg _ (split4 x), bits0_xor, bits0_shl]
  unfold nib xr sh4 tab
  congr 1
  rw [← nib_lo _ hl]
  unfold lo4
  rw [BitVec.ofNat_toNat, BitVec.setWidth_eq]
theorem byteStep_eq (x : BitVec 32) (b : UInt8) : byteStep x b = bits0 8 (x ^^^ bw b) := by
  unfold byteStep
  rw [nib_eq, nib_eq, ← bits0_add]; rfl
theorem bit1_zero (x : BitVec 32) (h : bit1 x = 0#32) : x = 0#32 := by
  have h31 : (bit1 x).getLsbD 31 = x.getLsbD 0 := by
    unfold bit1
    rw [BitVec.getLsbD_xor, BitVec.getLsbD_ushiftRight, BitVec.getLsbD_of_ge _ _ (by omega : 32 ≤ 1 + 31)]
    cases x.getLsbD 0 <;> decide
  have h0 : x.getLsbD 0 = false := by rw [← h31, h]; decide
  rw [bit1_even x h0] at h
  apply BitVec.eq_of_getLsbD_eq
  intro i hi
  by_cases hi0 : i = 0
  · subst hi0; rw [h0]; simp
  · have := congrArg (fun y => BitVec.getLsbD y (i - 1)) h
    simp only [BitVec.getLsbD_ushiftRight] at this
    rw [show 1 + (i - 1) = i by omega] at this
    rw [this]; simp
theorem bits0_zero (n : Nat) (x : BitVec 32) (h : bits0 n x = 0#32) : x = 0#32 := by
  induction n with
  | zero => exact h
  | succ n ih => exact ih (bit1_zero _ h)
theorem bits0_nil (n : Nat) : bits0 n 0#32 = 0#32 := by
  induction n with
  | zero => rfl
  | succ n ih => simp only [bits0, ih]; decide
theorem xor_zero_iff (x y : BitVec 32) (h : x ^^^ y = 0#32) : x = y := by
  have := congrArg (· ^^^ y) h
  simpa [BitVec.xor_assoc] using this
theorem bits0_inj (n : Nat) (x y : BitVec 32) (h : bits0 n x = bits0 n y) : x = y := by
  apply xor_zero_iff
  apply bits0_zero n
  rw [bits0_xor, h, BitVec.xor_self]
theorem byteStep_inj (x y : BitVec 32) (b : UInt8) (h : byteStep x b = byteStep y b) : x = y := by
  rw [byteStep_eq, byteStep_eq] at h
  have := congrArg (· ^^^ bw b) (bits0_inj _ _ _ h)
  simpa [BitVec.xor_assoc] using this
theorem fold_inj (bs : List UInt8) (x y : BitVec 32) (h : bs.foldl byteStep x = bs.foldl byteStep y) : x = y := by
  induction bs generalizing x y with
  | nil => exact h
  | cons b bs ih => exact byteStep_inj _ _ _ (ih _ _ h)
theorem cpl_inj {x y : BitVec 32} (h : cpl x = cpl y) : x = y := by
  unfold cpl at h
  have := congrArg (~~~ ·) h
  simpa using this
theorem ext_inj (bs : List UInt8) (x y : BitVec 32) (h : ext x bs = ext y bs) : x = y := cpl_inj (fold_inj bs _ _ (cpl_inj h))
theorem ext_append (s : BitVec 32) (a b : List UInt8) : ext (ext s a) b = ext s (a ++ b) := by
  unfold ext
  rw [List.foldl_append]
  congr 2
  unfold cpl
  simp
theorem ext_nil (s : BitVec 32) : ext s [] = s := by unfold ext cpl; simp

/-! ### Three texts put together -/
def xb3 (a b c : UInt8) : UInt8 := a ^^^ b ^^^ c
theorem bw_xor (a b : UInt8) : bw (a ^^^ b) = bw a ^^^ bw b := by
  unfold bw
  rw [UInt8.toNat_xor]
  apply BitVec.eq_of_toNat_eq
  rw [BitVec.toNat_xor, BitVec.toNat_ofNat, BitVec.toNat_ofNat, BitVec.toNat_ofNat]
  have ha := a.toNat_lt
  have hb := b.toNat_lt
  have hx : a.toNat ^^^ b.toNat < 2 ^ 8 := Nat.xor_lt_two_pow (by omega) (by omega)
  rw [Nat.mod_eq_of_lt (by omega), Nat.mod_eq_of_lt (by omega), Nat.mod_eq_of_lt (by omega)]
theorem x3 (a b c d e f : BitVec 32) : (a ^^^ b ^^^ c) ^^^ (d ^^^ e ^^^ f) = (a ^^^ d) ^^^ (b ^^^ e) ^^^ (c ^^^ f) := by
  apply BitVec.eq_of_getLsbD_eq
  intro i hi
  simp only [BitVec.getLsbD_xor]
  cases a.getLsbD i <;> cases b.getLsbD i <;> cases c.getLsbD i <;> cases d.getLsbD i <;> cases e.getLsbD i <;> cases f.getLsbD i <;> rfl
theorem byteStep_xor3 (x y z : BitVec 32) (a b c : UInt8) : byteStep (x ^^^ y ^^^ z) (xb3 a b c) = byteStep x a ^^^ byteStep y b ^^^ byteStep z c := by
  simp only [byteStep_eq, xb3, bw_xor, x3, bits0_xor]
theorem fold_xor3 : ∀ (n : Nat) (a b c : List UInt8) (x y z : BitVec 32), a.length = n → b.length = n → c.length = n →
    (List.zipWith (fun u q => u ^^^ q) (List.zipWith (fun p q => p ^^^ q) a b) c).foldl byteStep (x ^^^ y ^^^ z) = a.foldl byteStep x ^^^ b.foldl byteStep y ^^^ c.foldl byteStep z
  | 0, [], [], [], _, _, _, _, _, _ => rfl
  | n + 1, p :: a, q :: b, r :: c, x, y, z, ha, hb, hc => by
    simp only [List.zipWith_cons_cons, List.foldl_cons]
    have := byteStep_xor3 x y z p q r
    unfold xb3 at this
    rw [this]
    exact fold_xor3 n a b c _ _ _ (by simpa using ha) (by simpa using hb) (by simpa using hc)
theorem ext_xor3 (n : Nat) (a b c : List UInt8) (ha : a.length = n) (hb : b.length = n) (hc : c.length = n) :
    ext 0#32 (List.zipWith (fun u q => u ^^^ q) (List.zipWith (fun p q => p ^^^ q) a b) c) = xr (xr (ext 0#32 a) (ext 0#32 b)) (ext 0#32 c) := by
  unfold ext xr
  rw [show cpl 0#32 = cpl 0#32 ^^^ cpl 0#32 ^^^ cpl 0#32 by decide, fold_xor3 n a b c _ _ _ ha hb hc]
  rw [show cpl 0#32 ^^^ cpl 0#32 ^^^ cpl 0#32 = cpl 0#32 by decide]
  generalize a.foldl byteStep (cpl 0#32) = p
  generalize b.foldl byteStep (cpl 0#32) = q
  generalize c.foldl byteStep (cpl 0#32) = r
  unfold cpl
  apply BitVec.eq_of_getLsbD_eq
  intro i hi
  simp only [BitVec.getLsbD_xor, BitVec.getLsbD_not, hi, decide_true, Bool.true_and]
  cases p.getLsbD i <;> cases q.getLsbD i <;> cases r.getLsbD i <;> rfl

/-! ### The anchor -/
theorem anchor : ext 0#32 [49, 50, 51, 52, 53, 54, 55, 56, 57] = 0xcbf43926#32 := by decide
end Go.Proofs.YtkajlbdiofobcaaDoor
