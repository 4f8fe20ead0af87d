/-
  Numbers of limbs of 32 bits: what a list of limbs says.
-/
import Derived.Test.YtmbkbehccmadfaaShX4
import Derived.Test.YtmbkbehccmadfaaShF
namespace Go.Proofs.Ytmbkbehccmadfaa
open Go.RowKit Go
set_option linter.unusedVariables false
set_option linter.unusedSimpArgs false
set_option maxRecDepth 100000
def val : List Nat → Nat
  | [] => 0
  | x :: l => x + 4294967296 * val l
theorem val_set : ∀ (l : List Nat) (j y : Nat), j < l.length → val (l.set j y) + l.getD j 0 * 4294967296 ^ j = val l + y * 4294967296 ^ j
  | [], j, _, h => absurd h (by simp)
  | x :: l, 0, y, _ => by simp only [List.set_cons_zero, val, List.getD_cons_zero, Nat.pow_zero, Nat.mul_one]; omega
  | x :: l, j + 1, y, h => by
    have ih := val_set l j y (by simpa using h)
    simp only [List.set_cons_succ, val, List.getD_cons_succ]
    rw [Nat.pow_succ, ← Nat.mul_assoc, ← Nat.mul_assoc]
    generalize l.getD j 0 * 4294967296 ^ j = a at *
    generalize y * 4294967296 ^ j = b at *
    omega
theorem val_take : ∀ (l : List Nat) (k : Nat), k < l.length → val (l.take (k + 1)) = val (l.take k) + l.getD k 0 * 4294967296 ^ k
  | [], k, h => absurd h (by simp)
  | x :: l, 0, _ => by simp [val]
  | x :: l, k + 1, h => by
    have ih := val_take l k (by simpa using h)
    simp only [List.take_succ_cons, val, List.getD_cons_succ]
    rw [ih, Nat.pow_succ, ← Nat.mul_assoc]
    generalize l.getD k 0 * 4294967296 ^ k = a
    omega
theorem val_zero (n : Nat) : val (List.replicate n 0) = 0 := by
  induction n with
  | zero => rfl
  | succ n ih => rw [List.replicate_succ, val, ih]
theorem val_lt : ∀ (l : List Nat), (∀ x ∈ l, x < 4294967296) → val l < 4294967296 ^ l.length
  | [], _ => by simp [val]
  | x :: l, h => by
    have h1 := h x (by simp)
    have h2 := val_lt l (fun y hy => h y (by simp [hy]))
    rw [val, List.length_cons, Nat.pow_succ]
    generalize 4294967296 ^ l.length = T at *
    omega
theorem tIn_far (a : Nat) (ys : List Nat) (i : Nat) : ∀ (k : Nat) (out : List Nat) (j : Nat), (j < i ∨ i + k ≤ j) → (tIn a ys i k out).1.getD j 0 = out.getD j 0
  | 0, _, _, _ => rfl
  | k + 1, out, j, h => by
    simp only [tIn]
    rw [List.getD_eq_getElem?_getD, List.getElem?_set_ne (by omega), ← List.getD_eq_getElem?_getD]
    exact tIn_far a ys i k out j (by omega)
theorem tIn_val (a : Nat) (ys : List Nat) (i : Nat) (ha : a < 4294967296) (hy : ∀ x ∈ ys, x < 4294967296) : ∀ (k : Nat) (out : List Nat), k ≤ ys.length → i + ys.length ≤ out.length → (∀ x ∈ out, x < 4294967296) →
    val (tIn a ys i k out).1 + (tIn a ys i k out).2 * 4294967296 ^ (i + k) = val out + a * val (ys.take k) * 4294967296 ^ i
  | 0, out, _, _, _ => by simp [tIn, val]
  | k + 1, out, hk, hl, ho => by
    have ih := tIn_val a ys i ha hy k out (by omega) hl ho
    obtain ⟨t1, t2, t3⟩ := tIn_ok a ys i k out ho
    obtain ⟨y, hy1, hyd⟩ := at_of (l := ys) (j := k) (by omega)
    obtain ⟨z, hz1, hzd⟩ := at_of (l := (tIn a ys i k out).1) (j := i + k) (by rw [t1]; omega)
    have hy32 := hy y (List.mem_of_getElem? hy1)
    have hz32 := t2 z (List.mem_of_getElem? hz1)
    have hP : a * y < 18446744065119617026 := by
      have h1 : a * y ≤ 4294967295 * 4294967295 := Nat.mul_le_mul (by omega) (by omega)
      omega
    have hs := val_set (tIn a ys i k out).1 (i + k) ((a * y + z + (tIn a ys i k out).2) % 18446744073709551616 % 4294967296) (by rw [t1]; omega)
    rw [val_take ys k (by omega)]
    simp only [tIn]
    rw [hyd, hzd]
    rw [hzd] at hs
    generalize (tIn a ys i k out).1.set (i + k) ((a * y + z + (tIn a ys i k out).2) % 18446744073709551616 % 4294967296) = o2 at *
    generalize (tIn a ys i k out).1 = o1 at *
    generalize (tIn a ys i k out).2 = c at *
    rw [Nat.mod_eq_of_lt (show a * y + z + c < 18446744073709551616 by omega)] at hs ⊢
    have hT : 4294967296 ^ (i + (k + 1)) = 4294967296 * 4294967296 ^ (i + k) := by rw [← Nat.add_assoc, Nat.pow_succ, Nat.mul_comm]
    have hK : a * (val (ys.take k) + y * 4294967296 ^ k) * 4294967296 ^ i = a * val (ys.take k) * 4294967296 ^ i + a * y * 4294967296 ^ (i + k) := by
      rw [Nat.mul_add, Nat.add_mul, Nat.add_comm i k, Nat.pow_add]
      simp only [Nat.mul_assoc]
    rw [hT, hK]
    generalize 4294967296 ^ (i + k) = T at *
    generalize a * val (ys.take k) * 4294967296 ^ i = V at *
    have hsum : (a * y + z + c) % 4294967296 * T + (a * y + z + c) / 4294967296 * (4294967296 * T) = a * y * T + z * T + c * T := by
      rw [← Nat.mul_assoc, ← Nat.add_mul, ← Nat.add_mul, ← Nat.add_mul]
      congr 1
      omega
    generalize (a * y + z + c) % 4294967296 * T = r at *
    generalize (a * y + z + c) / 4294967296 * (4294967296 * T) = q at *
    generalize a * y * T = p at *
    generalize z * T = zt at *
    generalize c * T = ct at *
    omega
theorem tOut_far (xs ys : List Nat) : ∀ (i j : Nat), i + ys.length ≤ j → (tOut xs ys i).getD j 0 = 0
  | 0, j, h => by
    simp only [tOut]
    rw [List.getD_eq_getElem?_getD, List.getElem?_replicate]
    split <;> rfl
  | i + 1, j, h => by
    simp only [tOut]
    rw [List.getD_eq_getElem?_getD, List.getElem?_set_ne (by omega), ← List.getD_eq_getElem?_getD, tIn_far _ _ _ _ _ _ (by omega)]
    exact tOut_far xs ys i j (by omega)
theorem tOut_val (xs ys : List Nat) (hx : ∀ x ∈ xs, x < 4294967296) (hy : ∀ x ∈ ys, x < 4294967296) : ∀ i, i ≤ xs.length → val (tOut xs ys i) = val (xs.take i) * val ys
  | 0, _ => by simp [tOut, val, val_zero]
  | i + 1, hi => by
    have ih := tOut_val xs ys hx hy i (by omega)
    obtain ⟨o1, o2⟩ := tOut_ok xs ys i
    obtain ⟨x, hx1, hxd⟩ := at_of (l := xs) (j := i) (by omega)
    have hx32 := hx x (List.mem_of_getElem? hx1)
    have h1 := tIn_val x ys i hx32 hy ys.length (tOut xs ys i) (Nat.le_refl _) (by omega) o2
    obtain ⟨t1, t2, t3⟩ := tIn_ok x ys i ys.length (tOut xs ys i) o2
    have h2 := val_set (tIn x ys i ys.length (tOut xs ys i)).1 (i + ys.length) ((tIn x ys i ys.length (tOut xs ys i)).2 % 4294967296) (by rw [t1]; omega)
    rw [tIn_far _ _ _ _ _ _ (by omega), tOut_far xs ys i _ (by omega), Nat.zero_mul, Nat.add_zero, Nat.mod_eq_of_lt t3] at h2
    simp only [tOut]
    rw [hxd, Nat.mod_eq_of_lt t3, h2, h1, ih, val_take xs i (by omega), hxd, List.take_length, Nat.add_mul]
    congr 1
    rw [Nat.mul_assoc, Nat.mul_comm (val ys), ← Nat.mul_assoc]
theorem times_val (xs ys : List Nat) (hx : ∀ x ∈ xs, x < 4294967296) (hy : ∀ x ∈ ys, x < 4294967296) : val (timesQ xs ys) = val xs * val ys := by
  unfold timesQ
  rw [tOut_val xs ys hx hy _ (Nat.le_refl _), List.take_length]
theorem abv_val (xs ys : List Nat) (hx : ∀ x ∈ xs, x < 4294967296) (hy : ∀ x ∈ ys, x < 4294967296) : ∀ i, i ≤ xs.length → i ≤ ys.length → abvQ xs ys i = decide (val (ys.take i) < val (xs.take i))
  | 0, _, _ => by simp [abvQ, val]
  | i + 1, h1, h2 => by
    have ih := abv_val xs ys hx hy i (by omega) (by omega)
    have l1 := val_lt (xs.take i) (fun x h => hx x (List.mem_of_mem_take h))
    have l2 := val_lt (ys.take i) (fun x h => hy x (List.mem_of_mem_take h))
    rw [List.length_take, Nat.min_eq_left (by omega)] at l1 l2
    rw [val_take xs i (by omega), val_take ys i (by omega)]
    simp only [abvQ]
    generalize xs.getD i 0 = a at *
    generalize ys.getD i 0 = b at *
    generalize val (xs.take i) = u at *
    generalize val (ys.take i) = v at *
    generalize 4294967296 ^ i = T at *
    by_cases e : a = b
    · rw [if_pos e, ih, e]
      congr 1
      apply propext
      omega
    · rw [if_neg e]
      congr 1
      apply propext
      constructor
      · intro h
        have : (b + 1) * T ≤ a * T := Nat.mul_le_mul_right T h
        rw [Nat.add_mul] at this
        omega
      · intro h
        rcases Nat.lt_or_ge b a with h3 | h3
        · exact h3
        · exfalso
          have : (a + 1) * T ≤ b * T := Nat.mul_le_mul_right T (by omega)
          rw [Nat.add_mul] at this
          omega
theorem limbs_val (x : Nat) (h : x < 18446744073709551616) : val (limbs x) = x := by
  unfold limbs
  simp only [val]
  omega
theorem pow_val (x : Nat) (h : x < 18446744073709551616) : ∀ i, val (powQ (limbs x) i) = x ^ (i + 1)
  | 0 => by rw [Nat.pow_one]; exact limbs_val x h
  | i + 1 => by
    show val (timesQ _ _) = _
    rw [times_val _ _ (pow_ok x i).2 (limbs_ok x).2, pow_val x h i, limbs_val x h, ← Nat.pow_succ]
theorem want_val (p n : Nat) (hn : 0 < n) : val (wantQ p n) = p * 4294967296 ^ n := by
  unfold wantQ
  have h := val_set (List.replicate (2 * n) 0) n p (by simp; omega)
  rw [val_zero, Nat.zero_add, List.getD_eq_getElem?_getD, List.getElem?_replicate, if_pos (by omega)] at h
  simpa using h
theorem rootF_eq (p n x : Nat) (hp : p < 4294967296) (hn : 0 < n) (hx : x < 18446744073709551616) : rootF p n x = decide (p * 4294967296 ^ n < x ^ n) := by
  unfold rootF
  have h1 := pow_ok x (n - 1)
  have h2 := want_ok p n hp
  rw [abv_val _ _ h1.2 h2.2 _ (by rw [h1.1]; omega) (by rw [h2.1]; omega)]
  rw [List.take_of_length_le (by rw [h2.1]; omega), List.take_of_length_le (by rw [h1.1]; omega), want_val p n hn, pow_val x hx, show n - 1 + 1 = n by omega]
theorem bis_same (f g : Nat → Bool) (h : ∀ x, x < 18446744073709551616 → f x = g x) : ∀ (k lo hi : Nat), lo ≤ hi → hi ≤ 137438953472 → bisQ f k lo hi = bisQ g k lo hi
  | 0, _, _, _, _ => rfl
  | k + 1, lo, hi, h1, h2 => by
    rw [bisQ, bisQ]
    by_cases hg : 1 < hi - lo
    · rw [if_pos hg, if_pos hg, h _ (by omega), bis_same f g h k lo _ (by omega) (by omega), bis_same f g h k _ hi (by omega) (by omega)]
    · rw [if_neg hg, if_neg hg]
def rootP (p n : Nat) : Nat := bisQ (fun x => decide (p * 4294967296 ^ n < x ^ n)) 37 0 137438953472 % 4294967296
theorem rootQ_eq (p n : Nat) (hp : p < 4294967296) (hn : 0 < n) : rootQ p n = rootP p n := by
  unfold rootQ rootP
  rw [bis_same _ _ (fun x hx => rootF_eq p n x hp hn hx) 37 0 _ (by decide) (by decide)]
def RT2 : List Nat := [6074000999, 7439101573, 9603838834, 11363415354, 14244795007, 15485724812, 17708603819, 18721328409]
def RT3 : List Nat := [5411319704, 6194414737, 7344290767, 8215976869, 9551921755, 10098905585, 11043570340, 11460697813, 12214315672, 13195500289, 13492127166, 14311783875, 14809980276, 15046980094, 15499789991, 16133124468, 16720292289, 16907126662, 17444216262, 17784676812, 17950125167, 18429019306, 18734950876, 19175934170, 19734090066, 20001703533, 20132865992, 20390182855, 20516441075, 20764397895, 21588763473, 21813078375, 22141143685, 22248366392, 22769593852, 22871018771, 23170020180, 23461497531, 23651862830, 23931792517, 24205322401, 24295138891, 24734567280, 24820601251, 24990902297, 25075189284, 25569408389, 26045227120, 26200031510, 26276752392, 26428864332, 26653801653, 26727943347, 27092625994, 27306805839, 27517677555, 27725365998, 27793908591, 27997534228, 28131656200, 28198240250, 28526537963, 28973835255, 29099129074]
theorem bis_spec (f : Nat → Bool) (hm : ∀ x y, x ≤ y → f x = true → f y = true) (r : Nat) (h0 : f r = false) (h1 : f (r + 1) = true) : ∀ (k lo hi : Nat), f lo = false → f hi = true → hi - lo ≤ 2 ^ k → bisQ f k lo hi = r := by
  have key : ∀ lo hi, f lo = false → f hi = true → lo ≤ r ∧ r < hi := by
    intro lo hi hl hh
    constructor
    · rcases Nat.lt_or_ge r lo with h | h
      · have := hm (r + 1) lo h h1
        rw [hl] at this; cases this
      · exact h
    · rcases Nat.lt_or_ge r hi with h | h
      · exact h
      · have := hm hi r h hh
        rw [h0] at this; cases this
  intro k
  induction k with
  | zero =>
    intro lo hi hl hh hk
    have := key lo hi hl hh
    rw [bisQ]
    rw [Nat.pow_zero] at hk
    omega
  | succ k ih =>
    intro lo hi hl hh hk
    have hb := key lo hi hl hh
    rw [bisQ]
    have hp : 2 ^ (k + 1) = 2 * 2 ^ k := by rw [Nat.pow_succ, Nat.mul_comm]
    by_cases hg : 1 < hi - lo
    · rw [if_pos hg]
      cases hx : f ((lo + hi) / 2) with
      | true => rw [if_pos rfl]; exact ih lo _ hl hx (by omega)
      | false => rw [if_neg (by decide)]; exact ih _ hi hx hh (by omega)
    · rw [if_neg hg]; omega
theorem rootP_is (p n r : Nat) (hn : n = 2 ∨ n = 3) (hp : 0 < p) (h0 : ¬ p * 4294967296 ^ n < r ^ n) (h1 : p * 4294967296 ^ n < (r + 1) ^ n) (h2 : p * 4294967296 ^ n < 137438953472 ^ n) : rootP p n = r % 4294967296 := by
  unfold rootP
  rw [bis_spec _ ?_ r (decide_eq_false h0) (decide_eq_true h1) 37 0 137438953472 ?_ (decide_eq_true h2) (by decide)]
  · intro x y hxy h
    have h3 := of_decide_eq_true h
    exact decide_eq_true (Nat.lt_of_lt_of_le h3 (Nat.pow_le_pow_left hxy n))
  · refine decide_eq_false ?_
    rcases hn with rfl | rfl <;> simp
theorem roots_ok (m n : Nat) (R : List Nat) (hn : n = 2 ∨ n = 3) (H : List Nat) (hm : m ≤ 64) (hH : H.length = m)
    (h : ((List.range m).all fun i => decide (0 < PR64.getD i 0) && (!decide (PR64.getD i 0 * 4294967296 ^ n < (R.getD i 0) ^ n)) && decide (PR64.getD i 0 * 4294967296 ^ n < (R.getD i 0 + 1) ^ n) && decide (PR64.getD i 0 * 4294967296 ^ n < 137438953472 ^ n) && decide (R.getD i 0 % 4294967296 = H.getD i 0)) = true) :
    (PR64.take m).map (fun p => rootP p n) = H := by
  refine List.ext_getElem? fun i => ?_
  rcases Nat.lt_or_ge i m with hi | hi
  · have h1 := (List.all_eq_true.1 h) i (List.mem_range.2 hi)
    simp only [Bool.and_eq_true, decide_eq_true_eq, Bool.not_eq_true', decide_eq_false_iff_not] at h1
    obtain ⟨⟨⟨⟨a1, a2⟩, a3⟩, a4⟩, a5⟩ := h1
    have hl := pr_len
    rw [List.getElem?_map, List.getElem?_take, if_pos hi, List.getElem?_eq_getElem (by omega), List.getElem?_eq_getElem (show i < H.length by omega), Option.map_some]
    have e1 : PR64.getD i 0 = PR64[i]'(by omega) := getD_of (List.getElem?_eq_getElem _)
    have e2 : H.getD i 0 = H[i]'(by omega) := getD_of (List.getElem?_eq_getElem _)
    rw [e1] at a1 a2 a3 a4
    rw [e2] at a5
    rw [rootP_is _ n _ hn a1 a2 a3 a4, a5]
  · rw [List.getElem?_eq_none (by rw [List.length_map, List.length_take]; omega), List.getElem?_eq_none (by omega)]
theorem sq_roots : (PR64.take 8).map (fun p => rootP p 2) = H0 := roots_ok 8 2 RT2 (.inl rfl) H0 (by decide) H0_len (by kernel_rfl)
theorem cb_roots : (PR64.take 64).map (fun p => rootP p 3) = K0 := roots_ok 64 3 RT3 (.inr rfl) K0 (by decide) K0_len (by kernel_rfl)
end Go.Proofs.Ytmbkbehccmadfaa
