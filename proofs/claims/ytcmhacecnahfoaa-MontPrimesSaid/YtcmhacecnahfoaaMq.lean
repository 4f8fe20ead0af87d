/-
  Primes: Fermat's theorem; four primes, each less 1 a power of two.
-/
import Derived.Test.YtcmhacecnahfoaaMa
import Derived.WalkKit
namespace Go.Proofs.Ytcmhacecnahfoaa
open Go.RowKit Go
set_option linter.unusedVariables false
set_option linter.unusedSimpArgs false
set_option maxRecDepth 100000
set_option exponentiation.threshold 600
/-- Primes. -/
def Pr (p : Nat) : Prop := 2 ≤ p ∧ ∀ d, d ∣ p → d = 1 ∨ d = p
theorem Pr.coprime {p k : Nat} (h : Pr p) (hk : ¬ p ∣ k) : Nat.Coprime p k := by
  rcases h.2 _ (Nat.gcd_dvd_left p k) with h1 | h1
  · exact h1
  · exact absurd (h1 ▸ Nat.gcd_dvd_right p k) hk
theorem Pr.mul {p a b : Nat} (h : Pr p) (hd : p ∣ a * b) : p ∣ a ∨ p ∣ b := by
  by_cases ha : p ∣ a
  · exact .inl ha
  · exact .inr ((h.coprime ha).dvd_of_dvd_mul_left hd)
/-! Binomial coefficients -/
def ch : Nat → Nat → Nat
  | _, 0 => 1
  | 0, _ + 1 => 0
  | n + 1, k + 1 => ch n k + ch n (k + 1)
theorem ch_zero (n : Nat) : ch n 0 = 1 := by cases n <;> rfl
theorem ch_big : ∀ n k, n < k → ch n k = 0
  | 0, k + 1, _ => rfl
  | n + 1, k + 1, h => by rw [ch, ch_big n k (by omega), ch_big n (k + 1) (by omega)]
theorem ch_self : ∀ n, ch n n = 1
  | 0 => rfl
  | n + 1 => by rw [ch, ch_self n, ch_big n (n + 1) (by omega)]
theorem ch_mul : ∀ n k, (k + 1) * ch (n + 1) (k + 1) = (n + 1) * ch n k
  | 0, 0 => rfl
  | 0, k + 1 => by simp [ch]
  | n + 1, 0 => by
    have h := ch_mul n 0
    have h3 : ch (n + 1 + 1) (0 + 1) = ch (n + 1) 0 + ch (n + 1) (0 + 1) := rfl
    rw [ch_zero] at h h3
    rw [h3, ch_zero]
    omega
  | n + 1, k + 1 => by
    have h1 := ch_mul n k
    have h2 := ch_mul n (k + 1)
    rw [ch]
    have h3 : ch (n + 1) (k + 1) = ch n k + ch n (k + 1) := rfl
    generalize ch (n + 1) (k + 1) = u at *
    generalize ch (n + 1) (k + 1 + 1) = v at *
    generalize ch n k = a at *
    generalize ch n (k + 1) = b at *
    subst h3
    grind
def bs (n x : Nat) : Nat → Nat
  | 0 => 0
  | k + 1 => bs n x k + ch n k * x ^ k
theorem bs_step (n x : Nat) : ∀ k, bs (n + 1) x (k + 1) = x * bs n x k + bs n x (k + 1)
  | 0 => by simp [bs, ch_zero]
  | k + 1 => by
    have h := bs_step n x k
    have h1 : bs (n + 1) x (k + 1 + 1) = bs (n + 1) x (k + 1) + ch (n + 1) (k + 1) * x ^ (k + 1) := rfl
    have h2 : bs n x (k + 1 + 1) = bs n x (k + 1) + ch n (k + 1) * x ^ (k + 1) := rfl
    have h3 : bs n x (k + 1) = bs n x k + ch n k * x ^ k := rfl
    have h4 : ch (n + 1) (k + 1) = ch n k + ch n (k + 1) := rfl
    rw [h1, h, h2, h4, Nat.pow_succ]
    generalize bs n x (k + 1) = A at *
    generalize bs n x k = B at *
    generalize x ^ k = C at *
    grind
theorem binom (x : Nat) : ∀ n, (x + 1) ^ n = bs n x (n + 1)
  | 0 => by simp [bs, ch]
  | n + 1 => by
    rw [Nat.pow_succ, binom x n, bs_step]
    have h : bs n x (n + 1 + 1) = bs n x (n + 1) + ch n (n + 1) * x ^ (n + 1) := rfl
    rw [h, ch_big n (n + 1) (by omega)]
    grind
theorem pr_ch {p : Nat} (h : Pr p) (k : Nat) (h0 : 0 < k) (hk : k < p) : p ∣ ch p k := by
  obtain ⟨n, rfl⟩ : ∃ n, p = n + 1 := ⟨p - 1, by omega⟩
  obtain ⟨j, rfl⟩ : ∃ j, k = j + 1 := ⟨k - 1, by omega⟩
  have h1 := ch_mul n j
  have h2 : n + 1 ∣ (j + 1) * ch (n + 1) (j + 1) := ⟨_, h1⟩
  rcases h.mul h2 with h3 | h3
  · exact absurd (Nat.le_of_dvd (by omega) h3) (by omega)
  · exact h3
theorem pr_bs {p : Nat} (h : Pr p) (x : Nat) : ∀ k, k < p → bs p x (k + 1) % p = 1 % p
  | 0, _ => by simp [bs, ch_zero]
  | k + 1, hk => by
    have h1 : bs p x (k + 1 + 1) = bs p x (k + 1) + ch p (k + 1) * x ^ (k + 1) := rfl
    obtain ⟨c, hc⟩ := pr_ch h (k + 1) (by omega) hk
    rw [h1, hc, Nat.mul_assoc, Nat.add_mul_mod_self_left]
    exact pr_bs h x k (by omega)
theorem Pr.step {p : Nat} (h : Pr p) (x : Nat) : (x + 1) ^ p % p = (x ^ p + 1) % p := by
  obtain ⟨n, hn⟩ : ∃ n, p = n + 1 := ⟨p - 1, by have := h.1; omega⟩
  have h1 := pr_bs h x n (by omega)
  rw [binom]
  have h2 : bs p x (p + 1) = bs p x p + ch p p * x ^ p := rfl
  rw [h2, ch_self, Nat.one_mul]
  rw [show bs p x p = bs p x (n + 1) by rw [← hn]]
  rw [Nat.add_mod, h1, ← Nat.add_mod, Nat.add_comm]
theorem Pr.fermat {p : Nat} (h : Pr p) : ∀ x, x ^ p % p = x % p
  | 0 => by rw [Nat.zero_pow (by have := h.1; omega)]
  | x + 1 => by rw [h.step, Nat.add_mod, Pr.fermat h x, ← Nat.add_mod]
theorem Pr.less {p : Nat} (h : Pr p) (x : Nat) (hx : ¬ p ∣ x) : x ^ (p - 1) % p = 1 := by
  have h1 := h.fermat x
  obtain ⟨n, hn⟩ : ∃ n, p = n + 1 := ⟨p - 1, by have := h.1; omega⟩
  have h2 : 0 < x ^ (p - 1) := Nat.pow_pos (Nat.pos_of_ne_zero fun e => hx (e ▸ Nat.dvd_zero p))
  have h3 : p ∣ x * (x ^ (p - 1) - 1) := by
    rw [Nat.mul_sub, Nat.mul_one]
    have h4 : x * x ^ (p - 1) = x ^ p := by rw [Nat.mul_comm, ← Nat.pow_succ]; congr 1; omega
    rw [h4]
    exact Nat.dvd_of_mod_eq_zero (Nat.sub_mod_eq_zero_of_mod_eq h1)
  rcases h.mul h3 with h4 | h4
  · exact absurd h4 hx
  · obtain ⟨c, hc⟩ := h4
    have h5 : x ^ (p - 1) = 1 + p * c := by omega
    rw [h5, Nat.add_mul_mod_self_left, Nat.mod_eq_of_lt h.1]

/-! Holes for pigeons -/
theorem pigeon : ∀ (m n : Nat) (f : Nat → Nat), (∀ i, i < n → f i < m) → (∀ i j, i < j → j < n → f i ≠ f j) → n ≤ m
  | 0, n, f, h1, _ => by
    rcases Nat.eq_zero_or_pos n with h | h
    · omega
    · exact absurd (h1 0 h) (by omega)
  | m + 1, n, f, h1, h2 => by
    rcases Nat.eq_zero_or_pos n with h | h
    · omega
    · have := pigeon m (n - 1) (fun i => if f i = m then f (n - 1) else f i) (fun i hi => by
        by_cases e : f i = m
        · simp only [if_pos e]
          have h3 := h2 i (n - 1) (by omega) (by omega)
          have h4 := h1 (n - 1) (by omega)
          omega
        · simp only [if_neg e]
          have h4 := h1 i (by omega)
          omega) (fun i j hij hj => by
        have q1 := h2 i j hij (by omega)
        have q2 := h2 i (n - 1) (by omega) (by omega)
        have q3 := h2 j (n - 1) (by omega) (by omega)
        show (if f i = m then f (n - 1) else f i) ≠ (if f j = m then f (n - 1) else f j)
        split <;> split <;> omega)
      omega
/-! Orders -/
theorem least (P : Nat → Prop) (n : Nat) (hn : P n) : ∃ d, P d ∧ ∀ k, k < d → ¬ P k := by
  induction n using Nat.strongRecOn with
  | ind n ih =>
    by_cases h : ∃ k, k < n ∧ P k
    · obtain ⟨k, h1, h2⟩ := h
      exact ih k h1 h2
    · exact ⟨n, hn, fun k hk hp => h ⟨k, hk, hp⟩⟩
theorem pow_one_mod {a r n : Nat} (h : a ^ n % r = 1 % r) (k : Nat) : a ^ (n * k) % r = 1 % r := by
  rw [Nat.pow_mul, Nat.pow_mod, h, ← Nat.pow_mod, Nat.one_pow]
/-- The order of a by r. -/
theorem order_of (a r n : Nat) (hr : 2 ≤ r) (hn : 0 < n) (h : a ^ n % r = 1) : ∃ d, 0 < d ∧ a ^ d % r = 1 ∧ d ≤ r ∧ ∀ m, a ^ m % r = 1 → d ∣ m := by
  have h1 : 1 % r = 1 := Nat.mod_eq_of_lt hr
  obtain ⟨d, ⟨d0, d1⟩, d2⟩ := least (fun k => 0 < k ∧ a ^ k % r = 1) n ⟨hn, h⟩
  have hdvd : ∀ m, a ^ m % r = 1 → d ∣ m := fun m hm => by
    have e := Nat.div_add_mod m d
    have hlt := Nat.mod_lt m d0
    have h2 := pow_one_mod (r := r) (n := d) (a := a) (by rw [d1, h1]) (m / d)
    rcases Nat.eq_zero_or_pos (m % d) with h3 | h3
    · exact Nat.dvd_of_mod_eq_zero h3
    · exact absurd ⟨h3, by
        rw [← e, Nat.pow_add, Nat.mul_mod, h2, h1, Nat.one_mul, Nat.mod_mod] at hm
        exact hm⟩ (d2 _ hlt)
  refine ⟨d, d0, d1, ?_, hdvd⟩
  refine pigeon r d (fun i => a ^ i % r) (fun i _ => Nat.mod_lt _ (by omega)) (fun i j hij hj he => ?_)
  -- a^i = a^j: multiply by a^(d - i)
  have h2 : a ^ (d - i) * a ^ i % r = 1 := by rw [← Nat.pow_add, show d - i + i = d by omega]; exact d1
  have h3 : a ^ (d - i) * a ^ j % r = 1 := by
    rw [Nat.mul_mod, ← he, ← Nat.mul_mod]; exact h2
  rw [← Nat.pow_add, show d - i + j = d + (j - i) by omega, Nat.pow_add, Nat.mul_mod, d1, Nat.one_mul, Nat.mod_mod] at h3
  exact d2 (j - i) (by omega) ⟨by omega, h3⟩
theorem prime_factor (n : Nat) (hn : 2 ≤ n) : ∃ r, Pr r ∧ r ∣ n ∧ ∀ d, 2 ≤ d → d ∣ n → r ≤ d := by
  obtain ⟨r, ⟨r1, r2⟩, r3⟩ := least (fun k => 2 ≤ k ∧ k ∣ n) n ⟨hn, Nat.dvd_refl n⟩
  have hmin : ∀ d, 2 ≤ d → d ∣ n → r ≤ d := fun d h1 h2 => by
    rcases Nat.lt_or_ge d r with h | h
    · exact absurd ⟨h1, h2⟩ (r3 d h)
    · exact h
  refine ⟨r, ⟨r1, fun d hd => ?_⟩, r2, hmin⟩
  have hd0 : 0 < d := Nat.pos_of_dvd_of_pos hd (by omega)
  have hdr := Nat.le_of_dvd (by omega) hd
  rcases Nat.lt_or_ge d 2 with h | h
  · exact .inl (by omega)
  · exact .inr (Nat.le_antisymm hdr (hmin d h (Nat.dvd_trans hd r2)))
/-- A product of primes. -/
def prodL : List Nat → Nat
  | [] => 1
  | q :: l => q * prodL l
theorem pr_in : ∀ (l : List Nat) (s : Nat), Pr s → (∀ q ∈ l, Pr q) → s ∣ prodL l → s ∈ l
  | [], s, hs, _, h => by
    have := Nat.le_of_dvd (by decide) h
    have := hs.1
    exact absurd this (by simp [prodL] at *; omega)
  | q :: l, s, hs, hl, h => by
    rcases hs.mul h with h1 | h1
    · rcases (hl q (by simp)).2 s h1 with h2 | h2
      · have := hs.1; omega
      · simp [h2]
    · exact List.mem_cons_of_mem _ (pr_in l s hs (fun q hq => hl q (by simp [hq])) h1)
theorem pocklington (p a : Nat) (L : List Nat) (hp : 2 ≤ p) (hL : ∀ q ∈ L, Pr q) (hF : prodL L ∣ p - 1) (hbig : p < prodL L * prodL L) (ha : a ^ (p - 1) % p = 1) (hq : ∀ q ∈ L, Nat.gcd (a ^ ((p - 1) / q) % p + (p - 1)) p = 1) : Pr p := by
  obtain ⟨r, r1, r2, r3⟩ := prime_factor p hp
  -- the order of a by r
  have hr1 : 1 % r = 1 := Nat.mod_eq_of_lt r1.1
  have har : a ^ (p - 1) % r = 1 := by
    have := congrArg (· % r) ha
    simp only [Nat.mod_mod_of_dvd _ r2] at this
    rw [this, hr1]
  obtain ⟨d, d0, d1, d2, d3⟩ := order_of a r (p - 1) r1.1 (by omega) har
  obtain ⟨k, hk⟩ := d3 _ har
  have hcop : Nat.gcd (prodL L) k = 1 := by
    rcases Nat.lt_or_ge 1 (Nat.gcd (prodL L) k) with h | h
    · obtain ⟨s, s1, s2, _⟩ := prime_factor _ h
      have h1 := pr_in L s s1 hL (Nat.dvd_trans s2 (Nat.gcd_dvd_left _ _))
      obtain ⟨c, hc⟩ := Nat.dvd_trans s2 (Nat.gcd_dvd_right (prodL L) k)
      have h2 : (p - 1) / s = d * c := by
        rw [hk, hc, Nat.mul_left_comm, Nat.mul_div_cancel_left _ (by have := s1.1; omega)]
      have h3 : a ^ ((p - 1) / s) % r = 1 := by rw [h2, pow_one_mod (by rw [d1, hr1]), hr1]
      have h4 := hq s h1
      have h5 : r ∣ a ^ ((p - 1) / s) % p + (p - 1) := by
        obtain ⟨e, he⟩ := r2
        have h6 : a ^ ((p - 1) / s) % p % r = 1 := by rw [Nat.mod_mod_of_dvd _ ⟨e, he⟩, h3]
        have h7 := Nat.div_add_mod (a ^ ((p - 1) / s) % p) r
        rw [h6] at h7
        refine ⟨a ^ ((p - 1) / s) % p / r + e, ?_⟩
        rw [Nat.mul_add, ← he]
        omega
      have h8 := Nat.dvd_gcd h5 r2
      rw [h4] at h8
      have := Nat.le_of_dvd (by decide) h8
      have := r1.1
      omega
    · have : Nat.gcd (prodL L) k ≠ 0 := fun e => by
        have := Nat.eq_zero_of_gcd_eq_zero_right e
        rw [this, Nat.mul_zero] at hk
        omega
      omega
  have hFd : prodL L ∣ d := by
    rw [hk] at hF
    exact Nat.Coprime.dvd_of_dvd_mul_right hcop hF
  have hFr : prodL L ≤ r := Nat.le_trans (Nat.le_of_dvd d0 hFd) d2
  -- so the least factor is above the root
  refine ⟨hp, fun e he => ?_⟩
  obtain ⟨f, hf⟩ := he
  rcases Nat.lt_or_ge e 2 with h | h
  · rcases Nat.eq_zero_or_pos e with h0 | h0
    · rw [h0, Nat.zero_mul] at hf; omega
    · exact .inl (by omega)
  · rcases Nat.lt_or_ge f 2 with h' | h'
    · right
      rcases Nat.eq_zero_or_pos f with h0 | h0
      · rw [h0, Nat.mul_zero] at hf; omega
      · rw [hf, show f = 1 by omega, Nat.mul_one]
    · exfalso
      have e1 := r3 e h ⟨f, hf⟩
      have e2 := r3 f h' ⟨e, by rw [hf, Nat.mul_comm]⟩
      have e3 : prodL L * prodL L ≤ e * f := Nat.mul_le_mul (by omega) (by omega)
      omega
/-- No divisor from lo on, 2^k of them. -/
def noneB (n : Nat) : Nat → Nat → Bool
  | 0, lo => !(n % lo == 0)
  | k + 1, lo => noneB n k lo && noneB n k (lo + 2 ^ k)
theorem none_of (n : Nat) : ∀ k lo, noneB n k lo = true → ∀ d, lo ≤ d → d < lo + 2 ^ k → ¬ d ∣ n
  | 0, lo, h, d, h1, h2, hd => by
    have : d = lo := by omega
    subst this
    rw [noneB, Nat.mod_eq_zero_of_dvd hd] at h
    cases h
  | k + 1, lo, h, d, h1, h2, hd => by
    rw [noneB, Bool.and_eq_true] at h
    rw [Nat.pow_succ] at h2
    rcases Nat.lt_or_ge d (lo + 2 ^ k) with h3 | h3
    · exact none_of n k lo h.1 d h1 h3 hd
    · exact none_of n k _ h.2 d h3 (by omega) hd
theorem pr_of (n k : Nat) (hn : 2 ≤ n) (hk : n < (2 + 2 ^ k) * (2 + 2 ^ k)) (hb : noneB n k 2 = true) (hlt : 2 + 2 ^ k ≤ n) : Pr n := by
  refine ⟨hn, fun e he => ?_⟩
  obtain ⟨f, hf⟩ := he
  have h9 := none_of n k 2 hb
  rcases Nat.lt_or_ge e 2 with h | h
  · rcases Nat.eq_zero_or_pos e with h0 | h0
    · rw [h0, Nat.zero_mul] at hf; omega
    · exact .inl (by omega)
  · rcases Nat.lt_or_ge f 2 with h' | h'
    · right
      rcases Nat.eq_zero_or_pos f with h0 | h0
      · rw [h0, Nat.mul_zero] at hf; omega
      · rw [hf, show f = 1 by omega, Nat.mul_one]
    · exfalso
      have e1 : 2 + 2 ^ k ≤ e := by
        rcases Nat.lt_or_ge e (2 + 2 ^ k) with h3 | h3
        · exact absurd ⟨f, hf⟩ (h9 e h h3)
        · exact h3
      have e2 : 2 + 2 ^ k ≤ f := by
        rcases Nat.lt_or_ge f (2 + 2 ^ k) with h3 | h3
        · exact absurd ⟨e, by rw [hf, Nat.mul_comm]⟩ (h9 f h' h3)
        · exact h3
      have e3 := Nat.mul_le_mul e1 e2
      omega
/-- A square's rest, times a, if so asked. -/
def sqQ (a m h e : Nat) : Nat := match e % 2 with
  | 0 => h * h % m
  | _ + 1 => h * h % m * a % m
/-- A power's rest, bit by bit. -/
def pmQ (a m : Nat) : Nat → Nat → Nat
  | 0, _ => 1 % m
  | k + 1, e => match pmQ a m k (e / 2) with
    | 0 => sqQ a m 0 e
    | h + 1 => sqQ a m (h + 1) e
theorem pmQ_eq (a m : Nat) : ∀ k e, e < 2 ^ k → pmQ a m k e = a ^ e % m
  | 0, e, h => by
    have : e = 0 := by simp at h; omega
    subst this
    rfl
  | k + 1, e, h => by
    have h1 : pmQ a m (k + 1) e = sqQ a m (pmQ a m k (e / 2)) e := by
      show (match pmQ a m k (e / 2) with | 0 => sqQ a m 0 e | h + 1 => sqQ a m (h + 1) e) = _
      cases pmQ a m k (e / 2) <;> rfl
    rw [h1, pmQ_eq a m k (e / 2) (by rw [Nat.pow_succ] at h; omega)]
    have h2 : (a ^ (e / 2) % m) * (a ^ (e / 2) % m) % m = a ^ (2 * (e / 2)) % m := by
      rw [← Nat.mul_mod, ← Nat.pow_add]
      congr 2
      omega
    unfold sqQ
    rcases Nat.mod_two_eq_zero_or_one e with h3 | h3
    · rw [h3]
      show (a ^ (e / 2) % m) * (a ^ (e / 2) % m) % m = _
      rw [h2, show 2 * (e / 2) = e by omega]
    · rw [h3]
      show (a ^ (e / 2) % m) * (a ^ (e / 2) % m) % m * a % m = _
      rw [h2, Nat.mod_mul_mod, ← Nat.pow_succ, show (2 * (e / 2)).succ = e by omega]
def certB (p a nb : Nat) (L : List Nat) : Bool :=
  Nat.blt p (prodL L * prodL L) && Nat.beq ((p - 1) % prodL L) 0 && Nat.blt p (2 ^ nb) && Nat.ble 2 p && Nat.beq (pmQ a p nb (p - 1)) 1 && L.all (fun q => Nat.beq (Nat.gcd (pmQ a p nb ((p - 1) / q) + (p - 1)) p) 1)
theorem pr_cert (p a nb : Nat) (L : List Nat) (hL : ∀ q ∈ L, Pr q) (h : certB p a nb L = true) : Pr p := by
  unfold certB at h
  simp only [Bool.and_eq_true, List.all_eq_true] at h
  obtain ⟨⟨⟨⟨⟨h1, h2⟩, h3⟩, h4⟩, h5⟩, h6⟩ := h
  have h1 : p < prodL L * prodL L := Nat.le_of_ble_eq_true h1
  have h3 : p < 2 ^ nb := Nat.le_of_ble_eq_true h3
  have h4 : 2 ≤ p := Nat.le_of_ble_eq_true h4
  refine pocklington p a L h4 hL (Nat.dvd_of_mod_eq_zero (Nat.eq_of_beq_eq_true h2)) h1 ?_ (fun q hq => ?_)
  · rw [← pmQ_eq a p nb _ (by omega)]
    exact Nat.eq_of_beq_eq_true h5
  · have h7 := Nat.eq_of_beq_eq_true (h6 q hq)
    rw [pmQ_eq a p nb _ (by have := Nat.div_le_self (p - 1) q; omega)] at h7
    exact h7
def primesB (l : List (Nat × Nat)) : Bool := l.all (fun q => Nat.ble (2 + 2 ^ q.2) q.1 && Nat.blt q.1 ((2 + 2 ^ q.2) * (2 + 2 ^ q.2)) && noneB q.1 q.2 2)
theorem primes_of (l : List (Nat × Nat)) (h : primesB l = true) : ∀ q ∈ l.map Prod.fst, Pr q := by
  intro q hq
  obtain ⟨⟨n, k⟩, h1, rfl⟩ := List.mem_map.1 hq
  unfold primesB at h
  rw [List.all_eq_true] at h
  have h2 := h _ h1
  simp only [Bool.and_eq_true] at h2
  obtain ⟨⟨h3, h4⟩, h5⟩ := h2
  have h3 : 2 + 2 ^ k ≤ n := Nat.le_of_ble_eq_true h3
  have h4 : n < (2 + 2 ^ k) * (2 + 2 ^ k) := Nat.le_of_ble_eq_true h4
  exact pr_of n k (Nat.le_trans (Nat.le_add_right 2 _) h3) h4 h5 h3
theorem pr_2 : Pr 2 := ⟨by decide, fun d h => by
  have := Nat.le_of_dvd (by decide) h
  have : d ≠ 0 := fun e => by subst e; exact absurd h (by decide)
  omega⟩
theorem pr_3 : Pr 3 := ⟨by decide, fun d h => by
  have := Nat.le_of_dvd (by decide) h
  have : d ≠ 0 := fun e => by subst e; exact absurd h (by decide)
  have : d ≠ 2 := fun e => by subst e; exact absurd h (by decide)
  omega⟩
theorem primes_cons (F : List Nat) (l : List (Nat × Nat)) (hF : ∀ q ∈ F, q = 2 ∨ q = 3) (h : primesB l = true) : ∀ q ∈ F ++ l.map Prod.fst, Pr q := by
  intro q hq
  rcases List.mem_append.1 hq with h1 | h1
  · rcases hF q h1 with rfl | rfl
    · exact pr_2
    · exact pr_3
  · exact primes_of l h q h1
theorem pr_31 : Pr (2 ^ 31 - 1) := pr_cert (2 ^ 31 - 1) 7 31 ([2, 3, 3] ++ List.map Prod.fst [(7, 0), (11, 1), (31, 2), (151, 4)]) (primes_cons [2, 3, 3] [(7, 0), (11, 1), (31, 2), (151, 4)] (by decide) (by kernel_rfl)) (by kernel_rfl)
theorem pr_61 : Pr (2 ^ 61 - 1) := pr_cert (2 ^ 61 - 1) 29 61 ([2, 3, 3] ++ List.map Prod.fst [(5, 0), (5, 0), (7, 0), (11, 1), (13, 1), (31, 2), (41, 3), (61, 3)]) (primes_cons [2, 3, 3] [(5, 0), (5, 0), (7, 0), (11, 1), (13, 1), (31, 2), (41, 3), (61, 3)] (by decide) (by kernel_rfl)) (by kernel_rfl)
theorem pr_127 : Pr (2 ^ 127 - 1) := pr_cert (2 ^ 127 - 1) 43 127 ([2, 3, 3, 3] ++ List.map Prod.fst [(7, 0), (7, 0), (19, 2), (43, 3), (73, 3), (127, 4), (337, 5), (5419, 7), (92737, 9)]) (primes_cons [2, 3, 3, 3] [(7, 0), (7, 0), (19, 2), (43, 3), (73, 3), (127, 4), (337, 5), (5419, 7), (92737, 9)] (by decide) (by kernel_rfl)) (by kernel_rfl)
theorem pr_521 : Pr (2 ^ 521 - 1) := pr_cert (2 ^ 521 - 1) 3 521 ([2, 3] ++ List.map Prod.fst [(5, 0), (5, 0), (11, 1), (17, 2), (31, 2), (41, 3), (53, 3), (131, 4), (157, 4), (521, 5), (1613, 6), (2731, 6), (8191, 7), (42641, 8), (51481, 8), (61681, 8), (409891, 10), (858001, 10), (5746001, 12), (7623851, 12), (34110701, 13), (308761441, 15)]) (primes_cons [2, 3] [(5, 0), (5, 0), (11, 1), (17, 2), (31, 2), (41, 3), (53, 3), (131, 4), (157, 4), (521, 5), (1613, 6), (2731, 6), (8191, 7), (42641, 8), (51481, 8), (61681, 8), (409891, 10), (858001, 10), (5746001, 12), (7623851, 12), (34110701, 13), (308761441, 15)] (by decide) (by kernel_rfl)) (by kernel_rfl)
end Go.Proofs.Ytcmhacecnahfoaa
