/-
  cert: object identifiers: what is read is written as it was (the plain words of XBkA), and strange ones.
-/
import Derived.Test.YtomolfdcdmncoaaCfV
namespace Go.Proofs.Ytomolfdcdmncoaa
open Go.RowKit Go
set_option linter.unusedVariables false
set_option linter.unusedSimpArgs false
set_option maxRecDepth 100000
/-! ### numbers of seven bits a byte -/
theorem u8_small (v : Nat) (h : v < 256) : (UInt8.ofNat v).toNat = v := by rw [UInt8.toNat_ofNat']; omega
theorem numG_sevC : ∀ (k y : Nat) (tail : List UInt8), y ≤ k → y ≠ 0 → y ≤ 144115188075855871 → numG (sevC y ++ tail) 0 0 = numG tail y (sevC y).length ∧ (sevC y).length ≠ 0
  | 0, y, tail, h1, h2, _ => by omega
  | k + 1, y, tail, h1, h2, h3 => by
    rw [sevC_pos h2]
    have hb : (UInt8.ofNat (128 + y % 128)).toNat = 128 + y % 128 := u8_small _ (by omega)
    refine ⟨?_, by simp⟩
    rw [List.append_assoc]
    by_cases h0 : y / 128 = 0
    · rw [h0, sevC_zero]
      simp only [List.nil_append, List.cons_append, List.length_cons, List.length_nil]
      rw [numG_cons, hb, if_neg (by omega), if_neg (by omega)]
      congr 1
      omega
    · obtain ⟨e1, e2⟩ := numG_sevC k (y / 128) ([UInt8.ofNat (128 + y % 128)] ++ tail) (by omega) h0 (by omega)
      rw [e1]
      simp only [List.cons_append, List.nil_append]
      rw [numG_cons, hb, if_neg (by omega), if_neg (by omega)]
      congr 1
      · omega
      · simp
theorem numQ_sev (x : Nat) (rest : List UInt8) (h : x < 18446744073709551616) : numQ (sev x ++ rest) = some (x, (sev x).length) := by
  unfold numQ sev
  have hb : (UInt8.ofNat (x % 128)).toNat = x % 128 := u8_small _ (by omega)
  by_cases h0 : x / 128 = 0
  · rw [h0, sevC_zero]
    simp only [List.nil_append, List.cons_append]
    rw [numG_cons, hb, if_neg (by omega), if_pos (by omega)]
    simp
    omega
  · obtain ⟨e1, e2⟩ := numG_sevC _ (x / 128) ([UInt8.ofNat (x % 128)] ++ rest) (Nat.le_refl _) h0 (by omega)
    rw [List.append_assoc, e1]
    simp only [List.cons_append, List.nil_append]
    rw [numG_cons, hb, if_neg (by omega), if_pos (by omega)]
    simp
    omega
theorem numG_back : ∀ (bs : List UInt8) (x i X N : Nat), numG bs x i = some (X, N) → (i = 0 → x = 0) → (i ≠ 0 → x ≠ 0) → sevC x ++ bs.take (N - i) = sev X ∧ i + 1 ≤ N
  | [], _, _, _, _, h, _, _ => by cases h
  | d :: r, x, i, X, N, h, h1, h2 => by
    rw [numG_cons] at h
    split at h; cases h
    rename_i hc
    split at h
    · rename_i hd
      simp only [Option.some.injEq, Prod.mk.injEq] at h
      obtain ⟨rfl, rfl⟩ := h
      refine ⟨?_, Nat.le_refl _⟩
      rw [Nat.add_sub_cancel_left]
      unfold sev
      rw [show (x * 128 + d.toNat) / 128 = x by omega, show (x * 128 + d.toNat) % 128 = d.toNat by omega, UInt8.ofNat_toNat]
      rfl
    · rename_i hd
      have hdl := d.toNat_lt
      have hx : x * 128 + (d.toNat - 128) ≠ 0 := by
        by_cases hi : i = 0
        · have := h1 hi
          have : d.toNat ≠ 128 := fun e => hc (.inl ⟨hi, e⟩)
          omega
        · have := h2 hi
          omega
      obtain ⟨e1, e2⟩ := numG_back r _ _ _ _ h (fun e => by omega) (fun _ => hx)
      refine ⟨?_, by omega⟩
      rw [sevC_pos hx] at e1
      rw [show (x * 128 + (d.toNat - 128)) / 128 = x by omega, show 128 + (x * 128 + (d.toNat - 128)) % 128 = d.toNat by omega, UInt8.ofNat_toNat] at e1
      rw [← e1, List.append_assoc]
      congr 1
      rw [show N - i = (N - (i + 1)) + 1 by omega, List.take_succ_cons]
      rfl
theorem numQ_back {bs : List UInt8} {X N : Nat} (h : numQ bs = some (X, N)) : sev X = bs.take N := by
  obtain ⟨e, _⟩ := numG_back bs 0 0 X N h (fun _ => rfl) (fun h => absurd rfl h)
  rw [sevC_zero, List.nil_append, Nat.sub_zero] at e
  exact e.symm
theorem numsQ_back : ∀ (k : Nat) (bs : List UInt8) (l : List Nat), bs.length ≤ k → numsQ bs = some l → bs = l.flatMap sev ∧ ∀ x ∈ l, x < 18446744073709551616
  | 0, bs, l, hk, h => by
    obtain rfl : bs = [] := List.length_eq_zero_iff.1 (by omega)
    rw [numsQ_nil] at h
    cases h
    simp
  | k + 1, bs, l, hk, h => by
    by_cases hn : bs = []
    · subst hn
      rw [numsQ_nil] at h
      cases h
      simp
    cases hq : numQ bs with
    | none => rw [numsQ_none hn hq] at h; cases h
    | some p =>
      obtain ⟨x, n⟩ := p
      rw [numsQ_some hq] at h
      obtain ⟨l', h1, rfl⟩ := Option.map_eq_some_iff.1 h
      have hle := numQ_le hq
      obtain ⟨e1, e2⟩ := numsQ_back k (bs.drop n) l' (by rw [List.length_drop]; omega) h1
      refine ⟨?_, fun y hy => ?_⟩
      · rw [List.flatMap_cons, ← e1, numQ_back hq, List.take_append_drop]
      · rcases List.mem_cons.1 hy with rfl | hy
        · exact numQ_lt hq
        · exact e2 y hy
theorem numsQ_sevs : ∀ (l : List Nat), (∀ x ∈ l, x < 18446744073709551616) → numsQ (l.flatMap sev) = some l
  | [], _ => numsQ_nil
  | x :: r, h => by
    have hq := numQ_sev x (r.flatMap sev) (h x (by simp))
    rw [List.flatMap_cons, numsQ_some hq]
    have : (sev x ++ r.flatMap sev).drop (sev x).length = r.flatMap sev := by simp
    rw [this, numsQ_sevs r (fun y hy => h y (by simp [hy]))]
    rfl
theorem oid_back {bs : List UInt8} {l : List Nat} (h : oidQ bs = some l) : putoidQ l = bs := by
  unfold oidQ at h
  split at h
  · rename_i x r hq
    cases h
    obtain ⟨e, hlt⟩ := numsQ_back _ bs _ (Nat.le_refl _) hq
    have hx := hlt x (by simp)
    rw [e]
    simp only [arcs, putoidQ, List.flatMap_cons]
    rw [if_neg (by omega)]
    congr 2
    omega
  · cases h
theorem oid_put {xs : List Nat} (hw : ∀ x ∈ xs, x < 18446744073709551616) (h : putoidQ xs ≠ []) : oidQ (putoidQ xs) = some xs := by
  match xs, hw, h with
  | a :: b :: r, hw, h =>
    simp only [putoidQ] at h ⊢
    split at h
    · exact absurd rfl h
    rename_i hc
    rw [if_neg hc]
    have hb := hw b (by simp)
    have hq := numsQ_sevs ((40 * a + b) :: r) (fun y hy => by
      rcases List.mem_cons.1 hy with rfl | hy
      · omega
      · exact hw y (by simp [hy]))
    rw [List.flatMap_cons] at hq
    unfold oidQ
    rw [hq]
    simp only [arcs, Option.some.injEq, List.cons.injEq, and_true]
    omega
  | [], _, h => exact absurd rfl h
  | [_], _, h => exact absurd rfl h
/-! ### strange identifiers -/
theorem oid_inj {a b : List UInt8} {l : List Nat} (h : oidQ a = some l) (h' : oidQ b = some l) : a = b := (oid_back h).symm.trans (oid_back h')
theorem oid_known {bs : List UInt8} (z : UInt8) (n : Nat) (hz : putoidQ [2, 5, 29, n] = [85, 29, z]) (h : oidQ bs = some [2, 5, 29, n]) : bs = [85, 29, z] := (oid_back h).symm.trans hz
theorem str_fits (xs : List Nat) : (strQ (putoidQ xs)).length ≤ 300 := by
  unfold strQ
  split
  · decide
  · omega
/-- A strange identifier is one, and none of the known. -/
theorem str_oid (xs : List Nat) (hw : ∀ x ∈ xs, x < 18446744073709551616) : ∃ a, oidQ (strQ (putoidQ xs)) = some a ∧ a ≠ [2, 5, 29, 19] ∧ a ≠ [2, 5, 29, 15] ∧ a ≠ [2, 5, 29, 37] := by
  unfold strQ
  split
  · refine ⟨[1, 2, 3], ?_, by decide, by decide, by decide⟩
    have h := oid_put (xs := [1, 2, 3]) (by intro x hx; simp only [List.mem_cons, List.not_mem_nil, or_false] at hx; omega) (by decide +kernel)
    have e : putoidQ [1, 2, 3] = [42, 3] := by decide +kernel
    rw [e] at h
    exact h
  · rename_i hc
    have hn : putoidQ xs ≠ [] := fun e => hc (.inl (by rw [e]; rfl))
    have h := oid_put hw hn
    refine ⟨xs, h, ?_, ?_, ?_⟩
    · rintro rfl
      exact absurd (by decide +kernel) hc
    · rintro rfl
      exact absurd (by decide +kernel) hc
    · rintro rfl
      exact absurd (by decide +kernel) hc
/-- One strange extension. -/
theorem str_one (xs : List Nat) (hw : ∀ x ∈ xs, x < 18446744073709551616) (crit : Bool) (b : List UInt8) (hb : b.length ≤ 2000) : exsV [(strQ (putoidQ xs), crit, b)] = if crit then none else some xt0 := by
  obtain ⟨a, ha, h1, h2, h3⟩ := str_oid xs hw
  have hf := str_fits xs
  unfold exsV
  rw [if_neg (by simp)]
  simp only [List.map_cons, List.map_nil, exE]
  rw [es_other _ crit b a [] [] xt0 ha (by simp) (by omega) (by omega) h1 h2 h3]
  cases crit <;> rfl
/-- The same identifier twice. -/
theorem str_two (xs : List Nat) (hw : ∀ x ∈ xs, x < 18446744073709551616) (b c : List UInt8) (hb : b.length ≤ 2000) (hc : c.length ≤ 2000) : exsV [(strQ (putoidQ xs), false, b), (strQ (putoidQ xs), false, c)] = none := by
  obtain ⟨a, ha, h1, h2, h3⟩ := str_oid xs hw
  have hf := str_fits xs
  unfold exsV
  rw [if_neg (by simp)]
  simp only [List.map_cons, List.map_nil, exE]
  rw [es_other _ false b a _ [] xt0 ha (by simp) (by omega) (by omega) h1 h2 h3]
  simp only [Bool.false_eq_true, if_false]
  exact es_twice _ false c [] _ xt0 (by simp) (by omega) (by omega)
end Go.Proofs.Ytomolfdcdmncoaa
