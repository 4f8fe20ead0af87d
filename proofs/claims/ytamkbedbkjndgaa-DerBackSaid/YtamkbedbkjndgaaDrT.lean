/-
  der: split, where the length has bytes of its own; split of any bytes.
-/
import Derived.Test.YtamkbedbkjndgaaDrS
namespace Go.Proofs.Ytamkbedbkjndgaa
open Go.RowKit Go
set_option linter.unusedVariables false
set_option maxRecDepth 100000
theorem split_z (b off n c : Nat) (bs : List UInt8) (w : World) (hn : n ≤ 140737488355328) (p q z : UInt8) (k : Nat) (h0 : w.cell? ⟨b, off, none⟩ = some (.int .u8 (p.toNat : Int))) (hp : p.toNat % 32 ≠ 31)
    (h1 : w.cell? ⟨b, off + 1, none⟩ = some (.int .u8 (q.toNat : Int))) (hq : q.toNat = 128 + k) (hk1 : 1 ≤ k) (hk4 : k ≤ 4) (hkn : 2 + k ≤ n)
    (h2 : w.cell? ⟨b, off + 2, none⟩ = some (.int .u8 (z.toNat : Int))) (hz : z.toNat = 0) (h : splitQ bs = none) :
    Calls Try.prog 45 #[.slice (some ⟨b, off, none⟩) n c] w (SplitPost w bs) := by
  have H := Lib.hid h
  clear h
  have ha := and31 p
  have hp31 : ((p.toNat : Int) % 32 == 31) = false := by simp; omega
  have hqk : (q.toNat : Int) - 128 = (k : Int) := by omega
  have hq1 : (128 : Int) ≤ (q.toNat : Int) := by omega
  have hq2 : (q.toNat : Int) ≤ 132 := by omega
  have hz2 : ((z.toNat : Int) == 0) = true := by simp; omega
  clear hq
  go_enter Try.func45, Try.ntmps45
  go_wp2
  go_ret3
  exact split_no H.out 0 rfl
theorem split_long (b off n c : Nat) (bs : List UInt8) (w : World) (hn : n ≤ 140737488355328) (p q z : UInt8) (k : Nat) (h0 : w.cell? ⟨b, off, none⟩ = some (.int .u8 (p.toNat : Int))) (hp : p.toNat % 32 ≠ 31)
    (h1 : w.cell? ⟨b, off + 1, none⟩ = some (.int .u8 (q.toNat : Int))) (hq : q.toNat = 128 + k) (hk1 : 1 ≤ k) (hk4 : k ≤ 4) (hkn : 2 + k ≤ n) (hnc : n ≤ c)
    (h2 : w.cell? ⟨b, off + 2, none⟩ = some (.int .u8 (z.toNat : Int))) (hz : z.toNat ≠ 0)
    (hc : ∀ j, j < k → ∃ y : UInt8, (bs.drop 2)[j]? = some y ∧ w.cell? ⟨b, off + 2 + j, none⟩ = some (.int .u8 (y.toNat : Int))) (M : Nat) (hM : beN ((bs.drop 2).take k) = M)
    (h : splitQ bs = if M < 128 ∨ n - 2 - k < M then none else some (2 + k, 2 + k + M)) :
    Calls Try.prog 45 #[.slice (some ⟨b, off, none⟩) n c] w (SplitPost w bs) := by
  have H := Lib.hid h
  have HC := Lib.hid hc
  have HM := Lib.hid hM
  clear h hc hM
  have ha := and31 p
  have hp31 : ((p.toNat : Int) % 32 == 31) = false := by simp; omega
  have hqk : (q.toNat : Int) - 128 = (k : Int) := by omega
  have hq1 : (128 : Int) ≤ (q.toNat : Int) := by omega
  have hq2 : (q.toNat : Int) ≤ 132 := by omega
  have hz2 : ((z.toNat : Int) == 0) = false := by simp; omega
  clear hq
  go_enter Try.func45, Try.ntmps45
  go_wp2
  go_loop [6, 65] (fun x i => ∃ j X : Nat, j ≤ k ∧ i = .int .i64 j ∧ x = .int .i64 X ∧ Hid (X = beN ((bs.drop 2).take j)) ∧ X < 256 ^ j) (fun _ i => k - (intOf i).toNat)
  case atStart => exact ⟨0, 0, Nat.zero_le _, rfl, rfl, rfl, by decide⟩
  case round =>
    obtain ⟨j, X, hj, rfl, rfl, HX, hX⟩ := hrel
    have hX4 : X < 256 ^ k := Nat.lt_of_lt_of_le hX (Nat.pow_le_pow_right (by decide) hj)
    have hX5 : X < 256 ^ 4 := Nat.lt_of_lt_of_le hX4 (Nat.pow_le_pow_right (by decide) hk4)
    have hX6 : X < 4294967296 := by simpa using hX5
    clear hX4 hX5
    by_cases hlt : j < k
    · obtain ⟨y, hy, hcell⟩ := HC.out j hlt
      have hX3 : X < 256 ^ 3 := Nat.lt_of_lt_of_le hX (Nat.pow_le_pow_right (by decide) (by omega))
      have hX7 : X < 16777216 := by simpa using hX3
      clear hX3
      have hyb : (y.toNat : Int) ≤ 255 := by have := y.toNat_lt; omega
      have hor := or8i (X : Int) y (by omega) (by omega)
      have HN : Hid (X * 256 + y.toNat = beN ((bs.drop 2).take (j + 1))) := by
        have hj2 : j < (bs.drop 2).length := by
          rcases Nat.lt_or_ge j (bs.drop 2).length with h | h
          · exact h
          · rw [List.getElem?_eq_none h] at hy; cases hy
        have ht : (bs.drop 2).take (j + 1) = (bs.drop 2).take j ++ [y] := by
          rw [List.take_add_one, hy]; rfl
        unfold Hid
        rw [ht, beN_snoc, ← HX.out]
      have HP : X * 256 + y.toNat < 256 ^ (j + 1) := by
        rw [Nat.pow_succ]; omega
      have HP := Lib.hid HP
      clear hy hX
      go_wp2
      go_round
      case rel => exact ⟨j + 1, X * 256 + y.toNat, by omega, by go_num, by go_num, HN, HP.out⟩
      case measure => simp [intOf]; omega
    · obtain rfl : j = k := by omega
      obtain rfl : X = M := HX.out.trans HM.out
      clear hX
      by_cases m1 : X < 128
      · go_wp2
        go_ret3
        exact split_no (H.out.trans (if_pos (.inl m1))) 0 rfl
      by_cases m2 : n - 2 - j < X
      · have hi : (n : Int) - 2 - (j : Int) < (X : Int) := by omega
        go_wp2
        go_ret3
        exact split_no (H.out.trans (if_pos (.inr m2))) 0 rfl
      · have hi : (X : Int) ≤ (n : Int) - 2 - (j : Int) := by omega
        go_wp2
        go_ret3
        exact split_yes (s := 2 + j) (t := 2 + j + X) (H.out.trans (if_neg (by omega))) 0 rfl
theorem split_any (A : Option Addr) (n c : Nat) (bs : List UInt8) (w : World) (hR : RB w A n bs) (hnc : n ≤ c) (hn : n ≤ 140737488355328) :
    Calls Try.prog 45 #[.slice A n c] w (SplitPost w bs) := by
  have hl := hR.1
  by_cases h2 : n < 2
  · exact split_s A n c bs w (by unfold splitQ; rw [if_pos (by omega)]) h2
  obtain ⟨b, off, p, rfl, hb, hp, c0⟩ := hR.at_ (k := 0) (by omega)
  obtain ⟨b', off', q, e', _, hq, c1⟩ := hR.at_ (k := 1) (by omega)
  cases e'
  have n0 : nth bs 0 = p.toNat := by unfold nth; rw [List.getD_eq_getElem?_getD, hp]; rfl
  have n1 : nth bs 1 = q.toNat := by unfold nth; rw [List.getD_eq_getElem?_getD, hq]; rfl
  have hqb := q.toNat_lt
  by_cases ht : p.toNat % 32 = 31
  · exact split_t b off n c bs w (by unfold splitQ; rw [n0, if_pos (.inr ht)]) hn (by omega) p c0 ht
  by_cases hs : q.toNat < 128
  · exact split_short b off n c bs w hn (by omega) p q c0 ht c1 hs (by unfold splitQ; rw [n0, n1, hl, if_neg (by omega), if_pos hs])
  by_cases hno : q.toNat = 128 ∨ 132 < q.toNat ∨ n < 2 + (q.toNat - 128)
  · refine split_long_no b off n c bs w hn (by omega) p q c0 ht c1 (by omega) ?_ hno
    unfold splitQ
    rw [n0, n1, hl, if_neg (by omega), if_neg hs, if_pos (by rcases hno with h | h | h; exact .inl h; exact .inr (.inl h); exact .inr (.inr (.inl h)))]
  obtain ⟨k, hk⟩ : ∃ k, q.toNat = 128 + k := ⟨q.toNat - 128, by omega⟩
  have hk' : q.toNat - 128 = k := by omega
  rw [hk'] at hno
  obtain ⟨b', off', z, e', _, hz, c2⟩ := hR.at_ (k := 2) (by omega)
  cases e'
  have n2 : nth bs 2 = z.toNat := by unfold nth; rw [List.getD_eq_getElem?_getD, hz]; rfl
  by_cases hz0 : z.toNat = 0
  · refine split_z b off n c bs w hn p q z k c0 ht c1 hk (by omega) (by omega) (by omega) c2 hz0 ?_
    unfold splitQ
    rw [n0, n1, n2, hl, if_neg (by omega), if_neg hs, if_pos (.inr (.inr (.inr hz0)))]
  · refine split_long b off n c bs w hn p q z k c0 ht c1 hk (by omega) (by omega) (by omega) hnc c2 hz0 (fun j hj => ?_) _ rfl ?_
    · obtain ⟨b', off', y, e', _, hy, cy⟩ := hR.at_ (k := 2 + j) (by omega)
      cases e'
      exact ⟨y, by rw [List.getElem?_drop]; exact hy, by rw [Nat.add_assoc]; exact cy⟩
    · unfold splitQ
      rw [n0, n1, n2, hl, if_neg (by omega), if_neg hs, if_neg (by omega), hk']
end Go.Proofs.Ytamkbedbkjndgaa
