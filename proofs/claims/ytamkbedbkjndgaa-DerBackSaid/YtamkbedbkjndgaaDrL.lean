/-
  der: the document's length and Parse.
-/
import Derived.Test.YtamkbedbkjndgaaDrF
import Derived.Test.YtamkbedbkjndgaaDrR
namespace Go.Proofs.Ytamkbedbkjndgaa
open Go.RowKit Go
set_option linter.unusedVariables false
set_option maxRecDepth 100000
/-- How many bytes a body has, and how many stand ahead of it. -/
def lenQ (bs : List UInt8) : Option (Nat × Nat) :=
  if bs.length < 2 then none
  else if nth bs 1 < 128 then some (nth bs 1, 2)
  else if nth bs 1 = 128 ∨ 132 < nth bs 1 ∨ bs.length < 2 + (nth bs 1 - 128) ∨ nth bs 2 = 0 then none
  else if beN ((bs.drop 2).take (nth bs 1 - 128)) < 128 then none
  else some (beN ((bs.drop 2).take (nth bs 1 - 128)), 2 + (nth bs 1 - 128))
theorem split_of_len (bs : List UInt8) : splitQ bs = match lenQ bs with
    | none => none
    | some (n, f) => if nth bs 0 % 32 = 31 ∨ bs.length - f < n then none else some (f, f + n) := by
  unfold lenQ splitQ
  by_cases h1 : bs.length < 2
  · rw [if_pos (.inl h1), if_pos h1]
  rw [if_neg h1]
  by_cases h2 : nth bs 0 % 32 = 31
  · rw [if_pos (.inr h2)]
    repeat' split
    all_goals first | rfl | (simp_all)
  rw [if_neg (by omega)]
  by_cases h3 : nth bs 1 < 128
  · rw [if_pos h3, if_pos h3]
    simp only
    by_cases h4 : nth bs 1 ≤ bs.length - 2
    · rw [if_pos h4, if_neg (by omega)]
    · rw [if_neg h4, if_pos (by omega)]
  rw [if_neg h3, if_neg h3]
  by_cases h4 : nth bs 1 = 128 ∨ 132 < nth bs 1 ∨ bs.length < 2 + (nth bs 1 - 128) ∨ nth bs 2 = 0
  · rw [if_pos h4, if_pos h4]
  rw [if_neg h4, if_neg h4]
  by_cases h5 : beN ((bs.drop 2).take (nth bs 1 - 128)) < 128
  · rw [if_pos (.inl h5), if_pos h5]
  rw [if_neg h5]
  simp only
  by_cases h6 : bs.length - 2 - (nth bs 1 - 128) < beN ((bs.drop 2).take (nth bs 1 - 128))
  · rw [if_pos (.inr h6), if_pos (by omega)]
  · rw [if_neg (by omega), if_neg (by omega)]
def LenPost (w : World) (bs : List UInt8) (e : Ending) (w' : World) : Prop :=
  (match lenQ bs with
    | some (n, f) => e = .returned (.tuple #[.int .i64 (n : Nat), .int .i64 (f : Nat), .bool true])
    | none => ∃ s t : Int, e = .returned (.tuple #[.int .i64 s, .int .i64 t, .bool false])) ∧ w = w'
theorem len_no {w : World} {bs : List UInt8} {s t : Int} (h : lenQ bs = none) : LenPost w bs (.returned (.tuple #[.int .i64 s, .int .i64 t, .bool false])) w := by
  unfold LenPost; rw [h]; exact ⟨⟨s, t, rfl⟩, rfl⟩
theorem len_yes {w : World} {bs : List UInt8} {s t : Nat} {S T : Int} (h : lenQ bs = some (s, t)) (h1 : S = (s : Int)) (h2 : T = (t : Int)) : LenPost w bs (.returned (.tuple #[.int .i64 S, .int .i64 T, .bool true])) w := by
  subst h1; subst h2
  unfold LenPost; rw [h]; exact ⟨rfl, rfl⟩
theorem len_any (A : Option Addr) (n c : Nat) (bs : List UInt8) (w : World) (hR : RB w A n bs) (hn : n ≤ 1000000000) :
    Calls Try.prog 50 #[.slice A n c] w (LenPost w bs) := by
  have hl := hR.1
  by_cases h2 : n < 2
  · have HN : Hid (lenQ bs = none) := by unfold Hid lenQ; rw [if_pos (by omega)]
    clear hR hl
    go_enter Try.func50, Try.ntmps50
    go_wp2
    go_ret3
    exact len_no HN.out
  obtain ⟨b, off, q, rfl, hb, hq, c1⟩ := hR.at_ (k := 1) (by omega)
  have n1 : nth bs 1 = q.toNat := by unfold nth; rw [List.getD_eq_getElem?_getD, hq]; rfl
  have hqb := q.toNat_lt
  have hL0 : lenQ bs = if q.toNat < 128 then some (q.toNat, 2) else if q.toNat = 128 ∨ 132 < q.toNat ∨ bs.length < 2 + (q.toNat - 128) ∨ nth bs 2 = 0 then none
      else if beN ((bs.drop 2).take (q.toNat - 128)) < 128 then none else some (beN ((bs.drop 2).take (q.toNat - 128)), 2 + (q.toNat - 128)) := by
    unfold lenQ
    rw [if_neg (by omega), n1]
  have i0 : (2 : Int) ≤ (n : Int) := by omega
  by_cases hs : q.toNat < 128
  · have HN := Lib.hid (hL0.trans (if_pos hs))
    have t1 : (q.toNat : Int) < 128 := by omega
    clear hR hl hq n1 hL0
    go_enter Try.func50, Try.ntmps50
    go_wp2
    go_ret3
    exact len_yes HN.out rfl rfl
  rw [if_neg hs] at hL0
  have t1 : (128 : Int) ≤ (q.toNat : Int) := by omega
  obtain ⟨k, hk⟩ : ∃ k : Nat, q.toNat = 128 + k := ⟨q.toNat - 128, by omega⟩
  have hqk : (q.toNat : Int) - 128 = (k : Int) := by omega
  rw [hk, show 128 + k - 128 = k by omega, hl] at hL0
  have hk8 : k < 128 := by omega
  by_cases hb1 : k < 1 ∨ 4 < k ∨ n < 2 + k
  · have HN := Lib.hid (hL0.trans (if_pos (by omega)))
    clear hR hl hq n1 hL0 hk hs hqb
    by_cases g1 : k < 1
    · clear hb1
      go_enter Try.func50, Try.ntmps50
      go_wp2
      go_ret3
      exact len_no HN.out
    by_cases g2 : 4 < k
    · clear hb1
      go_enter Try.func50, Try.ntmps50
      go_wp2
      go_ret3
      exact len_no HN.out
    · have g3 : (n : Int) < 2 + (k : Int) := by omega
      clear hb1
      go_enter Try.func50, Try.ntmps50
      go_wp2
      go_ret3
      exact len_no HN.out
  have g1 : 1 ≤ k := by omega
  have g2 : k ≤ 4 := by omega
  have g3 : (2 : Int) + (k : Int) ≤ (n : Int) := by omega
  obtain ⟨b', off', z, e', _, hz, c2⟩ := hR.at_ (k := 2) (by omega)
  cases e'
  have n2 : nth bs 2 = z.toNat := by unfold nth; rw [List.getD_eq_getElem?_getD, hz]; rfl
  rw [n2] at hL0
  by_cases hz0 : z.toNat = 0
  · have HN := Lib.hid (hL0.trans (if_pos (by omega)))
    have t2 : ((z.toNat : Int) == 0) = true := by simp; omega
    clear hR hl hq n1 hL0 hk hs hqb hb1 hz n2 hz0
    go_enter Try.func50, Try.ntmps50
    go_wp2
    go_ret3
    exact len_no HN.out
  rw [if_neg (by omega)] at hL0
  have t2 : ((z.toNat : Int) == 0) = false := by simp; omega
  have HL0 := Lib.hid hL0
  have HR := Lib.hid hR
  clear hR hl hq n1 hL0 hk hs hqb hb1 hz n2 hz0
  go_enter Try.func50, Try.ntmps50
  go_wp2
  go_loop [6, 7] (fun x i => ∃ j X : Nat, j ≤ k ∧ i = .int .i64 j ∧ x = .int .i64 X ∧ Hid (X = beN ((bs.drop 2).take j)) ∧ X < 256 ^ j) (fun _ i => k - (intOf i).toNat)
  case atStart => exact ⟨0, 0, Nat.zero_le _, rfl, rfl, rfl, by decide⟩
  case round =>
    obtain ⟨j, X, hj, rfl, rfl, HX, hX⟩ := hrel
    by_cases hlt : j < k
    · obtain ⟨b', off', y, e', _, hy, cy⟩ := HR.out.at_ (k := 2 + j) (by omega)
      cases e'
      have hX3 : X < 256 ^ 3 := Nat.lt_of_lt_of_le hX (Nat.pow_le_pow_right (by decide) (by omega))
      have hX7 : X < 16777216 := by simpa using hX3
      have hyb : (y.toNat : Int) ≤ 255 := by have := y.toNat_lt; omega
      have HN : Hid (X * 256 + y.toNat = beN ((bs.drop 2).take (j + 1))) := by
        have ht : (bs.drop 2).take (j + 1) = (bs.drop 2).take j ++ [y] := by
          rw [List.take_add_one, List.getElem?_drop, hy]; rfl
        unfold Hid
        rw [ht, beN_snoc, ← HX.out]
      have HP : Hid (X * 256 + y.toNat < 256 ^ (j + 1)) := by
        unfold Hid
        rw [Nat.pow_succ]; omega
      clear hy hX hX3
      go_wp2
      go_round
      case rel => exact ⟨j + 1, X * 256 + y.toNat, by omega, by go_num, by go_num, HN, HP.out⟩
      case measure => simp [intOf]; omega
    · obtain rfl : j = k := by omega
      have hX4 : X < 256 ^ 4 := Nat.lt_of_lt_of_le hX (Nat.pow_le_pow_right (by decide) (by omega))
      have hX5 : X < 4294967296 := by simpa using hX4
      clear hX hX4
      by_cases m1 : X < 128
      · have HN := Lib.hid (HL0.out.trans (if_pos (by rw [← HX.out]; exact m1)))
        have t3 : decide ((128 : Int) ≤ (X : Int)) = false := by simp; omega
        go_wp2
        go_ret3
        exact len_no HN.out
      · have HN := Lib.hid (HL0.out.trans (if_neg (by rw [← HX.out]; exact m1)))
        have HN2 : Hid (lenQ bs = some (X, 2 + j)) := by unfold Hid; rw [HN.out, ← HX.out]
        have t3 : decide ((128 : Int) ≤ (X : Int)) = true := by simp; omega
        go_wp2
        go_ret3
        exact len_yes HN2.out rfl (by omega)
end Go.Proofs.Ytamkbedbkjndgaa
