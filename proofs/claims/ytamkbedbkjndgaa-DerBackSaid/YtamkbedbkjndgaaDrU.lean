/-
  der: number, of seven bits a byte; withoutNoughts.
-/
import Derived.Test.YtamkbedbkjndgaaRef
import Derived.Laws.BitsLemmas
import Derived.Laws.BitsAllLaws
namespace Go.Proofs.Ytamkbedbkjndgaa
open Go.RowKit Go
set_option linter.unusedVariables false
set_option maxRecDepth 100000
/-- The number of seven bits a byte with which bytes begin, and how many bytes it has. -/
def numG : List UInt8 → Nat → Nat → Option (Nat × Nat)
  | [], _, _ => none
  | d :: r, x, i => if (i = 0 ∧ d.toNat = 128) ∨ 144115188075855871 < x then none else if d.toNat < 128 then some (x * 128 + d.toNat, i + 1) else numG r (x * 128 + (d.toNat - 128)) (i + 1)
def numQ (bs : List UInt8) : Option (Nat × Nat) := numG bs 0 0
theorem numG_cons (d : UInt8) (r : List UInt8) (x i : Nat) : numG (d :: r) x i = if (i = 0 ∧ d.toNat = 128) ∨ 144115188075855871 < x then none else if d.toNat < 128 then some (x * 128 + d.toNat, i + 1) else numG r (x * 128 + (d.toNat - 128)) (i + 1) := rfl
theorem not128 (d : UInt8) : bits BinOp.andNot IntKind.u8 (d.toNat : Int) 128 = (d.toNat : Int) % 128 := by
  have hd := d.toNat_lt
  have := u8_andNot_nat d.toNat 128 (by omega) (by omega)
  rw [show 255 - 128 = 127 from rfl, nat_mask7] at this
  exact this.trans (by omega)
theorem and128 (d : UInt8) : bits BinOp.and IntKind.u8 (d.toNat : Int) 128 = (d.toNat : Int) / 128 * 128 := by
  have hd := d.toNat_lt
  have := u8_and_nat d.toNat 128 (by omega) (by omega)
  rw [show 128 = 2 ^ 7 from rfl, nat_bit 7] at this
  exact this.trans (by omega)
theorem or7 (X : Int) (d : Int) (h0 : 0 ≤ X) (h1 : X ≤ 144115188075855871) (h2 : 0 ≤ d) (h3 : d < 128) : bits BinOp.or IntKind.u64 (X * 128) d = X * 128 + d :=
  bits_join .u64 64 (by decide) (fun n h₀ h₁ => by rw [IntKind.wrap_u64]; omega) 7 (X * 128) d (by omega) (by omega) (by omega) (by omega) (by omega) (by omega)
def NumPost (w : World) (bs : List UInt8) (e : Ending) (w' : World) : Prop :=
  (match numQ bs with
    | some (x, n) => e = .returned (.tuple #[.int .u64 (x : Nat), .int .i64 (n : Nat), .bool true])
    | none => e = .returned (.tuple #[.int .u64 0, .int .i64 0, .bool false])) ∧ w = w'
theorem num_no {w : World} {bs : List UInt8} (h : numQ bs = none) : NumPost w bs (.returned (.tuple #[.int .u64 0, .int .i64 0, .bool false])) w := by
  unfold NumPost; rw [h]; exact ⟨rfl, rfl⟩
theorem num_yes {w : World} {bs : List UInt8} {x n : Nat} {X N : Int} (h : numQ bs = some (x, n)) (h1 : X = (x : Int)) (h2 : N = (n : Int)) : NumPost w bs (.returned (.tuple #[.int .u64 X, .int .i64 N, .bool true])) w := by
  subst h1; subst h2
  unfold NumPost; rw [h]; exact ⟨rfl, rfl⟩
theorem number_any (A : Option Addr) (n c : Nat) (bs : List UInt8) (w : World) (hR : RB w A n bs) (hn : n ≤ 140737488355328) :
    Calls Try.prog 47 #[.slice A n c] w (NumPost w bs) := by
  have HL := Lib.hid hR.1
  go_enter Try.func47, Try.ntmps47
  go_wp2
  go_loop [2, 9] (fun x i => ∃ j X : Nat, j ≤ n ∧ i = .int .i64 j ∧ x = .int .u64 X ∧ X < 18446744073709551616 ∧ Hid (numQ bs = numG (bs.drop j) X j)) (fun _ i => n - (intOf i).toNat)
  case atStart => exact ⟨0, 0, Nat.zero_le _, rfl, rfl, by decide, rfl⟩
  case round =>
    obtain ⟨j, X, hj, rfl, rfl, hX, HQ⟩ := hrel
    by_cases hlt : j < n
    · obtain ⟨b, off, d, rfl, hb, hd, hcell⟩ := hR.at_ hlt
      have hdb := d.toNat_lt
      have HD : Hid (bs.drop j = d :: bs.drop (j + 1)) := by
        have hj2 : j < bs.length := by rw [HL.out]; exact hlt
        rw [List.getElem?_eq_getElem hj2] at hd
        injection hd with hd
        unfold Hid
        rw [List.drop_eq_getElem_cons hj2, hd]
      clear hd
      have hnot := not128 d
      have hand := and128 d
      have HS : Hid (numQ bs = if (j = 0 ∧ d.toNat = 128) ∨ 144115188075855871 < X then none else if d.toNat < 128 then some (X * 128 + d.toNat, j + 1) else numG (bs.drop (j + 1)) (X * 128 + (d.toNat - 128)) (j + 1)) := by
        have := HQ.out
        rw [HD.out, numG_cons] at this
        exact this
      clear HQ HD
      by_cases hbad : j = 0 ∧ d.toNat = 128
      · obtain ⟨b1, b2⟩ := hbad
        have t1 : ((j : Int) == 0) = true := by simp; omega
        have t2 : ((d.toNat : Int) == 128) = true := by simp; omega
        have HN := Lib.hid (HS.out.trans (if_pos (.inl ⟨b1, b2⟩)))
        clear b1 b2 hX
        go_wp2
        go_ret3
        exact num_no HN.out
      by_cases hbig : 144115188075855871 < X
      · have HN := Lib.hid (HS.out.trans (if_pos (.inr hbig)))
        have hbig2 : (144115188075855871 : Int) < (X : Int) := by omega
        by_cases b1 : j = 0
        · have t1 : ((j : Int) == 0) = true := by simp; omega
          have t2 : ((d.toNat : Int) == 128) = false := by simp; omega
          clear b1 hbad
          go_wp2
          go_ret3
          exact num_no HN.out
        · have t1 : ((j : Int) == 0) = false := by simp; omega
          clear b1 hbad
          go_wp2
          go_ret3
          exact num_no HN.out
      have HN := Lib.hid (HS.out.trans (if_neg (by omega)))
      have hsm : (X : Int) ≤ 144115188075855871 := by omega
      have hor := or7 (X : Int) ((d.toNat : Int) % 128) (by omega) hsm (by omega) (by omega)
      by_cases hend : d.toNat < 128
      · have HN := Lib.hid (HN.out.trans (if_pos hend))
        have z1 : ((d.toNat : Int) / 128 * 128 == 0) = true := by simp; omega
        by_cases b1 : j = 0
        · have t1 : ((j : Int) == 0) = true := by simp; omega
          have t2 : ((d.toNat : Int) == 128) = false := by simp; omega
          clear b1 hbad hbig
          go_wp2
          go_ret3
          exact num_yes HN.out (by omega) (by omega)
        · have t1 : ((j : Int) == 0) = false := by simp; omega
          clear b1 hbad hbig
          go_wp2
          go_ret3
          exact num_yes HN.out (by omega) (by omega)
      · have HN := Lib.hid (HN.out.trans (if_neg hend))
        have z1 : ((d.toNat : Int) / 128 * 128 == 0) = false := by simp; omega
        by_cases b1 : j = 0
        · have t1 : ((j : Int) == 0) = true := by simp; omega
          have t2 : ((d.toNat : Int) == 128) = false := by simp; omega
          clear b1 hbad hbig
          go_wp2
          go_round
          case rel => exact ⟨j + 1, X * 128 + (d.toNat - 128), by omega, by go_num, by congr 1; omega, by omega, HN⟩
          case measure => simp [intOf]; omega
        · have t1 : ((j : Int) == 0) = false := by simp; omega
          clear b1 hbad hbig
          go_wp2
          go_round
          case rel => exact ⟨j + 1, X * 128 + (d.toNat - 128), by omega, by go_num, by congr 1; omega, by omega, HN⟩
          case measure => simp [intOf]; omega
    · obtain rfl : j = n := by omega
      have HN := Lib.hid (show numQ bs = none by
        rw [HQ.out, List.drop_of_length_le (by rw [HL.out]; exact Nat.le_refl _)]; rfl)
      go_wp2
      go_ret3
      exact num_no HN.out
end Go.Proofs.Ytamkbedbkjndgaa
