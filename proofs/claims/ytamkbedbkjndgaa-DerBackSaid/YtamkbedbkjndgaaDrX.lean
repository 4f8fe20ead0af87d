/-
  der: Int.
-/
import Derived.Test.YtamkbedbkjndgaaDrW
namespace Go.Proofs.Ytamkbedbkjndgaa
open Go.RowKit Go
set_option linter.unusedVariables false
set_option maxRecDepth 100000
/-- The bytes of a number's body, without noughts ahead; none, if it is no such body. -/
def intQ : List UInt8 → Option (List UInt8)
  | [] => none
  | [d] => if 128 ≤ d.toNat then none else some (trimZ [d])
  | d :: x :: r => if 128 ≤ d.toNat ∨ (d.toNat = 0 ∧ x.toNat < 128) then none else some (trimZ (d :: x :: r))
def IntPost (w : World) (bs : List UInt8) (e : Ending) (w' : World) : Prop :=
  (match intQ bs with
    | some l => ∃ A n c, e = .returned (.tuple #[.slice A n c, .bool true]) ∧ OwnB w' w.heap.size A n c l
    | none => e = .returned (.tuple #[.slice none 0 0, .bool false])) ∧ Below w.heap.size w w'
theorem int_no {w w' : World} {bs : List UInt8} (h : intQ bs = none) (hb : Below w.heap.size w w') : IntPost w bs (.returned (.tuple #[.slice none 0 0, .bool false])) w' := by
  unfold IntPost; rw [h]; exact ⟨rfl, hb⟩
theorem int_yes {w w' : World} {bs l : List UInt8} {A : Option Addr} {n c : Nat} (h : intQ bs = some l) (ho : OwnB w' w.heap.size A n c l) (hb : Below w.heap.size w w') : IntPost w bs (.returned (.tuple #[.slice A n c, .bool true])) w' := by
  unfold IntPost; rw [h]; exact ⟨⟨A, n, c, rfl, ho⟩, hb⟩
theorem int_zero (A : Option Addr) (c : Nat) (w : World) : Calls Try.prog 26 #[.slice A 0 c] w (IntPost w []) := by
  go_enter Try.func26, Try.ntmps26
  go_wp2
  go_ret2
  exact int_no rfl (Below.refl _ _)
theorem int_high (b off n c : Nat) (d : UInt8) (bs : List UInt8) (w : World) (hn : 0 < n) (hn2 : n ≤ 1000000000) (h : intQ bs = none) (h0 : w.cell? ⟨b, off, none⟩ = some (.int .u8 (d.toNat : Int))) (hd : 128 ≤ d.toNat) :
    Calls Try.prog 26 #[.slice (some ⟨b, off, none⟩) n c] w (IntPost w bs) := by
  have H := Lib.hid h
  clear h
  have t0 : ((n : Int) == 0) = false := by simp; omega
  have t1 : (128 : Int) ≤ (d.toNat : Int) := by omega
  go_enter Try.func26, Try.ntmps26
  go_wp2
  go_ret2
  exact int_no H.out (Below.refl _ _)
theorem int_needless (b off n c : Nat) (d x : UInt8) (bs : List UInt8) (w : World) (hn : 1 < n) (hn2 : n ≤ 1000000000) (h : intQ bs = none) (h0 : w.cell? ⟨b, off, none⟩ = some (.int .u8 (d.toNat : Int))) (hd : d.toNat = 0)
    (h1 : w.cell? ⟨b, off + 1, none⟩ = some (.int .u8 (x.toNat : Int))) (hx : x.toNat < 128) :
    Calls Try.prog 26 #[.slice (some ⟨b, off, none⟩) n c] w (IntPost w bs) := by
  have H := Lib.hid h
  clear h
  have t0 : ((n : Int) == 0) = false := by simp; omega
  have t1 : (d.toNat : Int) < 128 := by omega
  have t2 : ((d.toNat : Int) == 0) = true := by simp; omega
  have t3 : (x.toNat : Int) < 128 := by omega
  clear hd
  go_enter Try.func26, Try.ntmps26
  go_wp2
  go_ret2
  exact int_no H.out (Below.refl _ _)
theorem int_nz (b off n c : Nat) (d : UInt8) (bs l : List UInt8) (w : World) (hR : RB w (some ⟨b, off, none⟩) n bs) (hnc : n ≤ c) (hc : c ≤ maxLen) (hcc : c ≤ 9223372036854775807) (hnb : n ≤ 1000000000) (h : intQ bs = some (trimZ bs)) (h0 : w.cell? ⟨b, off, none⟩ = some (.int .u8 (d.toNat : Int))) (hn : 0 < n) (hd : 0 < d.toNat) (hd2 : d.toNat < 128) :
    Calls Try.prog 26 #[.slice (some ⟨b, off, none⟩) n c] w (IntPost w bs) := by
  have H := Lib.hid h
  clear h
  have C := Lib.hid (without_any (some ⟨b, off, none⟩) n c bs w hR hnc hc)
  have hln := hR.1
  have t0 : ((n : Int) == 0) = false := by simp; omega
  have t1 : (d.toNat : Int) < 128 := by omega
  have t2 : ((d.toNat : Int) == 0) = false := by simp; omega
  have HLN := Lib.hid hln
  clear hd hR hln
  go_enter Try.func26, Try.ntmps26
  go_wp2_with fail
  (with_reducible refine C.out.mono ?_)
  rintro e w' ⟨⟨A1, n1, c1, rfl, hR1, hn1, hc1⟩, rfl⟩
  have hn1n : n1 ≤ n := by rw [← hR1.1, ← HLN.out]; exact trimZ_le bs
  have J := Lib.hid (joins_any [(A1, n1, c1, trimZ bs)] 1 #[.slice A1 n1 c1] w w.heap.size rfl rfl (by omega) rfl
    (by intro x hx; simp at hx; subst hx; exact hR1) (by have := hR1.1; simp; omega))
  go_wp2_with fail
  (with_reducible refine J.out.mono ?_)
  rintro e w2 ⟨A2, n2, c2, rfl, hown, hb⟩
  go_wp2
  go_ret2
  exact int_yes H.out (by simpa using hown) hb
theorem int_one (b off n c : Nat) (d : UInt8) (bs l : List UInt8) (w : World) (hR : RB w (some ⟨b, off, none⟩) n bs) (hnc : n ≤ c) (hc : c ≤ maxLen) (hcc : c ≤ 9223372036854775807) (hnb : n ≤ 1000000000) (h : intQ bs = some (trimZ bs)) (h0 : w.cell? ⟨b, off, none⟩ = some (.int .u8 (d.toNat : Int))) (hn : 0 < n) (hn9 : n ≤ 1) (hd : d.toNat = 0) (hd2 : d.toNat < 128) :
    Calls Try.prog 26 #[.slice (some ⟨b, off, none⟩) n c] w (IntPost w bs) := by
  have H := Lib.hid h
  clear h
  have C := Lib.hid (without_any (some ⟨b, off, none⟩) n c bs w hR hnc hc)
  have hln := hR.1
  have t0 : ((n : Int) == 0) = false := by simp; omega
  have t1 : (d.toNat : Int) < 128 := by omega
  have t2 : ((d.toNat : Int) == 0) = true := by simp; omega
  have t3 : (n : Int) ≤ 1 := by omega
  have HLN := Lib.hid hln
  clear hd hR hln
  go_enter Try.func26, Try.ntmps26
  go_wp2_with fail
  (with_reducible refine C.out.mono ?_)
  rintro e w' ⟨⟨A1, n1, c1, rfl, hR1, hn1, hc1⟩, rfl⟩
  have hn1n : n1 ≤ n := by rw [← hR1.1, ← HLN.out]; exact trimZ_le bs
  have J := Lib.hid (joins_any [(A1, n1, c1, trimZ bs)] 1 #[.slice A1 n1 c1] w w.heap.size rfl rfl (by omega) rfl
    (by intro x hx; simp at hx; subst hx; exact hR1) (by have := hR1.1; simp; omega))
  go_wp2_with fail
  (with_reducible refine J.out.mono ?_)
  rintro e w2 ⟨A2, n2, c2, rfl, hown, hb⟩
  go_wp2
  go_ret2
  exact int_yes H.out (by simpa using hown) hb
theorem int_two (b off n c : Nat) (d : UInt8) (bs l : List UInt8) (w : World) (hR : RB w (some ⟨b, off, none⟩) n bs) (hnc : n ≤ c) (hc : c ≤ maxLen) (hcc : c ≤ 9223372036854775807) (hnb : n ≤ 1000000000) (h : intQ bs = some (trimZ bs)) (h0 : w.cell? ⟨b, off, none⟩ = some (.int .u8 (d.toNat : Int))) (hn : 1 < n) (hd : d.toNat = 0) (hd2 : d.toNat < 128) (x : UInt8) (h1 : w.cell? ⟨b, off + 1, none⟩ = some (.int .u8 (x.toNat : Int))) (hx : 128 ≤ x.toNat) :
    Calls Try.prog 26 #[.slice (some ⟨b, off, none⟩) n c] w (IntPost w bs) := by
  have H := Lib.hid h
  clear h
  have C := Lib.hid (without_any (some ⟨b, off, none⟩) n c bs w hR hnc hc)
  have hln := hR.1
  have t0 : ((n : Int) == 0) = false := by simp; omega
  have t1 : (d.toNat : Int) < 128 := by omega
  have t2 : ((d.toNat : Int) == 0) = true := by simp; omega
  have t3 : (128 : Int) ≤ (x.toNat : Int) := by omega
  have HLN := Lib.hid hln
  clear hd hR hln
  go_enter Try.func26, Try.ntmps26
  go_wp2_with fail
  (with_reducible refine C.out.mono ?_)
  rintro e w' ⟨⟨A1, n1, c1, rfl, hR1, hn1, hc1⟩, rfl⟩
  have hn1n : n1 ≤ n := by rw [← hR1.1, ← HLN.out]; exact trimZ_le bs
  have J := Lib.hid (joins_any [(A1, n1, c1, trimZ bs)] 1 #[.slice A1 n1 c1] w w.heap.size rfl rfl (by omega) rfl
    (by intro x hx; simp at hx; subst hx; exact hR1) (by have := hR1.1; simp; omega))
  go_wp2_with fail
  (with_reducible refine J.out.mono ?_)
  rintro e w2 ⟨A2, n2, c2, rfl, hown, hb⟩
  go_wp2
  go_ret2
  exact int_yes H.out (by simpa using hown) hb
theorem int_any (A : Option Addr) (n c : Nat) (bs : List UInt8) (w : World) (hR : RB w A n bs) (hnc : n ≤ c) (hc : c ≤ maxLen) (hn : n ≤ 1000000000) (hcc : c ≤ 9223372036854775807) :
    Calls Try.prog 26 #[.slice A n c] w (IntPost w bs) := by
  have hl := hR.1
  match bs, hl with
  | [], hl =>
    obtain rfl : n = 0 := by simpa using hl.symm
    exact int_zero A c w
  | d :: r, hl =>
    have hl : r.length + 1 = n := by simpa using hl
    obtain ⟨b, off, d', rfl, _, hd, c0⟩ := hR.at_ (k := 0) (by omega)
    simp at hd
    subst hd
    have c0 : w.cell? ⟨b, off, none⟩ = some (.int .u8 (d.toNat : Int)) := c0
    by_cases hb : 128 ≤ d.toNat
    · exact int_high b off n c d _ w (by omega) hn (by cases r <;> simp [intQ, hb]) c0 hb
    match r, hl with
    | [], hl =>
      have hl : n = 1 := by simpa using hl.symm
      by_cases hz : d.toNat = 0
      · exact int_one b off n c d _ [] w hR hnc hc hcc hn (by simp only [intQ]; rw [if_neg hb]) c0 (by omega) (by omega) hz (by omega)
      · exact int_nz b off n c d _ [] w hR hnc hc hcc hn (by simp only [intQ]; rw [if_neg hb]) c0 (by omega) (by omega) (by omega)
    | x :: r', hl =>
      have hl : r'.length + 1 + 1 = n := by simpa using hl
      by_cases hz : d.toNat = 0
      · obtain ⟨b', off', x', e', _, hx, c1⟩ := hR.at_ (k := 1) (by omega)
        cases e'
        simp at hx
        subst hx
        by_cases hx : x.toNat < 128
        · exact int_needless b off n c d x _ w (by omega) hn (by simp only [intQ]; rw [if_pos (.inr ⟨hz, hx⟩)]) c0 hz c1 hx
        · exact int_two b off n c d _ [] w hR hnc hc hcc hn (by simp only [intQ]; rw [if_neg (by omega)]) c0 (by omega) hz (by omega) x c1 (by omega)
      · exact int_nz b off n c d _ [] w hR hnc hc hcc hn (by simp only [intQ]; rw [if_neg (by omega)]) c0 (by omega) (by omega) (by omega)
end Go.Proofs.Ytamkbedbkjndgaa
