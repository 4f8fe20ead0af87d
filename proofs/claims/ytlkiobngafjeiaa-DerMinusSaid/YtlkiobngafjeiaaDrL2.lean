/-
  der: the statement on bodies that are no numbers.
-/
import Derived.Test.YtlkiobngafjeiaaDrWk
import Derived.Test.YtlkiobngafjeiaaDrX
namespace Go.Proofs.Ytlkiobngafjeiaa
open Go.RowKit Go
set_option linter.unusedVariables false
set_option maxRecDepth 100000
theorem minus_big (A : Option Addr) (n c : Nat) (w : World) (hb : 8192 < n) :
    Calls Try.prog 17 #[.slice A n c] w fun e w' => e = .returned (.bool true) ∧ Below w.heap.size w w' := by
  have W := Lib.hid (works_any w)
  have L := Lib.hid (large_any A n c w)
  have hd : decide ((8192 : Int) < (n : Int)) = true := by simp; omega
  rw [hd] at L
  clear hd
  go_enter Try.func17, Try.ntmps17
  go_wp2_with fail
  refine L.out.mono ?_
  rintro e w' ⟨rfl, rfl⟩
  go_wp2_with fail
  refine W.out.mono ?_
  rintro e w' ⟨rfl, hb⟩
  go_wp2
  go_ret
  exact ⟨rfl, hb⟩
theorem minus_nil (A : Option Addr) (c : Nat) (w : World) :
    Calls Try.prog 17 #[.slice A 0 c] w fun e w' => e = .returned (.bool true) ∧ Below w.heap.size w w' := by
  have W := Lib.hid (fun W => works_any W)
  have L := Lib.hid (large_any A 0 c w)
  have I := Lib.hid (int_zero A c w)
  go_enter Try.func17, Try.ntmps17
  go_wp2_with fail
  refine L.out.mono ?_
  rintro e w' ⟨rfl, rfl⟩
  go_wp2_with fail
  refine I.out.mono ?_
  rintro e w1 ⟨he, hb1⟩
  have he : e = .returned (.tuple #[.slice none 0 0, .bool false]) := he
  subst he
  go_wp2_with fail
  refine (W.out _).mono ?_
  rintro e w' ⟨rfl, hb⟩
  go_wp2
  go_ret
  exact ⟨rfl, kp_call hb1 hb⟩
theorem minus_high (b off n c : Nat) (d : UInt8) (bs : List UInt8) (w : World) (hR : RB w (some ⟨b, off, none⟩) n bs) (hnc : n ≤ c) (hc : c ≤ maxLen) (hn0 : 0 < n) (hn : n ≤ 8192) (h : intQ bs = none) (c0 : w.cell? ⟨b, off, none⟩ = some (.int .u8 (d.toNat : Int))) (hd8 : 128 ≤ d.toNat) (h1 : 1 < n) :
    Calls Try.prog 17 #[.slice (some ⟨b, off, none⟩) n c] w fun e w' => e = .returned (.bool true) ∧ Below w.heap.size w w' := by
  have W := Lib.hid (fun W => works_any W)
  have L := Lib.hid (large_any (some ⟨b, off, none⟩) n c w)
  have hd : decide ((8192 : Int) < (n : Int)) = false := by simp; omega
  rw [hd] at L
  have hlt := World.block_lt_of_cell? w _ c0
  have I : Hid (Calls Try.prog 42 #[.slice (some ⟨b, off, none⟩) n c] w fun e w' => e = .returned (.tuple #[.slice none 0 0, .bool false]) ∧ Below w.heap.size w w') := (int_any _ n c bs w hR hnc hc (by omega) (by unfold maxLen at hc; omega)).mono fun e w' hp => by
    unfold IntPost at hp
    rw [h] at hp
    exact hp
  have t0 : (128 : Int) ≤ (d.toNat : Int) := by omega
  have t1 : (1 : Int) < (n : Int) := by omega
  have t2 : ((d.toNat : Int) == 0) = false := by simp; omega
  have t3 : ((n : Int) == 0) = false := by simp; omega
  clear hd hR hc h
  go_enter Try.func17, Try.ntmps17
  go_wp2_with fail
  refine L.out.mono ?_
  rintro e w' ⟨rfl, rfl⟩
  go_wp2_with fail
  refine I.out.mono ?_
  rintro e w1 ⟨rfl, hb1⟩
  have d0 := kp_cell hb1 c0
  have HB1 := Lib.hid hb1
  clear hb1 c0
  go_wp2_with fail
  refine (W.out _).mono ?_
  rintro e w' ⟨rfl, hb⟩
  go_wp2
  go_ret
  exact ⟨rfl, kp_call HB1.out hb⟩
theorem minus_high1 (b off n c : Nat) (d : UInt8) (bs : List UInt8) (w : World) (hR : RB w (some ⟨b, off, none⟩) n bs) (hnc : n ≤ c) (hc : c ≤ maxLen) (hn0 : 0 < n) (hn : n ≤ 8192) (h : intQ bs = none) (c0 : w.cell? ⟨b, off, none⟩ = some (.int .u8 (d.toNat : Int))) (hd8 : 128 ≤ d.toNat) (h1 : ¬ 1 < n) :
    Calls Try.prog 17 #[.slice (some ⟨b, off, none⟩) n c] w fun e w' => e = .returned (.bool true) ∧ Below w.heap.size w w' := by
  have W := Lib.hid (fun W => works_any W)
  have L := Lib.hid (large_any (some ⟨b, off, none⟩) n c w)
  have hd : decide ((8192 : Int) < (n : Int)) = false := by simp; omega
  rw [hd] at L
  have hlt := World.block_lt_of_cell? w _ c0
  have I : Hid (Calls Try.prog 42 #[.slice (some ⟨b, off, none⟩) n c] w fun e w' => e = .returned (.tuple #[.slice none 0 0, .bool false]) ∧ Below w.heap.size w w') := (int_any _ n c bs w hR hnc hc (by omega) (by unfold maxLen at hc; omega)).mono fun e w' hp => by
    unfold IntPost at hp
    rw [h] at hp
    exact hp
  have t0 : (128 : Int) ≤ (d.toNat : Int) := by omega
  have t1 : decide ((1 : Int) < (n : Int)) = false := by simp; omega
  have t3 : ((n : Int) == 0) = false := by simp; omega
  clear hd hR hc h
  go_enter Try.func17, Try.ntmps17
  go_wp2_with fail
  refine L.out.mono ?_
  rintro e w' ⟨rfl, rfl⟩
  go_wp2_with fail
  refine I.out.mono ?_
  rintro e w1 ⟨rfl, hb1⟩
  have d0 := kp_cell hb1 c0
  have HB1 := Lib.hid hb1
  clear hb1 c0
  go_wp2_with fail
  refine (W.out _).mono ?_
  rintro e w' ⟨rfl, hb⟩
  go_wp2
  go_ret
  exact ⟨rfl, kp_call HB1.out hb⟩
theorem minus_needless (b off n c : Nat) (d : UInt8) (bs : List UInt8) (w : World) (hR : RB w (some ⟨b, off, none⟩) n bs) (hnc : n ≤ c) (hc : c ≤ maxLen) (hn0 : 0 < n) (hn : n ≤ 8192) (h : intQ bs = none) (c0 : w.cell? ⟨b, off, none⟩ = some (.int .u8 (d.toNat : Int))) (hd8 : ¬ 128 ≤ d.toNat) (h1 : 1 < n) (x : UInt8) (c1 : w.cell? ⟨b, off + 1, none⟩ = some (.int .u8 (x.toNat : Int))) (hz : d.toNat = 0) (hx : x.toNat < 128) :
    Calls Try.prog 17 #[.slice (some ⟨b, off, none⟩) n c] w fun e w' => e = .returned (.bool true) ∧ Below w.heap.size w w' := by
  have W := Lib.hid (fun W => works_any W)
  have L := Lib.hid (large_any (some ⟨b, off, none⟩) n c w)
  have hd : decide ((8192 : Int) < (n : Int)) = false := by simp; omega
  rw [hd] at L
  have hlt := World.block_lt_of_cell? w _ c0
  have I : Hid (Calls Try.prog 42 #[.slice (some ⟨b, off, none⟩) n c] w fun e w' => e = .returned (.tuple #[.slice none 0 0, .bool false]) ∧ Below w.heap.size w w') := (int_any _ n c bs w hR hnc hc (by omega) (by unfold maxLen at hc; omega)).mono fun e w' hp => by
    unfold IntPost at hp
    rw [h] at hp
    exact hp
  have t0 : decide ((128 : Int) ≤ (d.toNat : Int)) = false := by simp; omega
  have t1 : (1 : Int) < (n : Int) := by omega
  have t2 : ((d.toNat : Int) == 0) = true := by simp; omega
  have t3 : ((n : Int) == 0) = false := by simp; omega
  have t4 : (x.toNat : Int) < 128 := by omega
  clear hz
  clear hd hR hc h
  go_enter Try.func17, Try.ntmps17
  go_wp2_with fail
  refine L.out.mono ?_
  rintro e w' ⟨rfl, rfl⟩
  go_wp2_with fail
  refine I.out.mono ?_
  rintro e w1 ⟨rfl, hb1⟩
  have d0 := kp_cell hb1 c0
  have d1 := kp_cell hb1 c1
  have HB1 := Lib.hid hb1
  clear hb1 c0
  go_wp2_with fail
  refine (W.out _).mono ?_
  rintro e w' ⟨rfl, hb⟩
  go_wp2
  go_ret
  exact ⟨rfl, kp_call HB1.out hb⟩
theorem minus_is (b off n c : Nat) (d : UInt8) (bs : List UInt8) (w : World) (hR : RB w (some ⟨b, off, none⟩) n bs) (hnc : n ≤ c) (hc : c ≤ maxLen) (hn0 : 0 < n) (hn : n ≤ 8192) (h : intQ bs = some (trimZ bs)) (c0 : w.cell? ⟨b, off, none⟩ = some (.int .u8 (d.toNat : Int))) (hd8 : ¬ 128 ≤ d.toNat) :
    Calls Try.prog 17 #[.slice (some ⟨b, off, none⟩) n c] w fun e w' => e = .returned (.bool true) ∧ Below w.heap.size w w' := by
  have W := Lib.hid (fun W => works_any W)
  have L := Lib.hid (large_any (some ⟨b, off, none⟩) n c w)
  have hd : decide ((8192 : Int) < (n : Int)) = false := by simp; omega
  rw [hd] at L
  have hlt := World.block_lt_of_cell? w _ c0
  have I : Hid (Calls Try.prog 42 #[.slice (some ⟨b, off, none⟩) n c] w fun e w' => (∃ A m k, e = .returned (.tuple #[.slice A m k, .bool true]) ∧ m ≤ n) ∧ Below w.heap.size w w') := (int_any _ n c bs w hR hnc hc (by omega) (by unfold maxLen at hc; omega)).mono fun e w' hp => by
    unfold IntPost at hp
    rw [h] at hp
    obtain ⟨⟨A, m, k, rfl, ho⟩, hb⟩ := hp
    exact ⟨⟨A, m, k, rfl, by rw [← ho.len, ← hR.1]; exact trimZ_le bs⟩, hb⟩
  have t0 : (d.toNat : Int) < 128 := by omega
  have t1 : (0 : Int) < (n : Int) := by omega
  clear hd hR hc h
  go_enter Try.func17, Try.ntmps17
  go_wp2_with fail
  refine L.out.mono ?_
  rintro e w' ⟨rfl, rfl⟩
  go_wp2_with fail
  refine I.out.mono ?_
  rintro e w1 ⟨⟨A1, m, k, rfl, hm⟩, hb1⟩
  have d0 := kp_cell hb1 c0
  have HB1 := Lib.hid hb1
  clear hb1 c0
  go_wp2_with fail
  refine (W.out _).mono ?_
  rintro e w' ⟨rfl, hb⟩
  go_wp2
  go_ret
  exact ⟨rfl, kp_call HB1.out hb⟩
theorem minus_row (A : Option Addr) (n c : Nat) (bs : List UInt8) (w : World) (h : IsBs w A n c bs) :
    Calls Try.prog 17 #[.slice A n c] w fun e w' => e = .returned (.bool true) ∧ Below w.heap.size w w' := by
  have hR := h.rb
  have hl := h.len
  have hnc := h.le
  have hcm := h.max
  by_cases hb : 8192 < n
  · exact minus_big A n c w hb
  match bs, hl with
  | [], hl =>
    obtain rfl : n = 0 := by simpa using hl.symm
    exact minus_nil A c w
  | d :: r, hl =>
    have hl : r.length + 1 = n := by simpa using hl
    obtain ⟨b, off, d', rfl, _, hd, c0⟩ := hR.at_ (k := 0) (by omega)
    simp at hd
    subst hd
    have c0 : w.cell? ⟨b, off, none⟩ = some (.int .u8 (d.toNat : Int)) := c0
    by_cases hd8 : 128 ≤ d.toNat
    · have hq : intQ (d :: r) = none := by cases r <;> simp [intQ, hd8]
      by_cases h1 : 1 < n
      · exact minus_high b off n c d (d :: r) w h.rb hnc hcm (by omega) (by omega) hq c0 hd8 h1
      · exact minus_high1 b off n c d (d :: r) w h.rb hnc hcm (by omega) (by omega) hq c0 hd8 h1
    match r, hl with
    | [], hl => exact minus_is b off n c d [d] w h.rb hnc hcm (by omega) (by omega) (by simp only [intQ]; rw [if_neg hd8]) c0 hd8
    | x :: r', hl =>
      have hl : r'.length + 1 + 1 = n := by simpa using hl
      by_cases hz : d.toNat = 0
      · obtain ⟨b', off', x', e', _, hx, c1⟩ := hR.at_ (k := 1) (by omega)
        cases e'
        simp at hx
        subst hx
        by_cases hx : x.toNat < 128
        · exact minus_needless b off n c d (d :: x :: r') w h.rb hnc hcm (by omega) (by omega) (by simp only [intQ]; rw [if_pos (.inr ⟨hz, hx⟩)]) c0 hd8 (by omega) x c1 hz hx
        · exact minus_is b off n c d (d :: x :: r') w h.rb hnc hcm (by omega) (by omega) (by simp only [intQ]; rw [if_neg (by omega)]) c0 hd8
      · exact minus_is b off n c d (d :: x :: r') w h.rb hnc hcm (by omega) (by omega) (by simp only [intQ]; rw [if_neg (by omega)]) c0 hd8
end Go.Proofs.Ytlkiobngafjeiaa
