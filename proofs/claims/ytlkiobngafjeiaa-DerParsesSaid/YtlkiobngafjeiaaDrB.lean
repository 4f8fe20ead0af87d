/-
  der: Bits.
-/
import Derived.Test.YtlkiobngafjeiaaDrW
import Derived.Test.YtlkiobngafjeiaaDrS
import Derived.Deep.RegionHeld3
namespace Go.Proofs.Ytlkiobngafjeiaa
open Go.RowKit Go
set_option linter.unusedVariables false
set_option maxRecDepth 100000
/-- The bits of a string's body, and how many of the last byte are not used. -/
def bitsQ : List UInt8 → Option (List UInt8 × Nat)
  | [] => none
  | d :: r => if 7 < d.toNat ∨ (0 < d.toNat ∧ r = []) then none else if ((d :: r).getLastD 0).toNat % 2 ^ d.toNat ≠ 0 then none else some (r, d.toNat)
def BitsPost (w : World) (bs : List UInt8) (e : Ending) (w' : World) : Prop :=
  (match bitsQ bs with
    | some (l, u) => ∃ A n c, e = .returned (.tuple #[.slice A n c, .int .i64 (u : Nat), .bool true]) ∧ OwnB w' w.heap.size A n c l
    | none => e = .returned (.tuple #[.slice none 0 0, .int .i64 0, .bool false])) ∧ Below w.heap.size w w'
theorem bits_no {w w' : World} {bs : List UInt8} (h : bitsQ bs = none) (hb : Below w.heap.size w w') : BitsPost w bs (.returned (.tuple #[.slice none 0 0, .int .i64 0, .bool false])) w' := by
  unfold BitsPost; rw [h]; exact ⟨rfl, hb⟩
theorem bits_yes {w w' : World} {bs l : List UInt8} {A : Option Addr} {n c u : Nat} {U : Int} (h : bitsQ bs = some (l, u)) (hU : U = (u : Nat)) (ho : OwnB w' w.heap.size A n c l) (hb : Below w.heap.size w w') : BitsPost w bs (.returned (.tuple #[.slice A n c, .int .i64 U, .bool true])) w' := by
  subst hU
  unfold BitsPost; rw [h]; exact ⟨⟨A, n, c, rfl, ho⟩, hb⟩
theorem bits_zero (A : Option Addr) (c : Nat) (w : World) : Calls Try.prog 45 #[.slice A 0 c] w (BitsPost w []) := by
  go_enter Try.func45, Try.ntmps45
  go_wp2
  go_ret3
  exact bits_no rfl (Below.refl _ _)
theorem bits_bad (b off n c : Nat) (d : UInt8) (bs : List UInt8) (w : World) (hn : 0 < n) (hn2 : n ≤ 1000000000) (h : bitsQ bs = none) (h0 : w.cell? ⟨b, off, none⟩ = some (.int .u8 (d.toNat : Int))) (hd : 7 < d.toNat ∨ (0 < d.toNat ∧ n = 1)) :
    Calls Try.prog 45 #[.slice (some ⟨b, off, none⟩) n c] w (BitsPost w bs) := by
  have H := Lib.hid h
  clear h
  have t0 : ((n : Int) == 0) = false := by simp; omega
  by_cases h7 : 7 < d.toNat
  · have t1 : (7 : Int) < (d.toNat : Int) := by omega
    clear hd
    go_enter Try.func45, Try.ntmps45
    go_wp2
    go_ret3
    exact bits_no H.out (Below.refl _ _)
  · have t1 : (d.toNat : Int) ≤ 7 := by omega
    have t2 : (0 : Int) < (d.toNat : Int) := by omega
    have t3 : ((n : Int) == 1) = true := by simp; omega
    clear hd
    go_enter Try.func45, Try.ntmps45
    go_wp2
    go_ret3
    exact bits_no H.out (Below.refl _ _)
theorem bits_1 (b off n c : Nat) (q : UInt8) (bs r : List UInt8) (w : World) (hn : 2 ≤ n) (hn2 : n ≤ 1000000000) (hnc : n ≤ c) (hcc : c ≤ 9223372036854775807) (h : bitsQ bs = if q.toNat % 2 ≠ 0 then none else some (r, 1))
    (h0 : w.cell? ⟨b, off, none⟩ = some (.int .u8 1)) (hq : w.cell? ⟨b, off + (n - 1), none⟩ = some (.int .u8 (q.toNat : Int))) (hR : RB w (some ⟨b, off + 1, none⟩) (n - 1) r) :
    Calls Try.prog 45 #[.slice (some ⟨b, off, none⟩) n c] w (BitsPost w bs) := by
  have H := Lib.hid h
  clear h
  have t0 : ((n : Int) == 0) = false := by simp; omega
  have hand : bits BinOp.and IntKind.u8 (q.toNat : Int) 1 = (q.toNat : Int) % 2 := by
    have hq := q.toNat_lt
    have := u8_and_nat q.toNat 1 (by omega) (by omega)
    rw [nat_mask1] at this
    exact this.trans (by omega)
  have hi : ((n : Int) - 1).toNat = n - 1 := by omega
  have hsl := hR.1
  have hRi : RB w (if c = 1 then some ⟨b, off, none⟩ else some ⟨b, off + 1, none⟩) (n - 1) r := by
    by_cases e : c = 1
    · obtain rfl : n = 1 := by omega
      obtain rfl : r = [] := List.length_eq_zero_iff.1 hsl
      exact RB.nil _ _
    · rw [if_neg e]; exact hR
  have J := Lib.hid (fun k => joins_any [(if c = 1 then some ⟨b, off, none⟩ else some ⟨b, off + 1, none⟩, n - 1, c - 1, r)] 1 #[.slice (if c = 1 then some ⟨b, off, none⟩ else some ⟨b, off + 1, none⟩) (n - 1) (c - 1)] (w.drewN k) w.heap.size rfl rfl (by omega) rfl
    (by intro x hx; simp at hx; subst hx; exact hRi.drewN k) (by simp; omega))
  have i1 : (1 : Int) ≤ (n : Int) := by omega
  have i0 : (0 : Int) < (n : Int) := by omega
  have i2 : (n : Int) ≤ (c : Int) := by omega
  have i3 : 0 < n := by omega
  clear hR hsl hRi
  have t3 : ((n : Int) == 1) = false := by simp; omega
  by_cases hz : q.toNat % 2 = 0
  · have z : ((q.toNat : Int) % 2 != 0) = false := by simp; omega
    have HN := Lib.hid (H.out.trans (if_neg (by omega)))
    clear hz
    go_enter Try.func45, Try.ntmps45
    go_wp2
    go_quiet (fail)
    go_wp2
    go_region_held3 (fun W => W.cell? ⟨b, off, none⟩ = some (.int .u8 1)) (go_keep) (first | (go_at_call 38; (with_reducible refine (J.out _).mono ?_); rintro e w2 ⟨A2, n2, c2, rfl, hown, hb⟩; have hk2 : w2.cell? ⟨b, off, none⟩ = some (.int .u8 1) := (hb.cell (p := ⟨b, off, none⟩) (World.block_lt_of_cell? w _ h0)).trans h0))
    go_wp2
    go_ret3
    exact bits_yes HN.out rfl (by simpa using hown) ⟨hb.os, hb.tape, hb.output, hb.size, hb.block⟩
  · have z : ((q.toNat : Int) % 2 != 0) = true := by simp; omega
    have HN := Lib.hid (H.out.trans (if_pos hz))
    clear hz
    go_enter Try.func45, Try.ntmps45
    go_wp2
    go_quiet (fail)
    go_wp2
    go_ret3
    exact bits_no HN.out ⟨rfl, rfl, rfl, Nat.le_refl _, fun _ _ => rfl⟩
theorem bits_2 (b off n c : Nat) (q : UInt8) (bs r : List UInt8) (w : World) (hn : 2 ≤ n) (hn2 : n ≤ 1000000000) (hnc : n ≤ c) (hcc : c ≤ 9223372036854775807) (h : bitsQ bs = if q.toNat % 4 ≠ 0 then none else some (r, 2))
    (h0 : w.cell? ⟨b, off, none⟩ = some (.int .u8 2)) (hq : w.cell? ⟨b, off + (n - 1), none⟩ = some (.int .u8 (q.toNat : Int))) (hR : RB w (some ⟨b, off + 1, none⟩) (n - 1) r) :
    Calls Try.prog 45 #[.slice (some ⟨b, off, none⟩) n c] w (BitsPost w bs) := by
  have H := Lib.hid h
  clear h
  have t0 : ((n : Int) == 0) = false := by simp; omega
  have hand : bits BinOp.and IntKind.u8 (q.toNat : Int) 3 = (q.toNat : Int) % 4 := by
    have hq := q.toNat_lt
    have := u8_and_nat q.toNat 3 (by omega) (by omega)
    rw [nat_mask2] at this
    exact this.trans (by omega)
  have hi : ((n : Int) - 1).toNat = n - 1 := by omega
  have hsl := hR.1
  have hRi : RB w (if c = 1 then some ⟨b, off, none⟩ else some ⟨b, off + 1, none⟩) (n - 1) r := by
    by_cases e : c = 1
    · obtain rfl : n = 1 := by omega
      obtain rfl : r = [] := List.length_eq_zero_iff.1 hsl
      exact RB.nil _ _
    · rw [if_neg e]; exact hR
  have J := Lib.hid (fun k => joins_any [(if c = 1 then some ⟨b, off, none⟩ else some ⟨b, off + 1, none⟩, n - 1, c - 1, r)] 1 #[.slice (if c = 1 then some ⟨b, off, none⟩ else some ⟨b, off + 1, none⟩) (n - 1) (c - 1)] (w.drewN k) w.heap.size rfl rfl (by omega) rfl
    (by intro x hx; simp at hx; subst hx; exact hRi.drewN k) (by simp; omega))
  have i1 : (1 : Int) ≤ (n : Int) := by omega
  have i0 : (0 : Int) < (n : Int) := by omega
  have i2 : (n : Int) ≤ (c : Int) := by omega
  have i3 : 0 < n := by omega
  clear hR hsl hRi
  have t3 : ((n : Int) == 1) = false := by simp; omega
  by_cases hz : q.toNat % 4 = 0
  · have z : ((q.toNat : Int) % 4 != 0) = false := by simp; omega
    have HN := Lib.hid (H.out.trans (if_neg (by omega)))
    clear hz
    go_enter Try.func45, Try.ntmps45
    go_wp2
    go_quiet (fail)
    go_wp2
    go_region_held3 (fun W => W.cell? ⟨b, off, none⟩ = some (.int .u8 2)) (go_keep) (first | (go_at_call 38; (with_reducible refine (J.out _).mono ?_); rintro e w2 ⟨A2, n2, c2, rfl, hown, hb⟩; have hk2 : w2.cell? ⟨b, off, none⟩ = some (.int .u8 2) := (hb.cell (p := ⟨b, off, none⟩) (World.block_lt_of_cell? w _ h0)).trans h0))
    go_wp2
    go_ret3
    exact bits_yes HN.out rfl (by simpa using hown) ⟨hb.os, hb.tape, hb.output, hb.size, hb.block⟩
  · have z : ((q.toNat : Int) % 4 != 0) = true := by simp; omega
    have HN := Lib.hid (H.out.trans (if_pos hz))
    clear hz
    go_enter Try.func45, Try.ntmps45
    go_wp2
    go_quiet (fail)
    go_wp2
    go_ret3
    exact bits_no HN.out ⟨rfl, rfl, rfl, Nat.le_refl _, fun _ _ => rfl⟩
theorem bits_3 (b off n c : Nat) (q : UInt8) (bs r : List UInt8) (w : World) (hn : 2 ≤ n) (hn2 : n ≤ 1000000000) (hnc : n ≤ c) (hcc : c ≤ 9223372036854775807) (h : bitsQ bs = if q.toNat % 8 ≠ 0 then none else some (r, 3))
    (h0 : w.cell? ⟨b, off, none⟩ = some (.int .u8 3)) (hq : w.cell? ⟨b, off + (n - 1), none⟩ = some (.int .u8 (q.toNat : Int))) (hR : RB w (some ⟨b, off + 1, none⟩) (n - 1) r) :
    Calls Try.prog 45 #[.slice (some ⟨b, off, none⟩) n c] w (BitsPost w bs) := by
  have H := Lib.hid h
  clear h
  have t0 : ((n : Int) == 0) = false := by simp; omega
  have hand : bits BinOp.and IntKind.u8 (q.toNat : Int) 7 = (q.toNat : Int) % 8 := by
    have hq := q.toNat_lt
    have := u8_and_nat q.toNat 7 (by omega) (by omega)
    rw [nat_mask3] at this
    exact this.trans (by omega)
  have hi : ((n : Int) - 1).toNat = n - 1 := by omega
  have hsl := hR.1
  have hRi : RB w (if c = 1 then some ⟨b, off, none⟩ else some ⟨b, off + 1, none⟩) (n - 1) r := by
    by_cases e : c = 1
    · obtain rfl : n = 1 := by omega
      obtain rfl : r = [] := List.length_eq_zero_iff.1 hsl
      exact RB.nil _ _
    · rw [if_neg e]; exact hR
  have J := Lib.hid (fun k => joins_any [(if c = 1 then some ⟨b, off, none⟩ else some ⟨b, off + 1, none⟩, n - 1, c - 1, r)] 1 #[.slice (if c = 1 then some ⟨b, off, none⟩ else some ⟨b, off + 1, none⟩) (n - 1) (c - 1)] (w.drewN k) w.heap.size rfl rfl (by omega) rfl
    (by intro x hx; simp at hx; subst hx; exact hRi.drewN k) (by simp; omega))
  have i1 : (1 : Int) ≤ (n : Int) := by omega
  have i0 : (0 : Int) < (n : Int) := by omega
  have i2 : (n : Int) ≤ (c : Int) := by omega
  have i3 : 0 < n := by omega
  clear hR hsl hRi
  have t3 : ((n : Int) == 1) = false := by simp; omega
  by_cases hz : q.toNat % 8 = 0
  · have z : ((q.toNat : Int) % 8 != 0) = false := by simp; omega
    have HN := Lib.hid (H.out.trans (if_neg (by omega)))
    clear hz
    go_enter Try.func45, Try.ntmps45
    go_wp2
    go_quiet (fail)
    go_wp2
    go_region_held3 (fun W => W.cell? ⟨b, off, none⟩ = some (.int .u8 3)) (go_keep) (first | (go_at_call 38; (with_reducible refine (J.out _).mono ?_); rintro e w2 ⟨A2, n2, c2, rfl, hown, hb⟩; have hk2 : w2.cell? ⟨b, off, none⟩ = some (.int .u8 3) := (hb.cell (p := ⟨b, off, none⟩) (World.block_lt_of_cell? w _ h0)).trans h0))
    go_wp2
    go_ret3
    exact bits_yes HN.out rfl (by simpa using hown) ⟨hb.os, hb.tape, hb.output, hb.size, hb.block⟩
  · have z : ((q.toNat : Int) % 8 != 0) = true := by simp; omega
    have HN := Lib.hid (H.out.trans (if_pos hz))
    clear hz
    go_enter Try.func45, Try.ntmps45
    go_wp2
    go_quiet (fail)
    go_wp2
    go_ret3
    exact bits_no HN.out ⟨rfl, rfl, rfl, Nat.le_refl _, fun _ _ => rfl⟩
theorem bits_4 (b off n c : Nat) (q : UInt8) (bs r : List UInt8) (w : World) (hn : 2 ≤ n) (hn2 : n ≤ 1000000000) (hnc : n ≤ c) (hcc : c ≤ 9223372036854775807) (h : bitsQ bs = if q.toNat % 16 ≠ 0 then none else some (r, 4))
    (h0 : w.cell? ⟨b, off, none⟩ = some (.int .u8 4)) (hq : w.cell? ⟨b, off + (n - 1), none⟩ = some (.int .u8 (q.toNat : Int))) (hR : RB w (some ⟨b, off + 1, none⟩) (n - 1) r) :
    Calls Try.prog 45 #[.slice (some ⟨b, off, none⟩) n c] w (BitsPost w bs) := by
  have H := Lib.hid h
  clear h
  have t0 : ((n : Int) == 0) = false := by simp; omega
  have hand : bits BinOp.and IntKind.u8 (q.toNat : Int) 15 = (q.toNat : Int) % 16 := by
    have hq := q.toNat_lt
    have := u8_and_nat q.toNat 15 (by omega) (by omega)
    rw [nat_mask4] at this
    exact this.trans (by omega)
  have hi : ((n : Int) - 1).toNat = n - 1 := by omega
  have hsl := hR.1
  have hRi : RB w (if c = 1 then some ⟨b, off, none⟩ else some ⟨b, off + 1, none⟩) (n - 1) r := by
    by_cases e : c = 1
    · obtain rfl : n = 1 := by omega
      obtain rfl : r = [] := List.length_eq_zero_iff.1 hsl
      exact RB.nil _ _
    · rw [if_neg e]; exact hR
  have J := Lib.hid (fun k => joins_any [(if c = 1 then some ⟨b, off, none⟩ else some ⟨b, off + 1, none⟩, n - 1, c - 1, r)] 1 #[.slice (if c = 1 then some ⟨b, off, none⟩ else some ⟨b, off + 1, none⟩) (n - 1) (c - 1)] (w.drewN k) w.heap.size rfl rfl (by omega) rfl
    (by intro x hx; simp at hx; subst hx; exact hRi.drewN k) (by simp; omega))
  have i1 : (1 : Int) ≤ (n : Int) := by omega
  have i0 : (0 : Int) < (n : Int) := by omega
  have i2 : (n : Int) ≤ (c : Int) := by omega
  have i3 : 0 < n := by omega
  clear hR hsl hRi
  have t3 : ((n : Int) == 1) = false := by simp; omega
  by_cases hz : q.toNat % 16 = 0
  · have z : ((q.toNat : Int) % 16 != 0) = false := by simp; omega
    have HN := Lib.hid (H.out.trans (if_neg (by omega)))
    clear hz
    go_enter Try.func45, Try.ntmps45
    go_wp2
    go_quiet (fail)
    go_wp2
    go_region_held3 (fun W => W.cell? ⟨b, off, none⟩ = some (.int .u8 4)) (go_keep) (first | (go_at_call 38; (with_reducible refine (J.out _).mono ?_); rintro e w2 ⟨A2, n2, c2, rfl, hown, hb⟩; have hk2 : w2.cell? ⟨b, off, none⟩ = some (.int .u8 4) := (hb.cell (p := ⟨b, off, none⟩) (World.block_lt_of_cell? w _ h0)).trans h0))
    go_wp2
    go_ret3
    exact bits_yes HN.out rfl (by simpa using hown) ⟨hb.os, hb.tape, hb.output, hb.size, hb.block⟩
  · have z : ((q.toNat : Int) % 16 != 0) = true := by simp; omega
    have HN := Lib.hid (H.out.trans (if_pos hz))
    clear hz
    go_enter Try.func45, Try.ntmps45
    go_wp2
    go_quiet (fail)
    go_wp2
    go_ret3
    exact bits_no HN.out ⟨rfl, rfl, rfl, Nat.le_refl _, fun _ _ => rfl⟩
theorem bits_5 (b off n c : Nat) (q : UInt8) (bs r : List UInt8) (w : World) (hn : 2 ≤ n) (hn2 : n ≤ 1000000000) (hnc : n ≤ c) (hcc : c ≤ 9223372036854775807) (h : bitsQ bs = if q.toNat % 32 ≠ 0 then none else some (r, 5))
    (h0 : w.cell? ⟨b, off, none⟩ = some (.int .u8 5)) (hq : w.cell? ⟨b, off + (n - 1), none⟩ = some (.int .u8 (q.toNat : Int))) (hR : RB w (some ⟨b, off + 1, none⟩) (n - 1) r) :
    Calls Try.prog 45 #[.slice (some ⟨b, off, none⟩) n c] w (BitsPost w bs) := by
  have H := Lib.hid h
  clear h
  have t0 : ((n : Int) == 0) = false := by simp; omega
  have hand : bits BinOp.and IntKind.u8 (q.toNat : Int) 31 = (q.toNat : Int) % 32 := by
    have hq := q.toNat_lt
    have := u8_and_nat q.toNat 31 (by omega) (by omega)
    rw [nat_mask5] at this
    exact this.trans (by omega)
  have hi : ((n : Int) - 1).toNat = n - 1 := by omega
  have hsl := hR.1
  have hRi : RB w (if c = 1 then some ⟨b, off, none⟩ else some ⟨b, off + 1, none⟩) (n - 1) r := by
    by_cases e : c = 1
    · obtain rfl : n = 1 := by omega
      obtain rfl : r = [] := List.length_eq_zero_iff.1 hsl
      exact RB.nil _ _
    · rw [if_neg e]; exact hR
  have J := Lib.hid (fun k => joins_any [(if c = 1 then some ⟨b, off, none⟩ else some ⟨b, off + 1, none⟩, n - 1, c - 1, r)] 1 #[.slice (if c = 1 then some ⟨b, off, none⟩ else some ⟨b, off + 1, none⟩) (n - 1) (c - 1)] (w.drewN k) w.heap.size rfl rfl (by omega) rfl
    (by intro x hx; simp at hx; subst hx; exact hRi.drewN k) (by simp; omega))
  have i1 : (1 : Int) ≤ (n : Int) := by omega
  have i0 : (0 : Int) < (n : Int) := by omega
  have i2 : (n : Int) ≤ (c : Int) := by omega
  have i3 : 0 < n := by omega
  clear hR hsl hRi
  have t3 : ((n : Int) == 1) = false := by simp; omega
  by_cases hz : q.toNat % 32 = 0
  · have z : ((q.toNat : Int) % 32 != 0) = false := by simp; omega
    have HN := Lib.hid (H.out.trans (if_neg (by omega)))
    clear hz
    go_enter Try.func45, Try.ntmps45
    go_wp2
    go_quiet (fail)
    go_wp2
    go_region_held3 (fun W => W.cell? ⟨b, off, none⟩ = some (.int .u8 5)) (go_keep) (first | (go_at_call 38; (with_reducible refine (J.out _).mono ?_); rintro e w2 ⟨A2, n2, c2, rfl, hown, hb⟩; have hk2 : w2.cell? ⟨b, off, none⟩ = some (.int .u8 5) := (hb.cell (p := ⟨b, off, none⟩) (World.block_lt_of_cell? w _ h0)).trans h0))
    go_wp2
    go_ret3
    exact bits_yes HN.out rfl (by simpa using hown) ⟨hb.os, hb.tape, hb.output, hb.size, hb.block⟩
  · have z : ((q.toNat : Int) % 32 != 0) = true := by simp; omega
    have HN := Lib.hid (H.out.trans (if_pos hz))
    clear hz
    go_enter Try.func45, Try.ntmps45
    go_wp2
    go_quiet (fail)
    go_wp2
    go_ret3
    exact bits_no HN.out ⟨rfl, rfl, rfl, Nat.le_refl _, fun _ _ => rfl⟩
theorem bits_6 (b off n c : Nat) (q : UInt8) (bs r : List UInt8) (w : World) (hn : 2 ≤ n) (hn2 : n ≤ 1000000000) (hnc : n ≤ c) (hcc : c ≤ 9223372036854775807) (h : bitsQ bs = if q.toNat % 64 ≠ 0 then none else some (r, 6))
    (h0 : w.cell? ⟨b, off, none⟩ = some (.int .u8 6)) (hq : w.cell? ⟨b, off + (n - 1), none⟩ = some (.int .u8 (q.toNat : Int))) (hR : RB w (some ⟨b, off + 1, none⟩) (n - 1) r) :
    Calls Try.prog 45 #[.slice (some ⟨b, off, none⟩) n c] w (BitsPost w bs) := by
  have H := Lib.hid h
  clear h
  have t0 : ((n : Int) == 0) = false := by simp; omega
  have hand : bits BinOp.and IntKind.u8 (q.toNat : Int) 63 = (q.toNat : Int) % 64 := by
    have hq := q.toNat_lt
    have := u8_and_nat q.toNat 63 (by omega) (by omega)
    rw [nat_mask6] at this
    exact this.trans (by omega)
  have hi : ((n : Int) - 1).toNat = n - 1 := by omega
  have hsl := hR.1
  have hRi : RB w (if c = 1 then some ⟨b, off, none⟩ else some ⟨b, off + 1, none⟩) (n - 1) r := by
    by_cases e : c = 1
    · obtain rfl : n = 1 := by omega
      obtain rfl : r = [] := List.length_eq_zero_iff.1 hsl
      exact RB.nil _ _
    · rw [if_neg e]; exact hR
  have J := Lib.hid (fun k => joins_any [(if c = 1 then some ⟨b, off, none⟩ else some ⟨b, off + 1, none⟩, n - 1, c - 1, r)] 1 #[.slice (if c = 1 then some ⟨b, off, none⟩ else some ⟨b, off + 1, none⟩) (n - 1) (c - 1)] (w.drewN k) w.heap.size rfl rfl (by omega) rfl
    (by intro x hx; simp at hx; subst hx; exact hRi.drewN k) (by simp; omega))
  have i1 : (1 : Int) ≤ (n : Int) := by omega
  have i0 : (0 : Int) < (n : Int) := by omega
  have i2 : (n : Int) ≤ (c : Int) := by omega
  have i3 : 0 < n := by omega
  clear hR hsl hRi
  have t3 : ((n : Int) == 1) = false := by simp; omega
  by_cases hz : q.toNat % 64 = 0
  · have z : ((q.toNat : Int) % 64 != 0) = false := by simp; omega
    have HN := Lib.hid (H.out.trans (if_neg (by omega)))
    clear hz
    go_enter Try.func45, Try.ntmps45
    go_wp2
    go_quiet (fail)
    go_wp2
    go_region_held3 (fun W => W.cell? ⟨b, off, none⟩ = some (.int .u8 6)) (go_keep) (first | (go_at_call 38; (with_reducible refine (J.out _).mono ?_); rintro e w2 ⟨A2, n2, c2, rfl, hown, hb⟩; have hk2 : w2.cell? ⟨b, off, none⟩ = some (.int .u8 6) := (hb.cell (p := ⟨b, off, none⟩) (World.block_lt_of_cell? w _ h0)).trans h0))
    go_wp2
    go_ret3
    exact bits_yes HN.out rfl (by simpa using hown) ⟨hb.os, hb.tape, hb.output, hb.size, hb.block⟩
  · have z : ((q.toNat : Int) % 64 != 0) = true := by simp; omega
    have HN := Lib.hid (H.out.trans (if_pos hz))
    clear hz
    go_enter Try.func45, Try.ntmps45
    go_wp2
    go_quiet (fail)
    go_wp2
    go_ret3
    exact bits_no HN.out ⟨rfl, rfl, rfl, Nat.le_refl _, fun _ _ => rfl⟩
theorem bits_7 (b off n c : Nat) (q : UInt8) (bs r : List UInt8) (w : World) (hn : 2 ≤ n) (hn2 : n ≤ 1000000000) (hnc : n ≤ c) (hcc : c ≤ 9223372036854775807) (h : bitsQ bs = if q.toNat % 128 ≠ 0 then none else some (r, 7))
    (h0 : w.cell? ⟨b, off, none⟩ = some (.int .u8 7)) (hq : w.cell? ⟨b, off + (n - 1), none⟩ = some (.int .u8 (q.toNat : Int))) (hR : RB w (some ⟨b, off + 1, none⟩) (n - 1) r) :
    Calls Try.prog 45 #[.slice (some ⟨b, off, none⟩) n c] w (BitsPost w bs) := by
  have H := Lib.hid h
  clear h
  have t0 : ((n : Int) == 0) = false := by simp; omega
  have hand : bits BinOp.and IntKind.u8 (q.toNat : Int) 127 = (q.toNat : Int) % 128 := by
    have hq := q.toNat_lt
    have := u8_and_nat q.toNat 127 (by omega) (by omega)
    rw [nat_mask7] at this
    exact this.trans (by omega)
  have hi : ((n : Int) - 1).toNat = n - 1 := by omega
  have hsl := hR.1
  have hRi : RB w (if c = 1 then some ⟨b, off, none⟩ else some ⟨b, off + 1, none⟩) (n - 1) r := by
    by_cases e : c = 1
    · obtain rfl : n = 1 := by omega
      obtain rfl : r = [] := List.length_eq_zero_iff.1 hsl
      exact RB.nil _ _
    · rw [if_neg e]; exact hR
  have J := Lib.hid (fun k => joins_any [(if c = 1 then some ⟨b, off, none⟩ else some ⟨b, off + 1, none⟩, n - 1, c - 1, r)] 1 #[.slice (if c = 1 then some ⟨b, off, none⟩ else some ⟨b, off + 1, none⟩) (n - 1) (c - 1)] (w.drewN k) w.heap.size rfl rfl (by omega) rfl
    (by intro x hx; simp at hx; subst hx; exact hRi.drewN k) (by simp; omega))
  have i1 : (1 : Int) ≤ (n : Int) := by omega
  have i0 : (0 : Int) < (n : Int) := by omega
  have i2 : (n : Int) ≤ (c : Int) := by omega
  have i3 : 0 < n := by omega
  clear hR hsl hRi
  have t3 : ((n : Int) == 1) = false := by simp; omega
  by_cases hz : q.toNat % 128 = 0
  · have z : ((q.toNat : Int) % 128 != 0) = false := by simp; omega
    have HN := Lib.hid (H.out.trans (if_neg (by omega)))
    clear hz
    go_enter Try.func45, Try.ntmps45
    go_wp2
    go_quiet (fail)
    go_wp2
    go_region_held3 (fun W => W.cell? ⟨b, off, none⟩ = some (.int .u8 7)) (go_keep) (first | (go_at_call 38; (with_reducible refine (J.out _).mono ?_); rintro e w2 ⟨A2, n2, c2, rfl, hown, hb⟩; have hk2 : w2.cell? ⟨b, off, none⟩ = some (.int .u8 7) := (hb.cell (p := ⟨b, off, none⟩) (World.block_lt_of_cell? w _ h0)).trans h0))
    go_wp2
    go_ret3
    exact bits_yes HN.out rfl (by simpa using hown) ⟨hb.os, hb.tape, hb.output, hb.size, hb.block⟩
  · have z : ((q.toNat : Int) % 128 != 0) = true := by simp; omega
    have HN := Lib.hid (H.out.trans (if_pos hz))
    clear hz
    go_enter Try.func45, Try.ntmps45
    go_wp2
    go_quiet (fail)
    go_wp2
    go_ret3
    exact bits_no HN.out ⟨rfl, rfl, rfl, Nat.le_refl _, fun _ _ => rfl⟩
theorem bits_0a (b off n c : Nat) (q : UInt8) (bs r : List UInt8) (w : World) (hn : 1 ≤ n) (hn2 : n ≤ 1000000000) (hnc : n ≤ c) (hcc : c ≤ 9223372036854775807) (h : bitsQ bs = some (r, 0))
    (h0 : w.cell? ⟨b, off, none⟩ = some (.int .u8 0)) (hq : w.cell? ⟨b, off + (1 - 1), none⟩ = some (.int .u8 (q.toNat : Int))) (hR : RB w (some ⟨b, off, none⟩) (1 - 1) r) :
    Calls Try.prog 45 #[.slice (some ⟨b, off, none⟩) 1 1] w (BitsPost w bs) := by
  have HN := Lib.hid h
  clear h
  have hq : w.cell? ⟨b, off, none⟩ = some (.int .u8 (q.toNat : Int)) := hq
  have hand : bits BinOp.and IntKind.u8 (q.toNat : Int) 0 = 0 := by
    have hq := q.toNat_lt
    have := u8_and_nat q.toNat 0 (by omega) (by omega)
    rw [Nat.and_zero] at this
    exact this
  have hsl := hR.1
  have J := Lib.hid (fun k => joins_any [(some ⟨b, off, none⟩, 1 - 1, 1 - 1, r)] 1 #[.slice (some ⟨b, off, none⟩) (1 - 1) (1 - 1)] (w.drewN k) w.heap.size rfl rfl (by omega) rfl
    (by intro x hx; simp at hx; subst hx; exact hR.drewN k) (by simp; omega))
  clear hR hsl
  go_enter Try.func45, Try.ntmps45
  go_wp2
  go_quiet (fail)
  go_wp2
  go_region_held3 (fun W => W.cell? ⟨b, off, none⟩ = some (.int .u8 0)) (go_keep) (first | (go_at_call 38; (with_reducible refine (J.out _).mono ?_); rintro e w2 ⟨A2, n2, c2, rfl, hown, hb⟩; have hk2 : w2.cell? ⟨b, off, none⟩ = some (.int .u8 0) := (hb.cell (p := ⟨b, off, none⟩) (World.block_lt_of_cell? w _ h0)).trans h0))
  go_wp2
  go_ret3
  exact bits_yes HN.out rfl (by simpa using hown) ⟨hb.os, hb.tape, hb.output, hb.size, hb.block⟩
theorem bits_0b (b off n c : Nat) (q : UInt8) (bs r : List UInt8) (w : World) (hc1 : ¬ c = 1) (hn : 1 ≤ n) (hn2 : n ≤ 1000000000) (hnc : n ≤ c) (hcc : c ≤ 9223372036854775807) (h : bitsQ bs = some (r, 0))
    (h0 : w.cell? ⟨b, off, none⟩ = some (.int .u8 0)) (hq : w.cell? ⟨b, off + (n - 1), none⟩ = some (.int .u8 (q.toNat : Int))) (hR : RB w (some ⟨b, off + 1, none⟩) (n - 1) r) :
    Calls Try.prog 45 #[.slice (some ⟨b, off, none⟩) n c] w (BitsPost w bs) := by
  have HN := Lib.hid h
  clear h
  have t0 : ((n : Int) == 0) = false := by simp; omega
  have hi : ((n : Int) - 1).toNat = n - 1 := by omega
  have i1 : (1 : Int) ≤ (n : Int) := by omega
  have i0 : (0 : Int) < (n : Int) := by omega
  have i2 : (n : Int) ≤ (c : Int) := by omega
  have i3 : 0 < n := by omega
  have hand : bits BinOp.and IntKind.u8 (q.toNat : Int) 0 = 0 := by
    have hq := q.toNat_lt
    have := u8_and_nat q.toNat 0 (by omega) (by omega)
    rw [Nat.and_zero] at this
    exact this
  have hsl := hR.1
  have J := Lib.hid (fun k => joins_any [(some ⟨b, off + 1, none⟩, n - 1, c - 1, r)] 1 #[.slice (some ⟨b, off + 1, none⟩) (n - 1) (c - 1)] (w.drewN k) w.heap.size rfl rfl (by omega) rfl
    (by intro x hx; simp at hx; subst hx; exact hR.drewN k) (by simp; omega))
  clear hR hsl
  go_enter Try.func45, Try.ntmps45
  go_wp2
  go_quiet (fail)
  go_wp2
  go_region_held3 (fun W => W.cell? ⟨b, off, none⟩ = some (.int .u8 0)) (go_keep) (first | (go_at_call 38; (with_reducible refine (J.out _).mono ?_); rintro e w2 ⟨A2, n2, c2, rfl, hown, hb⟩; have hk2 : w2.cell? ⟨b, off, none⟩ = some (.int .u8 0) := (hb.cell (p := ⟨b, off, none⟩) (World.block_lt_of_cell? w _ h0)).trans h0))
  go_wp2
  go_ret3
  exact bits_yes HN.out rfl (by simpa using hown) ⟨hb.os, hb.tape, hb.output, hb.size, hb.block⟩
theorem bits_any (A : Option Addr) (n c : Nat) (bs : List UInt8) (w : World) (hR : RB w A n bs) (hnc : n ≤ c) (hn : n ≤ 1000000000) (hcc : c ≤ 9223372036854775807) :
    Calls Try.prog 45 #[.slice A n c] w (BitsPost w bs) := by
  have hl := hR.1
  match bs, hl with
  | [], hl =>
    obtain rfl : n = 0 := by simpa using hl.symm
    exact bits_zero A c w
  | d :: r, hl =>
    have hl : r.length + 1 = n := by simpa using hl
    obtain ⟨b, off, d', rfl, _, hd, c0⟩ := hR.at_ (k := 0) (by omega)
    simp at hd
    subst hd
    have c0 : w.cell? ⟨b, off, none⟩ = some (.int .u8 (d.toNat : Int)) := c0
    by_cases hbad : 7 < d.toNat ∨ (0 < d.toNat ∧ n = 1)
    · refine bits_bad b off n c d _ w (by omega) hn ?_ c0 hbad
      simp only [bitsQ]
      rw [if_pos (by rcases hbad with h | ⟨h, h2⟩; exact .inl h; exact .inr ⟨h, List.length_eq_zero_iff.1 (by omega)⟩)]
    obtain ⟨b', off', q, e', _, hq, c1⟩ := hR.at_ (k := n - 1) (by omega)
    cases e'
    have hlast : (d :: r).getLastD 0 = q := by
      rw [List.getLastD_eq_getLast?, List.getLast?_eq_getElem?]
      simp only [List.length_cons, hl]
      rw [hq]; rfl
    have hq2 : bitsQ (d :: r) = if q.toNat % 2 ^ d.toNat ≠ 0 then none else some (r, d.toNat) := by
      simp only [bitsQ]
      rw [if_neg (by rintro (h | ⟨h, h2⟩); exact hbad (.inl h); subst h2; exact hbad (.inr ⟨h, by simpa using hl.symm⟩)), hlast]
    have hRr : RB w (some ⟨b, off + 1, none⟩) (n - 1) r := by
      have h1 := hR.2.drop_ 1
      have h1 : Bs w w.heap.size ((some ⟨b, off, none⟩ : Option Addr).map (·.add 1)) r := h1
      rw [show ((some ⟨b, off, none⟩ : Option Addr).map (·.add 1)) = some ⟨b, off + 1, none⟩ from rfl] at h1
      exact ⟨by omega, h1⟩
    generalize hD : d.toNat = D at *
    have hD7 : D ≤ 7 := by omega
    by_cases hD0 : D = 0
    · subst hD0
      have hq3 : bitsQ (d :: r) = some (r, 0) := hq2.trans (if_neg (by rw [Nat.pow_zero]; omega))
      by_cases hc1 : c = 1
      · obtain rfl : n = 1 := by omega
        subst hc1
        obtain rfl : r = [] := List.length_eq_zero_iff.1 (by omega)
        exact bits_0a b off 1 1 q _ _ w (by omega) hn hnc (by omega) hq3 c0 c1 (RB.nil _ _)
      · exact bits_0b b off n c q (d :: r) r w hc1 (by omega) hn hnc hcc hq3 c0 c1 hRr
    by_cases hD1 : D = 1
    · subst hD1
      exact bits_1 b off n c q (d :: r) r w (by omega) hn hnc hcc hq2 c0 c1 hRr
    by_cases hD2 : D = 2
    · subst hD2
      exact bits_2 b off n c q (d :: r) r w (by omega) hn hnc hcc hq2 c0 c1 hRr
    by_cases hD3 : D = 3
    · subst hD3
      exact bits_3 b off n c q (d :: r) r w (by omega) hn hnc hcc hq2 c0 c1 hRr
    by_cases hD4 : D = 4
    · subst hD4
      exact bits_4 b off n c q (d :: r) r w (by omega) hn hnc hcc hq2 c0 c1 hRr
    by_cases hD5 : D = 5
    · subst hD5
      exact bits_5 b off n c q (d :: r) r w (by omega) hn hnc hcc hq2 c0 c1 hRr
    by_cases hD6 : D = 6
    · subst hD6
      exact bits_6 b off n c q (d :: r) r w (by omega) hn hnc hcc hq2 c0 c1 hRr
    by_cases hD7 : D = 7
    · subst hD7
      exact bits_7 b off n c q (d :: r) r w (by omega) hn hnc hcc hq2 c0 c1 hRr
    omega
end Go.Proofs.Ytlkiobngafjeiaa
