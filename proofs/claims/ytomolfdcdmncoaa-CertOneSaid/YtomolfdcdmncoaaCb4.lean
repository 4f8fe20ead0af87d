/-
  der: Bits.
-/
import Derived.Test.YtomolfdcdmncoaaCb3
import Derived.Deep.RegionHeld3
import Derived.Laws.BitsAllLaws
import Derived.Test.YtomolfdcdmncoaaCb1
namespace Go.Proofs.Ytomolfdcdmncoaa
open Go.RowKit Go
set_option linter.unusedVariables false
set_option maxRecDepth 100000
/-- The bits of a string's body, and how many of the last byte are not used. -/
def bitsQ : List UInt8 → Option (List UInt8 × Nat)
  | [] => none
  | d :: r => if 7 < d.toNat ∨ (0 < d.toNat ∧ r = []) then none else if ((d :: r).getLastD 0).toNat % 2 ^ d.toNat ≠ 0 then none else some (r, d.toNat)
def BitsPost (w : World) (bs : List UInt8) (e : Ending) (w' : World) : Prop :=
  (match bitsQ bs with
    | some (l, u) => ∃ A n c, e = .returned (.tuple #[.slice A n c, .int .i64 (u : Nat), .bool true]) ∧ OwnB w' w.heap.size A n c l
    | none => e = .returned (.tuple #[.slice none 0 0, .int .i64 0, .bool false])) ∧ Below w.heap.size w w'
theorem bits_no {w w' : World} {bs : List UInt8} (h : bitsQ bs = none) (hb : Below w.heap.size w w') : BitsPost w bs (.returned (.tuple #[.slice none 0 0, .int .i64 0, .bool false])) w' := by
  unfold BitsPost; rw [h]; exact ⟨rfl, hb⟩
theorem bits_yes {w w' : World} {bs l : List UInt8} {A : Option Addr} {n c u : Nat} {U : Int} (h : bitsQ bs = some (l, u)) (hU : U = (u : Nat)) (ho : OwnB w' w.heap.size A n c l) (hb : Below w.heap.size w w') : BitsPost w bs (.returned (.tuple #[.slice A n c, .int .i64 U, .bool true])) w' := by
  subst hU
  unfold BitsPost; rw [h]; exact ⟨⟨A, n, c, rfl, ho⟩, hb⟩
theorem bits_zero (A : Option Addr) (c : Nat) (w : World) : Calls Try.prog 69 #[.slice A 0 c] w (BitsPost w []) := by
  go_enter Try.func69, Try.ntmps69
  go_wp2
  go_ret3
  exact bits_no rfl (Below.refl _ _)
theorem bits_bad (b off n c : Nat) (d : UInt8) (bs : List UInt8) (w : World) (hn : 0 < n) (hn2 : n ≤ 1000000000) (h : bitsQ bs = none) (h0 : w.cell? ⟨b, off, none⟩ = some (.int .u8 (d.toNat : Int))) (hd : 7 < d.toNat ∨ (0 < d.toNat ∧ n = 1)) :
    Calls Try.prog 69 #[.slice (some ⟨b, off, none⟩) n c] w (BitsPost w bs) := by
  have H := Lib.hid h
  clear h
  have t0 : ((n : Int) == 0) = false := by simp; omega
  by_cases h7 : 7 < d.toNat
  · have t1 : (7 : Int) < (d.toNat : Int) := by omega
    clear hd
    go_enter Try.func69, Try.ntmps69
    go_wp2
    go_ret3
    exact bits_no H.out (Below.refl _ _)
  · have t1 : (d.toNat : Int) ≤ 7 := by omega
    have t2 : (0 : Int) < (d.toNat : Int) := by omega
    have t3 : ((n : Int) == 1) = true := by simp; omega
    clear hd
    go_enter Try.func69, Try.ntmps69
    go_wp2
    go_ret3
    exact bits_no H.out (Below.refl _ _)
theorem bits_1 (b off n c : Nat) (q : UInt8) (bs r : List UInt8) (w : World) (hn : 2 ≤ n) (hn2 : n ≤ 1000000000) (hnc : n ≤ c) (hcc : c ≤ 9223372036854775807) (h : bitsQ bs = if q.toNat % 2 ≠ 0 then none else some (r, 1))
    (h0 : w.cell? ⟨b, off, none⟩ = some (.int .u8 1)) (hq : w.cell? ⟨b, off + (n - 1), none⟩ = some (.int .u8 (q.toNat : Int))) (hR : RB w (some ⟨b, off + 1, none⟩) (n - 1) r) :
    Calls Try.prog 69 #[.slice (some ⟨b, off, none⟩) n c] w (BitsPost w bs) := by
  have H := Lib.hid h
  clear h
  have t0 : ((n : Int) == 0) = false := by simp; omega
  have hand : bits BinOp.and IntKind.u8 (q.toNat : Int) 1 = (q.toNat : Int) % 2 := by
    have hq := q.toNat_lt
    have := u8_and_nat q.toNat 1 (by omega) (by omega)
    rw [nat_mask1] at this
    exact this.trans (by omega)
  have hi : ((n : Int) - 1).toNat = n - 1 := by omega
  have hsl := hR.1
  have hRi : RB w (if c = 1 then some ⟨b, off, none⟩ else some ⟨b, off + 1, none⟩) (n - 1) r := by
    by_cases e : c = 1
    · obtain rfl : n = 1 := by omega
      obtain rfl : r = [] := List.length_eq_zero_iff.1 hsl
      exact RB.nil _ _
    · rw [if_neg e]; exact hR
  have J := Lib.hid (fun k => joins_any [(if c = 1 then some ⟨b, off, none⟩ else some ⟨b, off + 1, none⟩, n - 1, c - 1, r)] 1 #[.slice (if c = 1 then some ⟨b, off, none⟩ else some ⟨b, off + 1, none⟩) (n - 1) (c - 1)] (w.drewN k) w.heap.size rfl rfl (by omega) rfl
    (by intro x hx; simp at hx; subst hx; exact hRi.drewN k) (by simp; omega))
  have i1 : (1 : Int) ≤ (n : Int) := by omega
  have i0 : (0 : Int) < (n : Int) := by omega
  have i2 : (n : Int) ≤ (c : Int) := by omega
  have i3 : 0 < n := by omega
  clear hR hsl hRi
  have t3 : ((n : Int) == 1) = false := by simp; omega
  by_cases hz : q.toNat % 2 = 0
  · have z : ((q.toNat : Int) % 2 != 0) = false := by simp; omega
    have HN := Lib.hid (H.out.trans (if_neg (by omega)))
    clear hz
    go_enter Try.func69, Try.ntmps69
    go_wp2
    go_quiet (fail)
    go_wp2
    go_region_held3 (fun W => W.cell? ⟨b, off, none⟩ = some (.int .u8 1)) (go_keep) (first | (go_at_call 73; (with_reducible refine (J.out _).mono ?_); rintro e w2 ⟨A2, n2, c2, rfl, hown, hb⟩; have hk2 : w2.cell? ⟨b, off, none⟩ = some (.int .u8 1) := (hb.cell (p := ⟨b, off, none⟩) (World.block_lt_of_cell? w _ h0)).trans h0))
    go_wp2
    go_ret3
    exact bits_yes HN.out rfl (by simpa using hown) ⟨hb.os, hb.tape, hb.output, hb.size, hb.block⟩
  · have z : ((q.toNat : Int) % 2 != 0) = true := by simp; omega
    have HN := Lib.hid (H.out.trans (if_pos hz))
    clear hz
    go_enter Try.func69, Try.ntmps69
    go_wp2
    go_quiet (fail)
    go_wp2
    go_ret3
    exact bits_no HN.out ⟨rfl, rfl, rfl, Nat.le_refl _, fun _ _ => rfl⟩
theorem bits_2 (b off n c : Nat) (q : UInt8) (bs r : List UInt8) (w : World) (hn : 2 ≤ n) (hn2 : n ≤ 1000000000) (hnc : n ≤ c) (hcc : c ≤ 9223372036854775807) (h : bitsQ bs = if q.toNat % 4 ≠ 0 then none else some (r, 2))
    (h0 : w.cell? ⟨b, off, none⟩ = some (.int .u8 2)) (hq : w.cell? ⟨b, off + (n - 1), none⟩ = some (.int .u8 (q.toNat : Int))) (hR : RB w (some ⟨b, off + 1, none⟩) (n - 1) r) :
    Calls Try.prog 69 #[.slice (some ⟨b, off, none⟩) n c] w (BitsPost w bs) := by
  have H := Lib.hid h
  clear h
  have t0 : ((n : Int) == 0) = false := by simp; omega
  have hand : bits BinOp.and IntKind.u8 (q.toNat : Int) 3 = (q.toNat : Int) % 4 := by
    have hq := q.toNat_lt
    have := u8_and_nat q.toNat 3 (by omega) (by omega)
    rw [nat_mask2] at this
    exact this.trans (by omega)
  have hi : ((n : Int) - 1).toNat = n - 1 := by omega
  have hsl := hR.1
  have hRi : RB w (if c = 1 then some ⟨b, off, none⟩ else some ⟨b, off + 1, none⟩) (n - 1) r := by
    by_cases e : c = 1
    · obtain rfl : n = 1 := by omega
      obtain rfl : r = [] := List.length_eq_zero_iff.1 hsl
      exact RB.nil _ _
    · rw [if_neg e]; exact hR
  have J := Lib.hid (fun k => joins_any [(if c = 1 then some ⟨b, off, none⟩ else some ⟨b, off + 1, none⟩, n - 1, c - 1, r)] 1 #[.slice (if c = 1 then some ⟨b, off, none⟩ else some ⟨b, off + 1, none⟩) (n - 1) (c - 1)] (w.drewN k) w.heap.size rfl rfl (by omega) rfl
    (by intro x hx; simp at hx; subst hx; exact hRi.drewN k) (by simp; omega))
  have i1 : (1 : Int) ≤ (n : Int) := by omega
  have i0 : (0 : Int) < (n : Int) := by omega
  have i2 : (n : Int) ≤ (c : Int) := by omega
  have i3 : 0 < n := by omega
  clear hR hsl hRi
  have t3 : ((n : Int) == 1) = false := by simp; omega
  by_cases hz : q.toNat % 4 = 0
  · have z : ((q.toNat : Int) % 4 != 0) = false := by simp; omega
    have HN := Lib.hid (H.out.trans (if_neg (by omega)))
    clear hz
    go_enter Try.func69, Try.ntmps69
    go_wp2
    go_quiet (fail)
    go_wp2
    go_region_held3 (fun W => W.cell? ⟨b, off, none⟩ = some (.int .u8 2)) (go_keep) (first | (go_at_call 73; (with_reducible refine (J.out _).mono ?_); rintro e w2 ⟨A2, n2, c2, rfl, hown, hb⟩; have hk2 : w2.cell? ⟨b, off, none⟩ = some (.int .u8 2) := (hb.cell (p := ⟨b, off, none⟩) (World.block_lt_of_cell? w _ h0)).trans h0))
    go_wp2
    go_ret3
    exact bits_yes HN.out rfl (by simpa using hown) ⟨hb.os, hb.tape, hb.output, hb.size, hb.block⟩
  · have z : ((q.toNat : Int) % 4 != 0) = true := by simp; omega
    have HN := Lib.hid (H.out.trans (if_pos hz))
    clear hz
    go_enter Try.func69, Try.ntmps69
    go_wp2
    go_quiet (fail)
    go_wp2
    go_ret3
    exact bits_no HN.out ⟨rfl, rfl, rfl, Nat.le_refl _, fun _ _ => rfl⟩
theorem bits_3 (b off n c : Nat) (q : UInt8) (bs r : List UInt8) (w : World) (hn : 2 ≤ n) (hn2 : n ≤ 1000000000) (hnc : n ≤ c) (hcc : c ≤ 9223372036854775807) (h : bitsQ bs = if q.toNat % 8 ≠ 0 then none else some (r, 3))
    (h0 : w.cell? ⟨b, off, none⟩ = some (.int .u8 3)) (hq : w.cell? ⟨b, off + (n - 1), none⟩ = some (.int .u8 (q.toNat : Int))) (hR : RB w (some ⟨b, off + 1, none⟩) (n - 1) r) :
    Calls Try.prog 69 #[.slice (some ⟨b, off, none⟩) n c] w (BitsPost w bs) := by
  have H := Lib.hid h
  clear h
  have t0 : ((n : Int) == 0) = false := by simp; omega
  have hand : bits BinOp.and IntKind.u8 (q.toNat : Int) 7 = (q.toNat : Int) % 8 := by
    have hq := q.toNat_lt
    have := u8_and_nat q.toNat 7 (by omega) (by omega)
    rw [nat_mask3] at this
    exact this.trans (by omega)
  have hi : ((n : Int) - 1).toNat = n - 1 := by omega
  have hsl := hR.1
  have hRi : RB w (if c = 1 then some ⟨b, off, none⟩ else some ⟨b, off + 1, none⟩) (n - 1) r := by
    by_cases e : c = 1
    · obtain rfl : n = 1 := by omega
      obtain rfl : r = [] := List.length_eq_zero_iff.1 hsl
      exact RB.nil _ _
    · rw [if_neg e]; exact hR
  have J := Lib.hid (fun k => joins_any [(if c = 1 then some ⟨b, off, none⟩ else some ⟨b, off + 1, none⟩, n - 1, c - 1, r)] 1 #[.slice (if c = 1 then some ⟨b, off, none⟩ else some ⟨b, off + 1, none⟩) (n - 1) (c - 1)] (w.drewN k) w.heap.size rfl rfl (by omega) rfl
    (by intro x hx; simp at hx; subst hx; exact hRi.drewN k) (by simp; omega))
  have i1 : (1 : Int) ≤ (n : Int) := by omega
  have i0 : (0 : Int) < (n : Int) := by omega
  have i2 : (n : Int) ≤ (c : Int) := by omega
  have i3 : 0 < n := by omega
  clear hR hsl hRi
  have t3 : ((n : Int) == 1) = false := by simp; omega
  by_cases hz : q.toNat % 8 = 0
  · have z : ((q.toNat : Int) % 8 != 0) = false := by simp; omega
    have HN := Lib.hid (H.out.trans (if_neg (by omega)))
    clear hz
    go_enter Try.func69, Try.ntmps69
    go_wp2
    go_quiet (fail)
    go_wp2
    go_region_held3 (fun W => W.cell? ⟨b, off, none⟩ = some (.int .u8 3)) (go_keep) (first | (go_at_call 73; (with_reducible refine (J.out _).mono ?_); rintro e w2 ⟨A2, n2, c2, rfl, hown, hb⟩; have hk2 : w2.cell? ⟨b, off, none⟩ = some (.int .u8 3) := (hb.cell (p := ⟨b, off, none⟩) (World.block_lt_of_cell? w _ h0)).trans h0))
    go_wp2
    go_ret3
    exact bits_yes HN.out rfl (by simpa using hown) ⟨hb.os, hb.tape, hb.output, hb.size, hb.block⟩
  · have z : ((q.toNat : Int) % 8 != 0) = true := by simp; omega
    have HN := Lib.hid (H.out.trans (if_pos hz))
    clear hz
    go_enter Try.func69, Try.ntmps69
    go_wp2
    go_quiet (fail)
    go_wp2
    go_ret3
    exact bits_no HN.out ⟨rfl, rfl, rfl, Nat.le_refl _, fun _ _ => rfl⟩
theorem bits_4 (b off n c : Nat) (q : UInt8) (bs r : List UInt8) (w : World) (hn : 2 ≤ n) (hn2 : n ≤ 1000000000) (hnc : n ≤ c) (hcc : c ≤ 9223372036854775807) (h : bitsQ bs = if q.toNat % 16 ≠ 0 then none else some (r, 4))
    (h0 : w.cell? ⟨b, off, none⟩ = some (.int .u8 4)) (hq : w.cell? ⟨b, off + (n - 1), none⟩ = some (.int .u8 (q.toNat : Int))) (hR : RB w (some ⟨b, off + 1, none⟩) (n - 1) r) :
    Calls Try.prog 69 #[.slice (some ⟨b, off, none⟩) n c] w (BitsPost w bs) := by
  have H := Lib.hid h
  clear h
  have t0 : ((n : Int) == 0) = false := by simp; omega
  have hand : bits BinOp.and IntKind.u8 (q.toNat : Int) 15 = (q.toNat : Int) % 16 := by
    have hq := q.toNat_lt
    have := u8_and_nat q.toNat 15 (by omega) (by omega)
    rw [nat_mask4] at this
    exact this.trans (by omega)
  have hi : ((n : Int) - 1).toNat = n - 1 := by omega
  have hsl := hR.1
  have hRi : RB w (if c = 1 then some ⟨b, off, none⟩ else some ⟨b, off + 1, none⟩) (n - 1) r := by
    by_cases e : c = 1
    · obtain rfl : n = 1 := by omega
      obtain rfl : r = [] := List.length_eq_zero_iff.1 hsl
      exact RB.nil _ _
    · rw [if_neg e]; exact hR
  have J := Lib.hid (fun k => joins_any [(if c = 1 then some ⟨b, off, none⟩ else some ⟨b, off + 1, none⟩, n - 1, c - 1, r)] 1 #[.slice (if c = 1 then some ⟨b, off, none⟩ else some ⟨b, off + 1, none⟩) (n - 1) (c - 1)] (w.drewN k) w.heap.size rfl rfl (by omega) rfl
    (by intro x hx; simp at hx; subst hx; exact hRi.drewN k) (by simp; omega))
  have i1 : (1 : Int) ≤ (n : Int) := by omega
  have i0 : (0 : Int) < (n : Int) := by omega
  have i2 : (n : Int) ≤ (c : Int) := by omega
  have i3 : 0 < n := by omega
  clear hR hsl hRi
  have t3 : ((n : Int) == 1) = false := by simp; omega
  by_cases hz : q.toNat % 16 = 0
  · have z : ((q.toNat : Int) % 16 != 0) = false := by simp; omega
    have HN := Lib.hid (H.out.trans (if_neg (by omega)))
    clear hz
    go_enter Try.func69, Try.ntmps69
    go_wp2
    go_quiet (fail)
    go_wp2
    go_region_held3 (fun W => W.cell? ⟨b, off, none⟩ = some (.int .u8 4)) (go_keep) (first | (go_at_call 73; (with_reducible refine (J.out _).mono ?_); rintro e w2 ⟨A2, n2, c2, rfl, hown, hb⟩; have hk2 : w2.cell? ⟨b, off, none⟩ = some (.int .u8 4) := (hb.cell (p := ⟨b, off, none⟩) (World.block_lt_of_cell? w _ h0)).trans h0))
    go_wp2
    go_ret3
    exact bits_yes HN.out rfl (by simpa using hown) ⟨hb.os, hb.tape, hb.output, hb.size, hb.block⟩
  · have z : ((q.toNat : Int) % 16 != 0) = true := by simp; omega
    have HN := Lib.hid (H.out.trans (if_pos hz))
    clear hz
    go_enter Try.func69, Try.ntmps69
    go_wp2
    go_quiet (fail)
    go_wp2
    go_ret3
    exact bits_no HN.out ⟨rfl, rfl, rfl, Nat.le_refl _, fun _ _ => rfl⟩
theorem bits_5 (b off n c : Nat) (q : UInt8) (bs r : List UInt8) (w : World) (hn : 2 ≤ n) (hn2 : n ≤ 1000000000) (hnc : n ≤ c) (hcc : c ≤ 9223372036854775807) (h : bitsQ bs = if q.toNat % 32 ≠ 0 then none else some (r, 5))
    (h0 : w.cell? ⟨b, off, none⟩ = some (.int .u8 5)) (hq : w.cell? ⟨b, off + (n - 1), none⟩ = some (.int .u8 (q.toNat : Int))) (hR : RB w (some ⟨b, off + 1, none⟩) (n - 1) r) :
    Calls Try.prog 69 #[.slice (some ⟨b, off, none⟩) n c] w (BitsPost w bs) := by
  have H := Lib.hid h
  clear h
  have t0 : ((n : Int) == 0) = false := by simp; omega
  have hand : bits BinOp.and IntKind.u8 (q.toNat : Int) 31 = (q.toNat : Int) % 32 := by
    have hq := q.toNat_lt
    have := u8_and_nat q.toNat 31 (by omega) (by omega)
    rw [nat_mask5] at this
    exact this.trans (by omega)
  have hi : ((n : Int) - 1).toNat = n - 1 := by omega
  have hsl := hR.1
  have hRi : RB w (if c = 1 then some ⟨b, off, none⟩ else some ⟨b, off + 1, none⟩) (n - 1) r := by
    by_cases e : c = 1
    · obtain rfl : n = 1 := by omega
      obtain rfl : r = [] := List.length_eq_zero_iff.1 hsl
      exact RB.nil _ _
    · rw [if_neg e]; exact hR
  have J := Lib.hid (fun k => joins_any [(if c = 1 then some ⟨b, off, none⟩ else some ⟨b, off + 1, none⟩, n - 1, c - 1, r)] 1 #[.slice (if c = 1 then some ⟨b, off, none⟩ else some ⟨b, off + 1, none⟩) (n - 1) (c - 1)] (w.drewN k) w.heap.size rfl rfl (by omega) rfl
    (by intro x hx; simp at hx; subst hx; exact hRi.drewN k) (by simp; omega))
  have i1 : (1 : Int) ≤ (n : Int) := by omega
  have i0 : (0 : Int) < (n : Int) := by omega
  have i2 : (n : Int) ≤ (c : Int) := by omega
  have i3 : 0 < n := by omega
  clear hR hsl hRi
  have t3 : ((n : Int) == 1) = false := by simp; omega
  by_cases hz : q.toNat % 32 = 0
  · have z : ((q.toNat : Int) % 32 != 0) = false := by simp; omega
    have HN := Lib.hid (H.out.trans (if_neg (by omega)))
    clear hz
    go_enter Try.func69, Try.ntmps69
    go_wp2
    go_quiet (fail)
    go_wp2
    go_region_held3 (fun W => W.cell? ⟨b, off, none⟩ = some (.int .u8 5)) (go_keep) (first | (go_at_call 73; (with_reducible refine (J.out _).mono ?_); rintro e w2 ⟨A2, n2, c2, rfl, hown, hb⟩; have hk2 : w2.cell? ⟨b, off, none⟩ = some (.int .u8 5) := (hb.cell (p := ⟨b, off, none⟩) (World.block_lt_of_cell? w _ h0)).trans h0))
    go_wp2
    go_ret3
    exact bits_yes HN.out rfl (by simpa using hown) ⟨hb.os, hb.tape, hb.output, hb.size, hb.block⟩
  · have z : ((q.toNat : Int) % 32 != 0) = true := by simp; omega
    have HN := Lib.hid (H.out.trans (if_pos hz))
    clear hz
    go_enter Try.func69, Try.ntmps69
    go_wp2
    go_quiet (fail)
    go_wp2
    go_ret3
    exact bits_no HN.out ⟨rfl, rfl, rfl, Nat.le_refl _, fun _ _ => rfl⟩
theorem bits_6 (b off n c : Nat) (q : UInt8) (bs r : List UInt8) (w : World) (hn : 2 ≤ n) (hn2 : n ≤ 1000000000) (hnc : n ≤ c) (hcc : c ≤ 9223372036854775807) (h : bitsQ bs = if q.toNat % 64 ≠ 0 then none else some (r, 6))
    (h0 : w.cell? ⟨b, off, none⟩ = some (.int .u8 6)) (hq : w.cell? ⟨b, off + (n - 1), none⟩ = some (.int .u8 (q.toNat : Int))) (hR : RB w (some ⟨b, off + 1, none⟩) (n - 1) r) :
    Calls Try.prog 69 #[.slice (some ⟨b, off, none⟩) n c] w (BitsPost w bs) := by
  have H := Lib.hid h
  clear h
  have t0 : ((n : Int) == 0) = false := by simp; omega
  have hand : bits BinOp.and IntKind.u8 (q.toNat : Int) 63 = (q.toNat : Int) % 64 := by
    have hq := q.toNat_lt
    have := u8_and_nat q.toNat 63 (by omega) (by omega)
    rw [nat_mask6] at this
    exact this.trans (by omega)
  have hi : ((n : Int) - 1).toNat = n - 1 := by omega
  have hsl := hR.1
  have hRi : RB w (if c = 1 then some ⟨b, off, none⟩ else some ⟨b, off + 1, none⟩) (n - 1) r := by
    by_cases e : c = 1
    · obtain rfl : n = 1 := by omega
      obtain rfl : r = [] := List.length_eq_zero_iff.1 hsl
      exact RB.nil _ _
    · rw [if_neg e]; exact hR
  have J := Lib.hid (fun k => joins_any [(if c = 1 then some ⟨b, off, none⟩ else some ⟨b, off + 1, none⟩, n - 1, c - 1, r)] 1 #[.slice (if c = 1 then some ⟨b, off, none⟩ else some ⟨b, off + 1, none⟩) (n - 1) (c - 1)] (w.drewN k) w.heap.size rfl rfl (by omega) rfl
    (by intro x hx; simp at hx; subst hx; exact hRi.drewN k) (by simp; omega))
  have i1 : (1 : Int) ≤ (n : Int) := by omega
  have i0 : (0 : Int) < (n : Int) := by omega
  have i2 : (n : Int) ≤ (c : Int) := by omega
  have i3 : 0 < n := by omega
  clear hR hsl hRi
  have t3 : ((n : Int) == 1) = false := by simp; omega
  by_cases hz : q.toNat % 64 = 0
  · have z : ((q.toNat : Int) % 64 != 0) = false := by simp; omega
    have HN := Lib.hid (H.out.trans (if_neg (by omega)))
    clear hz
    go_enter Try.func69, Try.ntmps69
    go_wp2
    go_quiet (fail)
    go_wp2
    go_region_held3 (fun W => W.cell? ⟨b, off, none⟩ = some (.int .u8 6)) (go_keep) (first | (go_at_call 73; (with_reducible refine (J.out _).mono ?_); rintro e w2 ⟨A2, n2, c2, rfl, hown, hb⟩; have hk2 : w2.cell? ⟨b, off, none⟩ = some (.int .u8 6) := (hb.cell (p := ⟨b, off, none⟩) (World.block_lt_of_cell? w _ h0)).trans h0))
    go_wp2
    go_ret3
    exact bits_yes HN.out rfl (by simpa using hown) ⟨hb.os, hb.tape, hb.output, hb.size, hb.block⟩
  · have z : ((q.toNat : Int) % 64 != 0) = true := by simp; omega
    have HN := Lib.hid (H.out.trans (if_pos hz))
    clear hz
    go_enter Try.func69, Try.ntmps69
    go_wp2
    go_quiet (fail)
    go_wp2
    go_ret3
    exact bits_no HN.out ⟨rfl, rfl, rfl, Nat.le_refl _, fun _ _ => rfl⟩
theorem bits_7 (b off n c : Nat) (q : UInt8) (bs r : List UInt8) (w : World) (hn : 2 ≤ n) (hn2 : n ≤ 1000000000) (hnc : n ≤ c) (hcc : c ≤ 9223372036854775807) (h : bitsQ bs = if q.toNat % 128 ≠ 0 then none else some (r, 7))
    (h0 : w.cell? ⟨b, off, none⟩ = some (.int .u8 7)) (hq : w.cell? ⟨b, off + (n - 1), none⟩ = some (.int .u8 (q.toNat : Int))) (hR : RB w (some ⟨b, off + 1, none⟩) (n - 1) r) :
    Calls Try.prog 69 #[.slice (some ⟨b, off, none⟩) n c] w (BitsPost w bs) := by
  have H := Lib.hid h
  clear h
  have t0 : ((n : Int) == 0) = false := by simp; omega
  have hand : bits BinOp.and IntKind.u8 (q.toNat : Int) 127 = (q.toNat : Int) % 128 := by
    have hq := q.toNat_lt
    have := u8_and_nat q.toNat 127 (by omega) (by omega)
    rw [nat_mask7] at this
    exact this.trans (by omega)
  have hi : ((n : Int) - 1).toNat = n - 1 := by omega
  have hsl := hR.1
  have hRi : RB w (if c = 1 then some ⟨b, off, none⟩ else some ⟨b, off + 1, none⟩) (n - 1) r := by
    by_cases e : c = 1
    · obtain rfl : n = 1 := by omega
      obtain rfl : r = [] := List.length_eq_zero_iff.1 hsl
      exact RB.nil _ _
    · rw [if_neg e]; exact hR
  have J := Lib.hid (fun k => joins_any [(if c = 1 then some ⟨b, off, none⟩ else some ⟨b, off + 1, none⟩, n - 1, c - 1, r)] 1 #[.slice (if c = 1 then some ⟨b, off, none⟩ else some ⟨b, off + 1, none⟩) (n - 1) (c - 1)] (w.drewN k) w.heap.size rfl rfl (by omega) rfl
    (by intro x hx; simp at hx; subst hx; exact hRi.drewN k) (by simp; omega))
  have i1 : (1 : Int) ≤ (n : Int) := by omega
  have i0 : (0 : Int) < (n : Int) := by omega
  have i2 : (n : Int) ≤ (c : Int) := by omega
  have i3 : 0 < n := by omega
  clear hR hsl hRi
  have t3 : ((n : Int) == 1) = false := by simp; omega
  by_cases hz : q.toNat % 128 = 0
  · have z : ((q.toNat : Int) % 128 != 0) = false := by simp; omega
    have HN := Lib.hid (H.out.trans (if_neg (by omega)))
    clear hz
    go_enter Try.func69, Try.ntmps69
    go_wp2
    go_quiet (fail)
    go_wp2
    go_region_held3 (fun W => W.cell? ⟨b, off, none⟩ = some (.int .u8 7)) (go_keep) (first | (go_at_call 73; (with_reducible refine (J.out _).mono ?_); rintro e w2 ⟨A2, n2, c2, rfl, hown, hb⟩; have hk2 : w2.cell? ⟨b, off, none⟩ = some (.int .u8 7) := (hb.cell (p := ⟨b, off, none⟩) (World.block_lt_of_cell? w _ h0)).trans h0))
    go_wp2
    go_ret3
    exact bits_yes HN.out rfl (by simpa using hown) ⟨hb.os, hb.tape, hb.output, hb.size, hb.block⟩
  · have z : ((q.toNat : Int) % 128 != 0) = true := by simp; omega
    have HN := Lib.hid (H.out.trans (if_pos hz))
    clear hz
    go_enter Try.func69, Try.ntmps69
    go_wp2
    go_quiet (fail)
    go_wp2
    go_ret3
    exact bits_no HN.out ⟨rfl, rfl, rfl, Nat.le_refl _, fun _ _ => rfl⟩
theorem bits_0a (b off n c : Nat) (q : UInt8) (bs r : List UInt8) (w : World) (hn : 1 ≤ n) (hn2 : n ≤ 1000000000) (hnc : n ≤ c) (hcc : c ≤ 9223372036854775807) (h : bitsQ bs = some (r, 0))
    (h0 : w.cell? ⟨b, off, none⟩ = some (.int .u8 0)) (hq : w.cell? ⟨b, off + (1 - 1), none⟩ = some (.int .u8 (q.toNat : Int))) (hR : RB w (some ⟨b, off, none⟩) (1 - 1) r) :
    Calls Try.prog 69 #[.slice (some ⟨b, off, none⟩) 1 1] w (BitsPost w bs) := by
  have HN := Lib.hid h
  clear h
  have hq : w.cell? ⟨b, off, none⟩ = some (.int .u8 (q.toNat : Int)) := hq
  have hand : bits BinOp.and IntKind.u8 (q.toNat : Int) 0 = 0 := by
    have hq := q.toNat_lt
    have := u8_and_nat q.toNat 0 (by omega) (by omega)
    rw [Nat.and_zero] at this
    exact this
  have hsl := hR.1
  have J := Lib.hid (fun k => joins_any [(some ⟨b, off, none⟩, 1 - 1, 1 - 1, r)] 1 #[.slice (some ⟨b, off, none⟩) (1 - 1) (1 - 1)] (w.drewN k) w.heap.size rfl rfl (by omega) rfl
    (by intro x hx; simp at hx; subst hx; exact hR.drewN k) (by simp; omega))
  clear hR hsl
  go_enter Try.func69, Try.ntmps69
  go_wp2
  go_quiet (fail)
  go_wp2
  go_region_held3 (fun W => W.cell? ⟨b, off, none⟩ = some (.int .u8 0)) (go_keep) (first | (go_at_call 73; (with_reducible refine (J.out _).mono ?_); rintro e w2 ⟨A2, n2, c2, rfl, hown, hb⟩; have hk2 : w2.cell? ⟨b, off, none⟩ = some (.int .u8 0) := (hb.cell (p := ⟨b, off, none⟩) (World.block_lt_of_cell? w _ h0)).trans h0))
  go_wp2
  go_ret3
  exact bits_yes HN.out rfl (by simpa using hown) ⟨hb.os, hb.tape, hb.output, hb.size, hb.block⟩
theorem bits_0b (b off n c : Nat) (q : UInt8) (bs r : List UInt8) (w : World) (hc1 : ¬ c = 1) (hn : 1 ≤ n) (hn2 : n ≤ 1000000000) (hnc : n ≤ c) (hcc : c ≤ 9223372036854775807) (h : bitsQ bs = some (r, 0))
    (h0 : w.cell? ⟨b, off, none⟩ = some (.int .u8 0)) (hq : w.cell? ⟨b, off + (n - 1), none⟩ = some (.int .u8 (q.toNat : Int))) (hR : RB w (some ⟨b, off + 1, none⟩) (n - 1) r) :
    Calls Try.prog 69 #[.slice (some ⟨b, off, none⟩) n c] w (BitsPost w bs) := by
  have HN := Lib.hid h
  clear h
  have t0 : ((n : Int) == 0) = false := by simp; omega
  have hi : ((n : Int) - 1).toNat = n - 1 := by omega
  have i1 : (1 : Int) ≤ (n : Int) := by omega
  have i0 : (0 : Int) < (n : Int) := by omega
  have i2 : (n : Int) ≤ (c : Int) := by omega
  have i3 : 0 < n := by omega
  have hand : bits BinOp.and IntKind.u8 (q.toNat : Int) 0 = 0 := by
    have hq := q.toNat_lt
    have := u8_and_nat q.toNat 0 (by omega) (by omega)
    rw [Nat.and_zero] at this
    exact this
  have hsl := hR.1
  have J := Lib.hid (fun k => joins_any [(some ⟨b, off + 1, none⟩, n - 1, c - 1, r)] 1 #[.slice (some ⟨b, off + 1, none⟩) (n - 1) (c - 1)] (w.drewN k) w.heap.size rfl rfl (by omega) rfl
    (by intro x hx; simp at hx; subst hx; exact hR.drewN k) (by simp; omega))
  clear hR hsl
  go_enter Try.func69, Try.ntmps69
  go_wp2
  go_quiet (fail)
  go_wp2
  go_region_held3 (fun W => W.cell? ⟨b, off, none⟩ = some (.int .u8 0)) (go_keep) (first | (go_at_call 73; (with_reducible refine (J.out _).mono ?_); rintro e w2 ⟨A2, n2, c2, rfl, hown, hb⟩; have hk2 : w2.cell? ⟨b, off, none⟩ = some (.int .u8 0) := (hb.cell (p := ⟨b, off, none⟩) (World.block_lt_of_cell? w _ h0)).trans h0))
  go_wp2
  go_ret3
  exact bits_yes HN.out rfl (by simpa using hown) ⟨hb.os, hb.tape, hb.output, hb.size, hb.block⟩
theorem bits_any (A : Option Addr) (n c : Nat) (bs : List UInt8) (w : World) (hR : RB w A n bs) (hnc : n ≤ c) (hn : n ≤ 1000000000) (hcc : c ≤ 9223372036854775807) :
    Calls Try.prog 69 #[.slice A n c] w (BitsPost w bs) := by
  have hl := hR.1
  match bs, hl with
  | [], hl =>
    obtain rfl : n = 0 := by simpa using hl.symm
    exact bits_zero A c w
  | d :: r, hl =>
    have hl : r.length + 1 = n := by simpa using hl
    obtain ⟨b, off, d', rfl, _, hd, c0⟩ := hR.at_ (k := 0) (by omega)
    simp at hd
    subst hd
    have c0 : w.cell? ⟨b, off, none⟩ = some (.int .u8 (d.toNat : Int)) := c0
    by_cases hbad : 7 < d.toNat ∨ (0 < d.toNat ∧ n = 1)
    · refine bits_bad b off n c d _ w (by omega) hn ?_ c0 hbad
      simp only [bitsQ]
      rw [if_pos (by rcases hbad with h | ⟨h, h2⟩; exact .inl h; exact .inr ⟨h, List.length_eq_zero_iff.1 (by omega)⟩)]
    obtain ⟨b', off', q, e', _, hq, c1⟩ := hR.at_ (k := n - 1) (by omega)
    cases e'
    have hlast : (d :: r).getLastD 0 = q := by
      rw [List.getLastD_eq_getLast?, List.getLast?_eq_getElem?]
      simp only [List.length_cons, hl]
      rw [hq]; rfl
    have hq2 : bitsQ (d :: r) = if q.toNat % 2 ^ d.toNat ≠ 0 then none else some (r, d.toNat) := by
      simp only [bitsQ]
      rw [if_neg (by rintro (h | ⟨h, h2⟩); exact hbad (.inl h); subst h2; exact hbad (.inr ⟨h, by simpa using hl.symm⟩)), hlast]
    have hRr : RB w (some ⟨b, off + 1, none⟩) (n - 1) r := by
      have h1 := hR.2.drop_ 1
      have h1 : Bs w w.heap.size ((some ⟨b, off, none⟩ : Option Addr).map (·.add 1)) r := h1
      rw [show ((some ⟨b, off, none⟩ : Option Addr).map (·.add 1)) = some ⟨b, off + 1, none⟩ from rfl] at h1
      exact ⟨by omega, h1⟩
    generalize hD : d.toNat = D at *
    have hD7 : D ≤ 7 := by omega
    by_cases hD0 : D = 0
    · subst hD0
      have hq3 : bitsQ (d :: r) = some (r, 0) := hq2.trans (if_neg (by rw [Nat.pow_zero]; omega))
      by_cases hc1 : c = 1
      · obtain rfl : n = 1 := by omega
        subst hc1
        obtain rfl : r = [] := List.length_eq_zero_iff.1 (by omega)
        exact bits_0a b off 1 1 q _ _ w (by omega) hn hnc (by omega) hq3 c0 c1 (RB.nil _ _)
      · exact bits_0b b off n c q (d :: r) r w hc1 (by omega) hn hnc hcc hq3 c0 c1 hRr
    by_cases hD1 : D = 1
    · subst hD1
      exact bits_1 b off n c q (d :: r) r w (by omega) hn hnc hcc hq2 c0 c1 hRr
    by_cases hD2 : D = 2
    · subst hD2
      exact bits_2 b off n c q (d :: r) r w (by omega) hn hnc hcc hq2 c0 c1 hRr
    by_cases hD3 : D = 3
    · subst hD3
      exact bits_3 b off n c q (d :: r) r w (by omega) hn hnc hcc hq2 c0 c1 hRr
    by_cases hD4 : D = 4
    · subst hD4
      exact bits_4 b off n c q (d :: r) r w (by omega) hn hnc hcc hq2 c0 c1 hRr
    by_cases hD5 : D = 5
    · subst hD5
      exact bits_5 b off n c q (d :: r) r w (by omega) hn hnc hcc hq2 c0 c1 hRr
    by_cases hD6 : D = 6
    · subst hD6
      exact bits_6 b off n c q (d :: r) r w (by omega) hn hnc hcc hq2 c0 c1 hRr
    by_cases hD7 : D = 7
    · subst hD7
      exact bits_7 b off n c q (d :: r) r w (by omega) hn hnc hcc hq2 c0 c1 hRr
    omega
end Go.Proofs.Ytomolfdcdmncoaa
namespace Go.Proofs.Ytomolfdcdmncoaa
open Go.RowKit Go
set_option linter.unusedVariables false
set_option maxRecDepth 100000
theorem ofNat_small (n : Nat) (h : n < 256) : ((UInt8.ofNat n).toNat : Int) = (n : Int) := by
  rw [UInt8.toNat_ofNat']; omega
theorem own_lit (w : World) (bs : List UInt8) (n : Nat) (cs : Array Value) (h : cs.toList = bs.map bv) (hn : bs.length = n) (hm : n ≤ 1000000) :
    OwnB (w.alloc (.cells cs 5)) w.heap.size (some ⟨w.heap.size, 0, none⟩) n n bs := by
  have hl : cs.size = n := by rw [← Array.length_toList, h, List.length_map, hn]
  refine ⟨by simp [hn], .inr ⟨w.heap.size, n, cs, rfl, Nat.le_refl _, heap_alloc_new w _, Nat.le_refl _, by unfold maxLen; omega, by omega, ?_⟩⟩
  rw [h, List.take_of_length_le (by simp; omega)]
end Go.Proofs.Ytomolfdcdmncoaa
namespace Go.Proofs.Ytomolfdcdmncoaa
open Go.RowKit Go
set_option linter.unusedVariables false
set_option maxRecDepth 100000
/-- The bytes of a number that go on. -/
def sevC (n : Nat) : List UInt8 := if h : n = 0 then [] else sevC (n / 128) ++ [UInt8.ofNat (128 + n % 128)]
termination_by n
decreasing_by omega
theorem sevC_zero : sevC 0 = [] := by unfold sevC; rfl
theorem sevC_pos {n : Nat} (h : n ≠ 0) : sevC n = sevC (n / 128) ++ [UInt8.ofNat (128 + n % 128)] := by
  conv => lhs; unfold sevC
  rw [dif_neg h]
/-- A number's bytes. -/
def sev (n : Nat) : List UInt8 := sevC (n / 128) ++ [UInt8.ofNat (n % 128)]
theorem sevC_len : ∀ (k n : Nat), n < 128 ^ k → (sevC n).length ≤ k
  | 0, n, h => by
    obtain rfl : n = 0 := by simp at h; exact h
    rw [sevC_zero]; simp
  | k + 1, n, h => by
    by_cases h0 : n = 0
    · subst h0; rw [sevC_zero]; simp
    · rw [sevC_pos h0]
      have := sevC_len k (n / 128) (by rw [Nat.pow_succ] at h; omega)
      simp; omega
theorem sev_len (n : Nat) (h : n < 18446744073709551616) : (sev n).length ≤ 10 := by
  have := sevC_len 9 (n / 128) (by
    have : (128 : Nat) ^ 9 = 9223372036854775808 := by decide
    omega)
  unfold sev
  simp; omega
theorem sev_small {n : Nat} (h : n < 128) : sev n = [UInt8.ofNat n] := by
  unfold sev
  rw [show n / 128 = 0 by omega, sevC_zero, Nat.mod_eq_of_lt h]; rfl
theorem sevC_of_sev {n : Nat} (h : n ≠ 0) : sevC n = (sev n).set ((sev n).length - 1) (UInt8.ofNat (128 + n % 128)) := by
  rw [sevC_pos h]
  unfold sev
  simp
theorem sev_last (n : Nat) : (sev n)[(sev n).length - 1]? = some (UInt8.ofNat (n % 128)) := by
  unfold sev; simp
theorem sev_pos (n : Nat) : 0 < (sev n).length := by unfold sev; simp
theorem or128 (v : Nat) (h : v < 256) : bits BinOp.or IntKind.u8 (v : Int) 128 = ((128 + v % 128 : Nat) : Int) := by
  have e := u8_or_nat v 128 h (by omega)
  refine e.trans ?_
  have : ∀ v : Fin 256, (v.val ||| 128) = 128 + v.val % 128 := by decide
  exact congrArg Nat.cast (this ⟨v, h⟩)
theorem not128w (x : Nat) (h : x < 18446744073709551616) : ∃ z : Nat, bits BinOp.andNot IntKind.u64 (x : Int) 128 = (z : Int) ∧ z < 18446744073709551616 ∧ z % 256 = x % 128 := by
  have e := u64_andNot_nat x 128 h (by omega)
  refine ⟨_, e, ?_, ?_⟩
  · exact Nat.lt_of_le_of_lt Nat.and_le_left h
  · have h1 : ∀ a b : Nat, (a &&& b) % 2 ^ 8 = (a % 2 ^ 8) &&& (b % 2 ^ 8) := fun a b => Nat.and_mod_two_pow
    have h2 := h1 x (18446744073709551615 - 128)
    have h3 : ∀ v : Fin 256, (v.val &&& 127) = v.val % 128 := by decide
    have h4 := h3 ⟨x % 256, by omega⟩
    have h5 : (18446744073709551615 - 128) % 2 ^ 8 = 127 := by decide
    rw [h5] at h2
    have h6 : (2 : Nat) ^ 8 = 256 := by decide
    rw [h6] at h2
    rw [h2]
    simp only at h4
    omega
set_option maxHeartbeats 2000000 in
theorem sevens_any (x : Nat) : ∀ (hx : x < 18446744073709551616) (w : World), Calls Try.prog 43 #[.int .u64 (x : Int)] w (Fresh w (sev x)) := by
  induction x using Nat.strongRecOn with
  | _ x ih =>
    intro hx w
    by_cases hs : x < 128
    · have e := sev_small hs
      have hx8 : (x : Int) % 256 = (x : Int) := by omega
      obtain ⟨q, hq⟩ : ∃ q : UInt8, q = UInt8.ofNat x := ⟨_, rfl⟩
      have hq2 : (x : Int) = (q.toNat : Int) := by rw [hq, UInt8.toNat_ofNat']; omega
      rw [← hq] at e
      have HE := Lib.hid e
      clear e hq ih
      go_enter Try.func43, Try.ntmps43
      go_wp2
      go_ret
      exact ⟨_, 1, 1, rfl, by rw [HE.out]; exact own_lit w [q] 1 _ rfl rfl (by omega), (Below.refl _ _).alloc (Nat.le_refl _) _⟩
    · have I0 := ih (x / 128) (by omega) (by omega) w
      rw [show ((x / 128 : Nat) : Int) = (x : Int) / 128 from by omega] at I0
      have I := Lib.hid I0
      clear I0
      have HL := Lib.hid (sev_len (x / 128) (by omega))
      have HLp := Lib.hid (sev_pos (x / 128))
      have HC := Lib.hid (sevC_of_sev (n := x / 128) (by omega))
      have HT := Lib.hid (sev_last (x / 128))
      obtain ⟨q, hq⟩ : ∃ q : UInt8, q = UInt8.ofNat (x % 128) := ⟨_, rfl⟩
      have HE : Hid (sev x = sevC (x / 128) ++ [q]) := by rw [hq]; rfl
      have hq2 : (x : Int) % 128 = (q.toNat : Int) := by rw [hq, UInt8.toNat_ofNat']; omega
      obtain ⟨z, hz⟩ : ∃ z : UInt8, z = UInt8.ofNat (x / 128 % 128) := ⟨_, rfl⟩
      obtain ⟨y, hy⟩ : ∃ y : UInt8, y = UInt8.ofNat (128 + x / 128 % 128) := ⟨_, rfl⟩
      have hzy : (z.toNat : Int) + 128 = (y.toNat : Int) := by rw [hz, hy, UInt8.toNat_ofNat', UInt8.toNat_ofNat']; omega
      have hz1 : (z.toNat : Int) < 128 := by rw [hz, UInt8.toNat_ofNat']; omega
      rw [← hz] at HT
      rw [← hy] at HC
      clear hq hz hy ih
      generalize sev (x / 128) = S at *
      go_enter Try.func43, Try.ntmps43
      go_wp2_with fail
      refine I.out.mono ?_
      rintro e w1 ⟨A1, n1, c1, rfl, hown, hbl⟩
      have hl1 := hown.len
      have h10 := HL.out
      have h1p := HLp.out
      obtain ⟨g, rfl, hgb, hgl⟩ := hown.shape (by have := hown.cap; omega)
      have hcell := hown.cellAt (n1 - 1) z (by rw [← hl1]; exact HT.out)
      have hfree := hown.free (n1 - 1)
      have i1 : ((n1 : Int) - 1).toNat = n1 - 1 := by omega
      have hst := hown.stored (n1 - 1) y
      have HST := Lib.hid hst
      clear hst
      have hl1' := Lib.hid hl1
      have h1n : 1 ≤ n1 := by omega
      have h2n : n1 ≤ 10 := by omega
      clear hl1 h10 h1p
      have hsz := hbl.size
      have hsz2 : (w1.setCell ⟨g, n1 - 1, none⟩ (.int .u8 (y.toNat : Int))).heap.size = w1.heap.size := by simp
      have HRq : Hid (RB ((w1.setCell ⟨g, n1 - 1, none⟩ (.int .u8 (y.toNat : Int))).alloc (.cells #[.int .u8 (q.toNat : Int)] 5)) (some ⟨w1.heap.size, 0, none⟩) 1 [q]) := by
        have := (own_lit (w1.setCell ⟨g, n1 - 1, none⟩ (.int .u8 (y.toNat : Int))) [q] 1 #[.int .u8 (q.toNat : Int)] rfl rfl (by omega)).rb
        rw [hsz2] at this
        exact this
      clear hsz2
      go_wp2_with (at_builtin; refine wpList_apn _ _ rfl rfl rfl w.heap.size (some ⟨g, 0, none⟩) n1 c1 _ rfl (HST.out.alloc _) (some ⟨w1.heap.size, 0, none⟩) 1 1 [q] rfl HRq.out (by omega) (by simp; omega) ?_)
      intro A3 c3 w3 hown3 hg3
      go_wp2
      go_ret
      refine ⟨A3, n1 + 1, c3, rfl, ?_, ?_⟩
      · rw [HE.out, HC.out, hl1'.out]; exact hown3
      · exact ((hbl.setCell (p := ⟨g, n1 - 1, none⟩) hgb _).alloc (by simp; omega) _).grown hg3 (by simp; omega) (fun k hk => by injection hk with hk; subst hk; exact hgb)
end Go.Proofs.Ytomolfdcdmncoaa
namespace Go.Proofs.Ytomolfdcdmncoaa
open Go.RowKit Go
set_option linter.unusedVariables false
set_option maxRecDepth 100000
theorem rb_cut {w : World} {b off n c k : Nat} {bs : List UInt8} (h : RB w (some ⟨b, off, none⟩) n bs) (hnc : n ≤ c) (hk : k ≤ n) :
    RB w (if c = k then some ⟨b, off, none⟩ else some ⟨b, off + k, none⟩) (n - k) (bs.drop k) := by
  refine ⟨by rw [List.length_drop, h.1], ?_⟩
  by_cases e : c = k
  · rw [List.drop_of_length_le (by rw [h.1]; omega)]
    exact Bs.nil
  · rw [if_neg e]
    have h2 := h.2.drop_ k
    simp only [Option.map_some, Addr.add_lit] at h2
    exact h2
theorem rb_take {w : World} {A : Option Addr} {n k : Nat} {bs : List UInt8} (h : RB w A n bs) (hk : k ≤ n) : RB w A k (bs.take k) :=
  ⟨by rw [List.length_take, h.1]; omega, h.2.take_ k⟩
theorem numG_le : ∀ (bs : List UInt8) (x i X N : Nat), numG bs x i = some (X, N) → i < N ∧ N ≤ i + bs.length
  | [], _, _, _, _, h => by cases h
  | d :: r, x, i, X, N, h => by
    rw [numG_cons] at h
    split at h; cases h
    split at h
    · simp only [Option.some.injEq, Prod.mk.injEq] at h
      obtain ⟨_, rfl⟩ := h
      simp
    · have := numG_le r _ _ _ _ h
      simp; omega
theorem numG_lt : ∀ (bs : List UInt8) (x i X N : Nat), numG bs x i = some (X, N) → X < 18446744073709551616
  | [], _, _, _, _, h => by cases h
  | d :: r, x, i, X, N, h => by
    rw [numG_cons] at h
    split at h; cases h
    split at h
    · simp only [Option.some.injEq, Prod.mk.injEq] at h
      omega
    · exact numG_lt r _ _ _ _ h
theorem numQ_le {bs : List UInt8} {X N : Nat} (h : numQ bs = some (X, N)) : 1 ≤ N ∧ N ≤ bs.length := by
  have := numG_le _ _ _ _ _ h; omega
theorem numQ_lt {bs : List UInt8} {X N : Nat} (h : numQ bs = some (X, N)) : X < 18446744073709551616 := numG_lt _ _ _ _ _ h
/-- The numbers of which bytes consist. -/
def numsQ (bs : List UInt8) : Option (List Nat) :=
  if h : bs = [] then some [] else match hq : numQ bs with
    | none => none
    | some (x, n) => (numsQ (bs.drop n)).map (x :: ·)
termination_by bs.length
decreasing_by
  have := numQ_le hq
  have : bs.length ≠ 0 := fun e => h (List.length_eq_zero_iff.1 e)
  rw [List.length_drop]
  omega
theorem numsQ_nil : numsQ [] = some [] := by unfold numsQ; rfl
theorem numsQ_none {bs : List UInt8} (hn : bs ≠ []) (h : numQ bs = none) : numsQ bs = none := by
  unfold numsQ
  rw [dif_neg hn]
  split
  · rfl
  · rename_i x n hq; rw [h] at hq; cases hq
theorem numsQ_some {bs : List UInt8} {x n : Nat} (h : numQ bs = some (x, n)) : numsQ bs = (numsQ (bs.drop n)).map (x :: ·) := by
  have hn : bs ≠ [] := by rintro rfl; cases h
  conv => lhs; unfold numsQ
  rw [dif_neg hn]
  split
  · rename_i hq; rw [h] at hq; cases hq
  · rename_i x' n' hq
    rw [h] at hq
    cases hq
    rfl
/-- The arcs that numbers tell. -/
def arcs : List Nat → List Nat
  | [] => []
  | x :: r => min (x / 40) 2 :: (x - 40 * min (x / 40) 2) :: r
theorem arcs_snoc (l : List Nat) (x : Nat) (h : l ≠ []) : arcs (l ++ [x]) = arcs l ++ [x] := by
  cases l with
  | nil => exact absurd rfl h
  | cons y r => rfl
theorem arcs_len (l : List Nat) : (arcs l).length ≤ l.length + 1 := by cases l <;> simp [arcs]
def oidQ (bs : List UInt8) : Option (List Nat) := match numsQ bs with
  | some (x :: r) => some (arcs (x :: r))
  | _ => none
abbrev u64v (x : Nat) : Value := .int .u64 (x : Int)
theorem u64_row : RowT 52 26 1 8 (.int .u64 0) := ⟨Try.underlying52, by kernel_rfl, rfl, by decide⟩
def OidPost (w : World) (bs : List UInt8) (e : Ending) (w' : World) : Prop :=
  (match oidQ bs with
    | some l => ∃ A n c, e = .returned (.tuple #[.slice A n c, .bool true]) ∧ OwnR w' w.heap.size 26 1 A n c (l.map u64v)
    | none => ∃ A c, e = .returned (.tuple #[.slice A 0 c, .bool false])) ∧ Below w.heap.size w w'
theorem oid_no {w w' : World} {bs : List UInt8} {A : Option Addr} {c : Nat} (h : oidQ bs = none) (hb : Below w.heap.size w w') : OidPost w bs (.returned (.tuple #[.slice A 0 c, .bool false])) w' := by
  unfold OidPost; rw [h]; exact ⟨⟨A, c, rfl⟩, hb⟩
theorem oid_yes {w w' : World} {bs : List UInt8} {l : List Nat} {A : Option Addr} {n c : Nat} (h : oidQ bs = some l) (ho : OwnR w' w.heap.size 26 1 A n c (l.map u64v)) (hb : Below w.heap.size w w') : OidPost w bs (.returned (.tuple #[.slice A n c, .bool true])) w' := by
  unfold OidPost; rw [h]; exact ⟨⟨A, n, c, rfl, ho⟩, hb⟩
theorem oid_any (A : Option Addr) (n c : Nat) (bs : List UInt8) (w : World) (hR : RB w A n bs) (hnc : n ≤ c) (hn : n ≤ 1000000000) (hcc : c ≤ 9223372036854775807) :
    Calls Try.prog 87 #[.slice A n c] w (OidPost w bs) := by
  have HLn := Lib.hid hR.1
  go_enter Try.func87, Try.ntmps87
  go_wp2
  go_loopw [0, 4] (fun v u wl => ∃ (A1 : Option Addr) (n1 c1 : Nat) (rest : List UInt8) (A2 : Option Addr) (n2 c2 : Nat) (pre : List Nat), v = .slice A1 n1 c1 ∧ u = .slice A2 n2 c2 ∧ RB w A1 n1 rest ∧ n1 ≤ c1 ∧ c1 ≤ c ∧ OwnR wl w.heap.size 26 1 A2 n2 c2 ((arcs pre).map u64v) ∧ Below w.heap.size w wl ∧ Hid (numsQ bs = (numsQ rest).map (pre ++ ·)) ∧ Hid (pre.length + n1 ≤ n)) (fun v _ _ => match v with | .slice _ k _ => k | _ => 0)
  case atStart => exact ⟨A, n, c, bs, none, 0, 0, [], rfl, rfl, hR, hnc, Nat.le_refl _, OwnR.nil _ _ _ _, Below.refl _ _, by unfold Hid; cases numsQ bs <;> simp, by unfold Hid; simp⟩
  case round =>
    obtain ⟨A1, n1, c1, rest, A2, n2, c2, pre, rfl, rfl, hR1, hnc1, hcc1, hown, hbl, HX, HB⟩ := hrel
    clear hR
    have hl2 := hown.len
    have hal := arcs_len pre
    have hB := HB.out
    simp only [List.length_map, Nat.mul_one] at hl2
    have hn2 : n2 ≤ 1000000001 := by omega
    have hn1 : n1 ≤ 1000000000 := by omega
    have HL2 := Lib.hid hl2
    clear hl2 hal hB
    by_cases h0 : 0 < n1
    · obtain ⟨b, off, d, rfl, hb, hd, hcell⟩ := hR1.at_ (k := 0) h0
      clear hd hcell
      have C := Lib.hid (number_any (some ⟨b, off, none⟩) n1 c1 rest wr (hR1.below hbl) (by omega))
      have HR1 := Lib.hid hR1
      clear hR1
      cases hq : numQ rest with
      | none =>
        have HN : Hid (oidQ bs = none) := by
          have hne : rest ≠ [] := by rintro rfl; have := HR1.out.1; simp at this; omega
          unfold Hid oidQ
          rw [HX.out, numsQ_none hne hq]; rfl
        have C2 : Hid (Calls Try.prog 95 #[.slice (some ⟨b, off, none⟩) n1 c1] wr fun e w' => e = .returned (.tuple #[.int .u64 0, .int .i64 0, .bool false]) ∧ wr = w') := by
          refine C.out.mono fun e w' h => ?_
          unfold NumPost at h; rw [hq] at h; exact h
        clear C hq
        go_wp2_with fail
        refine C2.out.mono ?_
        rintro e w' ⟨rfl, rfl⟩
        go_wp2
        go_ret2
        exact oid_no HN.out hbl
      | some p =>
        obtain ⟨X, N⟩ := p
        obtain ⟨hN1, hN2⟩ := numQ_le hq
        have hX := numQ_lt hq
        have hN3 : N ≤ n1 := by rw [← HR1.out.1]; exact hN2
        clear hN2
        have C2 : Hid (Calls Try.prog 95 #[.slice (some ⟨b, off, none⟩) n1 c1] wr fun e w' => e = .returned (.tuple #[.int .u64 (X : Int), .int .i64 (N : Int), .bool true]) ∧ wr = w') := by
          refine C.out.mono fun e w' h => ?_
          unfold NumPost at h; rw [hq] at h; exact h
        have HN : Hid (numsQ bs = (numsQ (rest.drop N)).map ((pre ++ [X]) ++ ·)) := by
          unfold Hid
          rw [HX.out, numsQ_some hq, Option.map_map]
          congr 1
          funext l
          simp
        have hB2 : Hid ((pre ++ [X]).length + (n1 - N) ≤ n) := by
          have := HB.out
          unfold Hid
          simp; omega
        have hcut : (N < c1 ∧ Hid (RB w (some ⟨b, off + N, none⟩) (n1 - N) (rest.drop N))) ∨ (c1 = N ∧ n1 = N ∧ Hid (RB w (some ⟨b, off, none⟩) 0 (rest.drop N))) := by
          have h3 := rb_cut HR1.out hnc1 hN3
          by_cases e : c1 = N
          · rw [if_pos e] at h3
            have e2 : n1 = N := by omega
            rw [show n1 - N = 0 by omega] at h3
            exact .inr ⟨e, e2, h3⟩
          · rw [if_neg e] at h3
            exact .inl ⟨by omega, h3⟩
        clear C hq
        have hsz := hbl.size
        by_cases hp : 0 < n2
        · have hpre : pre ≠ [] := by rintro rfl; have := HL2.out; simp [arcs] at this; omega
          have HA := Lib.hid (arcs_snoc pre X hpre)
          rcases hcut with ⟨hcap, HRN⟩ | ⟨rfl, rfl, HRN⟩
          all_goals
            go_wp2_with fail
            refine C2.out.mono ?_
            rintro e w' ⟨rfl, rfl⟩
            go_wp2_with (at_builtin; refine wpList_appL u64_row _ _ rfl rfl rfl w.heap.size A2 n2 c2 _ rfl (hown.alloc _) _ 1 1 #[.int .u64 (X : Int)] (0, 0) rfl (heap_alloc_new _ _) rfl (by intro u hu; simp at hu; subst hu; rfl) (by unfold maxLen; omega) (by omega) (by simp; omega) ?_)
            intro A4 c4 w4 hown4 hg4
            have hbl4 : Below w.heap.size w w4 := (hbl.alloc hsz _).grown hg4 (by simp; omega) (fun g hg => (hown.blk_lt hg).1)
            go_wp2
            go_roundw
            case rel => exact ⟨_, _, _, _, A4, _, c4, pre ++ [X], rfl, rfl, HRN.out, by omega, by omega, by rw [HA.out, List.map_append]; exact hown4, hbl4, HN, by simpa using hB2⟩
            case measure => simp; omega
        · obtain rfl : n2 = 0 := by omega
          have hpre : pre = [] := by
            have := HL2.out
            cases pre with
            | nil => rfl
            | cons x r => simp [arcs] at this
          subst hpre
          by_cases hx1 : X < 120
          · have hF : min (X / 40) 2 = X / 40 := by omega
            have h40 : (X : Int) / 40 ≤ (2 : Int) := by omega
            have HA : Hid ((arcs ([] ++ [X])).map u64v = #[Value.int .u64 ((X : Int) / 40), .int .u64 ((X : Int) - 40 * ((X : Int) / 40))].toList) := by
              unfold Hid
              simp only [List.nil_append, arcs, hF, List.map_cons, List.map_nil, u64v]
              congr 2
              all_goals (try congr 1)
              all_goals omega
            clear hF
            rcases hcut with ⟨hcap, HRN⟩ | ⟨rfl, rfl, HRN⟩
            all_goals
              go_wp2_with fail
              refine C2.out.mono ?_
              rintro e w' ⟨rfl, rfl⟩
              go_wp2_with (at_builtin; refine wpList_appL u64_row _ _ rfl rfl rfl w.heap.size A2 0 c2 _ rfl (hown.alloc _) _ 2 2 #[.int .u64 ((X : Int) / 40), .int .u64 ((X : Int) - 40 * ((X : Int) / 40))] (0, 0) rfl (heap_alloc_new _ _) rfl (by intro u hu; simp at hu; rcases hu with rfl | rfl <;> rfl) (by unfold maxLen; omega) (by omega) (by simp; omega) ?_)
              intro A4 c4 w4 hown4 hg4
              have hbl4 : Below w.heap.size w w4 := (hbl.alloc hsz _).grown hg4 (by simp; omega) (fun g hg => (hown.blk_lt hg).1)
              go_wp2
              go_roundw
              case rel => exact ⟨_, _, _, _, A4, _, c4, [] ++ [X], rfl, rfl, HRN.out, by omega, by omega, by rw [HA.out]; exact hown4, hbl4, HN, by simpa using hB2⟩
              case measure => simp; omega
          · have hF : min (X / 40) 2 = 2 := by omega
            have h40 : (2 : Int) < (X : Int) / 40 := by omega
            have HA : Hid ((arcs ([] ++ [X])).map u64v = #[Value.int .u64 (2 : Int), .int .u64 ((X : Int) - 80)].toList) := by
              unfold Hid
              simp only [List.nil_append, arcs, hF, List.map_cons, List.map_nil, u64v]
              congr 2
              all_goals (try congr 1)
              all_goals omega
            clear hF
            rcases hcut with ⟨hcap, HRN⟩ | ⟨rfl, rfl, HRN⟩
            all_goals
              go_wp2_with fail
              refine C2.out.mono ?_
              rintro e w' ⟨rfl, rfl⟩
              go_wp2_with (at_builtin; refine wpList_appL u64_row _ _ rfl rfl rfl w.heap.size A2 0 c2 _ rfl (hown.alloc _) _ 2 2 #[Value.int IntKind.u64 (2 : Int), Value.int IntKind.u64 ((X : Int) - 80)] (0, 0) rfl (heap_alloc_new _ _) rfl (by intro u hu; simp at hu; rcases hu with rfl | rfl <;> rfl) (by unfold maxLen; omega) (by omega) (by simp; omega) ?_)
              intro A4 c4 w4 hown4 hg4
              have hbl4 : Below w.heap.size w w4 := (hbl.alloc hsz _).grown hg4 (by simp; omega) (fun g hg => (hown.blk_lt hg).1)
              go_wp2
              go_roundw
              case rel => exact ⟨_, _, _, _, A4, _, c4, [] ++ [X], rfl, rfl, HRN.out, by omega, by omega, by rw [HA.out]; exact hown4, hbl4, HN, by simpa using hB2⟩
              case measure => simp; omega
    · have hr0 : rest = [] := List.length_eq_zero_iff.1 (by have := hR1.1; omega)
      subst hr0
      have hpre : Hid (numsQ bs = some pre) := by
        have := HX.out
        rw [numsQ_nil] at this
        unfold Hid
        rw [this]; simp
      cases pre with
      | nil =>
        have h20 : n2 = 0 := by have := HL2.out; simpa [arcs] using this.symm
        have HN : Hid (oidQ bs = none) := by unfold Hid oidQ; rw [hpre.out]
        subst h20
        go_wp2
        go_ret2
        exact oid_no HN.out hbl
      | cons x r =>
        have h20 : 0 < n2 := by have := HL2.out; simp [arcs] at this; omega
        have HN : Hid (oidQ bs = some (arcs (x :: r))) := by unfold Hid oidQ; rw [hpre.out]
        go_wp2
        go_ret2
        exact oid_yes HN.out hown hbl
end Go.Proofs.Ytomolfdcdmncoaa
