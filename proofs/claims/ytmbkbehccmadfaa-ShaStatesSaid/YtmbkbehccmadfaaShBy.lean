/-
  sha: byte for byte.
-/
import Derived.Test.YtmbkbehccmadfaaShSm
import Derived.Deep.RegionWith
namespace Go.Proofs.Ytmbkbehccmadfaa
open Go.RowKit Go
set_option linter.unusedVariables false
set_option linter.unusedSimpArgs false
set_option maxRecDepth 100000
theorem New_holds (w : World) : Calls Try.prog 17 #[] w fun e w' => e = .returned (.pointer (some ⟨w.heap.size, 0, none⟩)) ∧ Holds w' w.heap.size [] 0 ∧ Below w.heap.size w w' := by
  refine (new_any w).mono ?_
  rintro e w' ⟨rfl, rfl⟩
  exact ⟨rfl, holds_new w _ rfl, kp_alloc (Below.refl _ _) _⟩
theorem one_cell {w : World} {b o : Nat} {x : UInt8} (h : w.cell? ⟨b, o, none⟩ = some (bv x)) : ∀ j (hj : j < [x].length), w.cell? ⟨b, o + j, none⟩ = some (bv [x][j])
  | 0, _ => h
  | j + 1, hj => by simp at hj
theorem rb_take {w : World} {A : Option Addr} {n k : Nat} {bs : List UInt8} (h : RB w A n bs) (hk : k ≤ n) : RB w A k (bs.take k) := ⟨by rw [List.length_take, h.1]; omega, h.2.take_ k⟩
/-- A piece that begins with a byte is written. -/
theorem write_at (S b off k c : Nat) (p : List Nat) (t : Nat) (bs : List UInt8) (w0 w : World) (hb : Below w0.heap.size w0 w) (hS : w0.heap.size ≤ S) (hH : Holds w S p t) (hbl : b < w0.heap.size) (hc : ∀ j (hj : j < bs.length), w0.cell? ⟨b, off + j, none⟩ = some (bv bs[j])) (hk : bs.length = k) (hk1 : k ≤ 1000000) (hkc : k ≤ c) (hc1 : c ≤ 9223372036854775807) (ht : t + k < 18446744073709551616) :
    Calls Try.prog 20 #[.pointer (some ⟨S, 0, none⟩), .slice (some ⟨b, off, none⟩) k c] w fun e w' => e = .returned (.tuple #[]) ∧ Holds w' S (p ++ bs.map UInt8.toNat) (t + k) ∧ Below w0.heap.size w0 w' := by
  have hsrc : Src w S (some ⟨b, off, none⟩) bs := fun hn => ⟨b, off, rfl, by omega, Nat.lt_of_lt_of_le hbl hb.size, fun j hj => by
    rw [hb.cell (p := ⟨b, off + j, none⟩) hbl]
    exact hc j hj⟩
  refine (write_any S _ k c p t bs w hH hsrc hk (by omega) hkc hc1 (by omega)).mono ?_
  rintro e w' ⟨rfl, ho, hg⟩
  rw [Nat.mod_eq_of_lt ht] at ho
  exact ⟨rfl, Or.inl ho, below_of_grown hb hg hS⟩
set_option maxHeartbeats 4000000 in
theorem bytes_walk (A : Option Addr) (n c : Nat) (xs : List UInt8) (w : World) (h1 : IsBs w A n c xs) :
    Calls Try.prog 10 #[.slice A n c] w fun e w' => e = .returned (.bool true) ∧ Below w.heap.size w w' := by
  have WK := Lib.hid (fun W => works_any W)
  have hA := h1.rb
  have l1 := h1.lim
  have l2 := h1.le
  have l3 : c ≤ 9223372036854775807 := by have h2 := h1.max; unfold maxLen at h2; omega
  obtain ⟨B, hB⟩ : ∃ B, w.heap.size = B := ⟨_, rfl⟩
  clear h1
  by_cases hn : n ≤ 300
  · have i1 : ¬ (n : Int) > 300 := by omega
    go_enter Try.func10, Try.ntmps10
    go_wp2_with fail
    refine (New_holds w).mono ?_
    rintro e w1 ⟨rfl, hk1, hb1⟩
    rw [hB] at hk1 hb1 ⊢
    have H1 : Hid (Holds w1 B ((xs.take 0).map UInt8.toNat) 0 ∧ Below B w w1) := ⟨hk1, hb1⟩
    have HA := Lib.hid hA
    clear hk1 hb1 hA
    go_wp2_with fail
    go_loopw [4] (fun vi wl => ∃ i : Nat, vi = .int .i64 (i : Int) ∧ i ≤ n ∧ Hid (Holds wl B ((xs.take i).map UInt8.toNat) i ∧ Below B w wl)) (fun vi _ => n - (intOf vi).toNat)
    case atStart => exact ⟨0, rfl, Nat.zero_le _, H1.out⟩
    case round =>
      obtain ⟨i, rfl, hi, HK⟩ := hrel
      clear H1
      by_cases hlt : i < n
      · have i2 : (i : Int) < (n : Int) := by omega
        obtain ⟨b, off, x, rfl, hb, hx, c1⟩ := HA.out.at_ (k := i) hlt
        have e1 : IntKind.i64.wrap ((i : Int) + 1) = (i : Int) + 1 := IntWalk.i64_in _ (by omega)
        have i3 : 0 ≤ (i : Int) + 1 := by omega
        have i4 : (i : Int) + 1 ≤ (c : Int) := by omega
        have hxl : (xs.take (i + 1)) = xs.take i ++ [x] := by rw [List.take_add_one, hx]; rfl
        have WA := Lib.hid (write_at B b (off + i) 1 (c - i) ((xs.take i).map UInt8.toNat) i [x] w wr (by rw [hB]; exact HK.out.2) (by omega) HK.out.1 hb (one_cell c1) rfl (by decide) (by omega) (by omega) (by omega))
        rw [← List.map_append, ← hxl, hB] at WA
        clear c1 hx HK
        go_wp2_with fail
        refine WA.out.mono ?_
        rintro e w5 ⟨rfl, hk5, hb5⟩
        obtain ⟨ds, hds⟩ : ∃ ds, ((sumQ ((xs.take (i + 1)).map UInt8.toNat) (i + 1)).map v8).toArray = ds := ⟨_, rfl⟩
        have hsame : ∀ W, (Op.equalIn 10000 25 (.agg ds) (.agg ds)).run Try.prog W = .ok true W := fun W => by rw [← hds]; exact dig_same _ (sumQ_len _ _) W
        have SS := Lib.hid (fun W (h : Below w5.heap.size w5 W) => stsum_any B _ _ W (hk5.below h) (by omega))
        have SM := Lib.hid (fun W (h : Below B w W) => sum_any (some ⟨b, off, none⟩) (i + 1) c (xs.take (i + 1)) W (rb_take (HA.out.below (by rw [hB]; exact h)) (by omega)) (by omega) (by omega) (by omega))
        rw [hds] at SS SM
        have HN : Hid (Holds w5 B ((xs.take (i + 1)).map UInt8.toNat) (i + 1) ∧ Below B w w5 ∧ B ≤ w5.heap.size) := ⟨hk5, hb5, by have := hb5.size; omega⟩
        clear hds hk5 hb5 hxl WA
        go_wp2_with fail
        go_region_with (first
          | (go_at_call 18; refine (SS.out _ (Below.refl _ _).drew).mono ?_; rintro e w6 ⟨rfl, hb6⟩; have HB6 := Lib.hid (kp_call (Below.refl w5.heap.size w5).drew hb6); clear hb6)
          | (go_at_call 14; refine (SM.out _ (HN.out.2.1.trans (HB6.out.mono HN.out.2.2))).mono ?_; rintro e w7 ⟨rfl, hb7⟩; have HB7 := Lib.hid (kp_call HB6.out hb7); clear hb7))
        all_goals
          have HQ : Hid (Holds w7 B ((xs.take (i + 1)).map UInt8.toNat) (i + 1) ∧ Below B w w7) := ⟨HN.out.1.below HB7.out, HN.out.2.1.trans (HB7.out.mono HN.out.2.2)⟩
          clear HB7 HN
          go_wp2
          go_roundw
          case rel => exact ⟨i + 1, by go_num, by omega, HQ.out⟩
          case measure => simp [intOf]; omega
      · have i2 : ¬ (i : Int) < (n : Int) := by omega
        have HBW : Hid (Below w.heap.size w wr) := by have := HK.out.2; rw [← hB] at this; exact this
        clear HK
        go_wp2_with fail
        refine (WK.out _).mono ?_
        rintro e w9 ⟨rfl, hb9⟩
        have HB9 := Lib.hid (kp_call HBW.out hb9)
        clear hb9
        go_wp2
        go_ret
        exact ⟨rfl, HB9.out⟩
  · have i1 : (n : Int) > 300 := by omega
    clear hA
    go_enter Try.func10, Try.ntmps10
    go_wp2_with fail
    refine (WK.out _).mono ?_
    rintro e w3 ⟨rfl, hb3⟩
    have HB3 := Lib.hid hb3
    clear hb3
    go_wp2
    go_ret
    exact ⟨rfl, HB3.out⟩
end Go.Proofs.Ytmbkbehccmadfaa
