/-
  sha: in pieces.
-/
import Derived.Test.YtmbkbehccmadfaaShBy
namespace Go.Proofs.Ytmbkbehccmadfaa
open Go.RowKit Go
set_option linter.unusedVariables false
set_option linter.unusedSimpArgs false
set_option maxRecDepth 100000
theorem write_cut (S : Nat) (A : Option Addr) (n c k t : Nat) (xs : List UInt8) (w0 w : World) (hb : Below w0.heap.size w0 w) (hS : w0.heap.size ≤ S) (hH : Holds w S ((xs.take k).map UInt8.toNat) k) (hA : RB w0 A n xs) (hkt : k ≤ t) (htn : t ≤ n) (hnc : n ≤ c) (hc1 : c ≤ 9223372036854775807) (hn1 : n ≤ 1000000000) :
    Calls Try.prog 20 #[.pointer (some ⟨S, 0, none⟩), .slice (if c = k then A else Option.map (fun x => x.add k) A) (t - k) (c - k)] w fun e w' => e = .returned (.tuple #[]) ∧ Holds w' S ((xs.take t).map UInt8.toNat) t ∧ Below w0.heap.size w0 w' := by
  have hl := hA.1
  have hbs : ((xs.drop k).take (t - k)).length = t - k := by rw [List.length_take, List.length_drop]; omega
  have hsrc : Src w S (if c = k then A else Option.map (fun x => x.add k) A) ((xs.drop k).take (t - k)) := by
    by_cases hck : c = k
    · intro hn
      exact absurd (List.eq_nil_of_length_eq_zero (by omega)) hn
    · rw [if_neg hck]
      have h := ((hA.2.drop_ k).take_ (t - k)).below hb
      intro hn
      obtain ⟨b, off, e, hbl, hc⟩ := h hn
      exact ⟨b, off, e, by omega, Nat.lt_of_lt_of_le hbl hb.size, hc⟩
  refine (write_any S _ (t - k) (c - k) _ k _ w hH hsrc hbs (by omega) (by omega) (by omega) (by omega)).mono ?_
  rintro e w' ⟨rfl, ho, hg⟩
  have e1 : xs.take k ++ (xs.drop k).take (t - k) = xs.take t := by
    rw [← List.take_add, show k + (t - k) = t by omega]
  rw [← List.map_append, e1, show k + (t - k) = t by omega, Nat.mod_eq_of_lt (by omega)] at ho
  exact ⟨rfl, Or.inl ho, below_of_grown hb hg hS⟩
set_option maxHeartbeats 8000000 in
theorem pieces_walk (A : Option Addr) (n c : Nat) (xs : List UInt8) (A2 : Option Addr) (m d : Nat) (ys : List UInt8) (w : World) (h1 : IsBs w A n c xs) (h2 : IsBs w A2 m d ys) :
    Calls Try.prog 5 #[.slice A n c, .slice A2 m d] w fun e w' => e = .returned (.bool true) ∧ Below w.heap.size w w' := by
  have WK := Lib.hid (fun W => works_any W)
  have hA := h1.rb
  have hA2 := h2.rb
  have l1 := h1.lim
  have l2 := h1.le
  have l3 : c ≤ 9223372036854775807 := by have h2 := h1.max; unfold maxLen at h2; omega
  have l4 := h2.lim
  obtain ⟨B, hB⟩ : ∃ B, w.heap.size = B := ⟨_, rfl⟩
  clear h1 h2
  by_cases hn : n ≤ 4096 ∧ m ≤ 60
  · obtain ⟨hn, hm⟩ := hn
    have i1 : ¬ (n : Int) > 4096 := by omega
    have i2 : ¬ (m : Int) > 60 := by omega
    go_enter Try.func5, Try.ntmps5
    go_wp2_with fail
    refine (New_holds w).mono ?_
    rintro e w1 ⟨rfl, hk1, hb1⟩
    rw [hB] at hk1 hb1 ⊢
    have H1 : Hid (Holds w1 B ((xs.take 0).map UInt8.toNat) 0 ∧ Below B w w1) := ⟨hk1, hb1⟩
    have HA := Lib.hid hA
    have HA2 := Lib.hid hA2
    clear hk1 hb1 hA hA2
    go_wp2_with fail
    go_loopw [6, 7] (fun va vi wl => ∃ k i : Nat, va = .int .i64 (k : Int) ∧ vi = .int .i64 (i : Int) ∧ k ≤ n ∧ i ≤ m ∧ Hid (Holds wl B ((xs.take k).map UInt8.toNat) k ∧ Below B w wl)) (fun _ vi _ => m - (intOf vi).toNat)
    case atStart => exact ⟨0, 0, rfl, rfl, Nat.zero_le _, Nat.zero_le _, H1.out⟩
    case round =>
      obtain ⟨k, i, rfl, rfl, hk, hi, HK⟩ := hrel
      clear H1
      obtain ⟨SA, hSA⟩ : ∃ SA : Option Addr, (if c = k then A else Option.map (fun x => x.add k) A) = SA := ⟨_, rfl⟩
      by_cases hlt : i < m
      · have i2 : (i : Int) < (m : Int) := by omega
        obtain ⟨b, off, x, rfl, hb, hx, c1⟩ := HA2.out.at_ (k := i) hlt
        have c2 := (HK.out.2.cell (p := ⟨b, off + i, none⟩) (by rw [← hB]; exact hb)).trans c1
        have hxl := x.toNat_lt
        obtain ⟨q, hq⟩ : ∃ q, x.toNat = q := ⟨_, rfl⟩
        rw [hq] at c2 hxl
        have e1 : IntKind.i64.wrap (q : Int) = (q : Int) := IntWalk.i64_in _ (by omega)
        have e6 : IntKind.i64.wrap ((i : Int) + 1) = (i : Int) + 1 := IntWalk.i64_in _ (by omega)
        clear c1 hx hq
        by_cases hkq : k + q ≤ n
        · obtain ⟨t, ht⟩ : ∃ t, k + q = t := ⟨_, rfl⟩
          rw [ht] at hkq
          have e2 : IntKind.i64.wrap ((k : Int) + (q : Int)) = (t : Int) := by rw [IntWalk.i64_in _ (by omega)]; omega
          have e3 : (k : Int) + (q : Int) = (t : Int) := by omega
          have i3 : (t : Int) ≤ (n : Int) := by omega
          have hkt : k ≤ t := by omega
          clear ht
          have WA := Lib.hid (write_cut B A n c k t xs w wr (by rw [hB]; exact HK.out.2) (by omega) HK.out.1 HA.out (by omega) (by omega) (by omega) (by omega) (by omega))
          rw [hSA, hB] at WA
          have i4 : (k : Int) ≤ (t : Int) := by omega
          have i5 : (t : Int) ≤ (c : Int) := by omega
          have i6 : 0 ≤ (t : Int) := by omega
          have i7 : 0 ≤ (k : Int) := by omega
          clear HK
          go_wp2_with fail
          refine WA.out.mono ?_
          rintro e w5 ⟨rfl, hk5, hb5⟩
          obtain ⟨ds, hds⟩ : ∃ ds, ((sumQ ((xs.take t).map UInt8.toNat) t).map v8).toArray = ds := ⟨_, rfl⟩
          have hsame : ∀ W, (Op.equalIn 10000 25 (.agg ds) (.agg ds)).run Try.prog W = .ok true W := fun W => by rw [← hds]; exact dig_same _ (sumQ_len _ _) W
          have SS := Lib.hid (fun W (h : Below w5.heap.size w5 W) => stsum_any B _ _ W (hk5.below h) (by omega))
          have SM := Lib.hid (fun W (h : Below B w W) => sum_any A t c (xs.take t) W (rb_take (HA.out.below (by rw [hB]; exact h)) (by omega)) (by omega) (by omega) (by omega))
          rw [hds] at SS SM
          have HN : Hid (Holds w5 B ((xs.take t).map UInt8.toNat) t ∧ Below B w w5 ∧ B ≤ w5.heap.size) := ⟨hk5, hb5, by have := hb5.size; omega⟩
          clear hds hk5 hb5 WA hSA
          go_wp2_with fail
          go_region_with (first
            | (go_at_call 18; refine (SS.out _ (Below.refl _ _).drew).mono ?_; rintro e w6 ⟨rfl, hb6⟩; have HB6 := Lib.hid (kp_call (Below.refl w5.heap.size w5).drew hb6); clear hb6)
            | (go_at_call 14; refine (SM.out _ (HN.out.2.1.trans (HB6.out.mono HN.out.2.2))).mono ?_; rintro e w7 ⟨rfl, hb7⟩; have HB7 := Lib.hid (kp_call HB6.out hb7); clear hb7))
          all_goals
            have HQ : Hid (Holds w7 B ((xs.take t).map UInt8.toNat) t ∧ Below B w w7) := ⟨HN.out.1.below HB7.out, HN.out.2.1.trans (HB7.out.mono HN.out.2.2)⟩
            clear HB7 HN
            go_wp2
            go_roundw
            case rel => exact ⟨t, i + 1, rfl, by go_num, by omega, by omega, HQ.out⟩
            case measure => simp [intOf]; omega
        · have e2 : IntKind.i64.wrap ((k : Int) + (q : Int)) = (k : Int) + (q : Int) := IntWalk.i64_in _ (by omega)
          have i3 : ¬ (k : Int) + (q : Int) ≤ (n : Int) := by omega
          have WA := Lib.hid (write_cut B A n c k n xs w wr (by rw [hB]; exact HK.out.2) (by omega) HK.out.1 HA.out (by omega) (by omega) (by omega) (by omega) (by omega))
          rw [hSA, hB] at WA
          have i4 : (k : Int) ≤ (n : Int) := by omega
          have i5 : (n : Int) ≤ (c : Int) := by omega
          have i6 : 0 ≤ (n : Int) := by omega
          have i7 : 0 ≤ (k : Int) := by omega
          clear HK
          go_wp2_with fail
          refine WA.out.mono ?_
          rintro e w5 ⟨rfl, hk5, hb5⟩
          obtain ⟨ds, hds⟩ : ∃ ds, ((sumQ ((xs.take n).map UInt8.toNat) n).map v8).toArray = ds := ⟨_, rfl⟩
          have hsame : ∀ W, (Op.equalIn 10000 25 (.agg ds) (.agg ds)).run Try.prog W = .ok true W := fun W => by rw [← hds]; exact dig_same _ (sumQ_len _ _) W
          have SS := Lib.hid (fun W (h : Below w5.heap.size w5 W) => stsum_any B _ _ W (hk5.below h) (by omega))
          have SM := Lib.hid (fun W (h : Below B w W) => sum_any A n c (xs.take n) W (rb_take (HA.out.below (by rw [hB]; exact h)) (by omega)) (by omega) (by omega) (by omega))
          rw [hds] at SS SM
          have HN : Hid (Holds w5 B ((xs.take n).map UInt8.toNat) n ∧ Below B w w5 ∧ B ≤ w5.heap.size) := ⟨hk5, hb5, by have := hb5.size; omega⟩
          clear hds hk5 hb5 WA hSA
          go_wp2_with fail
          go_region_with (first
            | (go_at_call 18; refine (SS.out _ (Below.refl _ _).drew).mono ?_; rintro e w6 ⟨rfl, hb6⟩; have HB6 := Lib.hid (kp_call (Below.refl w5.heap.size w5).drew hb6); clear hb6)
            | (go_at_call 14; refine (SM.out _ (HN.out.2.1.trans (HB6.out.mono HN.out.2.2))).mono ?_; rintro e w7 ⟨rfl, hb7⟩; have HB7 := Lib.hid (kp_call HB6.out hb7); clear hb7))
          all_goals
            have HQ : Hid (Holds w7 B ((xs.take n).map UInt8.toNat) n ∧ Below B w w7) := ⟨HN.out.1.below HB7.out, HN.out.2.1.trans (HB7.out.mono HN.out.2.2)⟩
            clear HB7 HN
            go_wp2
            go_roundw
            case rel => exact ⟨n, i + 1, rfl, by go_num, by omega, by omega, HQ.out⟩
            case measure => simp [intOf]; omega
      · have i2 : ¬ (i : Int) < (m : Int) := by omega
        have WA := Lib.hid (write_cut B A n c k n xs w wr (by rw [hB]; exact HK.out.2) (by omega) HK.out.1 HA.out (by omega) (by omega) (by omega) (by omega) (by omega))
        rw [hSA, hB, List.take_of_length_le (by rw [HA.out.1]; omega)] at WA
        have i4 : (k : Int) ≤ (n : Int) := by omega
        have i5 : (n : Int) ≤ (c : Int) := by omega
        have i7 : 0 ≤ (k : Int) := by omega
        clear HK
        go_wp2_with fail
        refine WA.out.mono ?_
        rintro e w5 ⟨rfl, hk5, hb5⟩
        obtain ⟨ds, hds⟩ : ∃ ds, ((sumQ (xs.map UInt8.toNat) n).map v8).toArray = ds := ⟨_, rfl⟩
        have hsame : ∀ W, (Op.equalIn 10000 25 (.agg ds) (.agg ds)).run Try.prog W = .ok true W := fun W => by rw [← hds]; exact dig_same _ (sumQ_len _ _) W
        have SS := Lib.hid (fun W (h : Below w5.heap.size w5 W) => stsum_any B _ _ W (hk5.below h) (by omega))
        have SM := Lib.hid (fun W (h : Below B w W) => sum_any A n c xs W (HA.out.below (by rw [hB]; exact h)) (by omega) (by omega) (by omega))
        rw [hds] at SS SM
        have HN : Hid (Below B w w5 ∧ B ≤ w5.heap.size) := ⟨hb5, by have := hb5.size; omega⟩
        clear hds hk5 hb5 WA hSA
        go_wp2_with fail
        refine (SS.out _ (Below.refl _ _)).mono ?_
        rintro e w6 ⟨rfl, hb6⟩
        have HB6 := Lib.hid hb6
        clear hb6
        go_wp2_with fail
        refine (SM.out _ (HN.out.1.trans (HB6.out.mono HN.out.2))).mono ?_
        rintro e w7 ⟨rfl, hb7⟩
        have HB7 := Lib.hid (kp_call HB6.out hb7)
        clear hb7 HB6
        go_wp2_with fail
        refine (SS.out _ HB7.out).mono ?_
        rintro e w8 ⟨rfl, hb8⟩
        have HB8 := Lib.hid (kp_call HB7.out hb8)
        clear hb8 HB7
        go_wp2_with fail
        refine (SM.out _ (HN.out.1.trans (HB8.out.mono HN.out.2))).mono ?_
        rintro e w9 ⟨rfl, hb9⟩
        have HB9 : Hid (Below w.heap.size w w9) := by rw [hB]; exact HN.out.1.trans ((kp_call HB8.out hb9).mono HN.out.2)
        clear hb9 HB8 SS SM HN
        go_wp2_with fail
        refine (WK.out _).mono ?_
        rintro e w10 ⟨rfl, hb10⟩
        have HB10 := Lib.hid (kp_call HB9.out hb10)
        clear hb10 HB9
        go_wp2
        go_ret
        exact ⟨rfl, HB10.out⟩
  · by_cases hn1 : n ≤ 4096
    · have hm : 60 < m := by omega
      have i1 : ¬ (n : Int) > 4096 := by omega
      have i2 : (m : Int) > 60 := by omega
      clear hA hA2
      go_enter Try.func5, Try.ntmps5
      go_wp2_with fail
      refine (WK.out _).mono ?_
      rintro e w3 ⟨rfl, hb3⟩
      have HB3 := Lib.hid hb3
      clear hb3
      go_wp2
      go_ret
      exact ⟨rfl, HB3.out⟩
    · have i1 : (n : Int) > 4096 := by omega
      clear hA hA2
      go_enter Try.func5, Try.ntmps5
      go_wp2_with fail
      refine (WK.out _).mono ?_
      rintro e w3 ⟨rfl, hb3⟩
      have HB3 := Lib.hid hb3
      clear hb3
      go_wp2
      go_ret
      exact ⟨rfl, HB3.out⟩
end Go.Proofs.Ytmbkbehccmadfaa
