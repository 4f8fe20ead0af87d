/-
  sha: a state that New did not make.
-/
import Derived.Test.YtmbkbehccmadfaaShPi
import Derived.Test.YtmbkbehccmadfaaRows2
namespace Go.Proofs.Ytmbkbehccmadfaa
open Go.RowKit Go
set_option linter.unusedVariables false
set_option linter.unusedSimpArgs false
set_option maxRecDepth 100000
theorem write_bs (S : Nat) (A : Option Addr) (n c : Nat) (p : List Nat) (t : Nat) (bs : List UInt8) (w0 w : World) (hb : Below w0.heap.size w0 w) (hS : w0.heap.size ≤ S) (hH : Holds w S p t) (hA : RB w0 A n bs) (hnc : n ≤ c) (hc1 : c ≤ 9223372036854775807) (hn1 : n ≤ 1000000) (ht : t + n < 18446744073709551616) :
    Calls Try.prog 20 #[.pointer (some ⟨S, 0, none⟩), .slice A n c] w fun e w' => e = .returned (.tuple #[]) ∧ Holds w' S (p ++ bs.map UInt8.toNat) (t + n) ∧ Below w0.heap.size w0 w' ∧ w.grownBy w' (some S) := by
  refine (write_any S A n c p t bs w hH (Src.of_rb hA hS hb) hA.1 (by omega) hnc hc1 (by omega)).mono ?_
  rintro e w' ⟨rfl, ho, hg⟩
  rw [Nat.mod_eq_of_lt ht] at ho
  exact ⟨rfl, Or.inl ho, below_of_grown hb hg hS, hg⟩
set_option maxHeartbeats 8000000 in
theorem zero_walk (A : Option Addr) (n c : Nat) (X : Nat → Option Addr × Nat × Nat) (bss : Nat → List UInt8) (w : World) (h1 : IsRows w A n c X bss) :
    Calls Try.prog 8 #[.slice A n c] w fun e w' => e = .returned (.bool true) ∧ Below w.heap.size w w' := by
  have WK := Lib.hid (fun W => works_any W)
  have l1 := h1.lim
  have HR := Lib.hid h1
  obtain ⟨B, hB⟩ : ∃ B, w.heap.size = B := ⟨_, rfl⟩
  clear h1
  by_cases hn : n ≤ 60
  · have i1 : ¬ (n : Int) > 60 := by omega
    go_enter Try.func8, Try.ntmps8
    go_wp2_with (refine wpList_buildTo rfl _ _ rfl _ rfl zeroState.toArray (by kernel_rfl) ?_)
    refine calls_nm fun w1 hw1 => ?_
    have hk1 : Holds w1 B [] 0 := by rw [← hw1]; exact holds_new w B hB.symm
    have hb1 : Below w.heap.size w w1 := by rw [← hw1]; exact kp_alloc (Below.refl _ _) _
    have hs1 : w1.heap.size = B + 1 := by rw [← hw1]; simp [hB]
    clear hw1
    refine (New_holds w1).mono ?_
    rintro e w2 ⟨rfl, hk2, hb2⟩
    rw [hs1] at hk2 ⊢
    obtain ⟨ds, hds⟩ : ∃ ds, ((sumQ [] 0).map v8).toArray = ds := ⟨_, rfl⟩
    have hsame : ∀ W, (Op.equalIn 10000 25 (.agg ds) (.agg ds)).run Try.prog W = .ok true W := fun W => by rw [← hds]; exact dig_same _ (sumQ_len _ _) W
    have H2 : Hid (Holds w2 B [] 0 ∧ Holds w2 (B + 1) [] 0 ∧ Below w.heap.size w w2) := ⟨hk1.below hb2, hk2, kp_call hb1 hb2⟩
    have SS := Lib.hid (fun S (hS : Holds w2 S [] 0) W (h : Below w2.heap.size w2 W) => stsum_any S _ _ W (hS.below h) (by decide))
    have SM := Lib.hid (fun W => sum_any none 0 0 [] W (RB.nil _ _) (by decide) (by decide) (by decide))
    rw [List.map_nil, hds] at SM
    rw [hds] at SS
    clear hds hk1 hb1 hk2 hb2
    go_wp2_with fail
    refine (SS.out B H2.out.1 _ (Below.refl _ _)).mono ?_
    rintro e w3 ⟨rfl, hb3⟩
    have HB3 := Lib.hid hb3
    clear hb3
    go_wp2_with fail
    refine (SM.out _).mono ?_
    rintro e w4 ⟨rfl, hb4⟩
    have HB4 := Lib.hid (kp_call HB3.out hb4)
    clear hb4 HB3
    go_wp2_with fail
    refine (SS.out (B + 1) H2.out.2.1 _ HB4.out).mono ?_
    rintro e w5 ⟨rfl, hb5⟩
    have HB5 := Lib.hid (kp_call HB4.out hb5)
    clear hb5 HB4
    go_wp2_with fail
    refine (SM.out _).mono ?_
    rintro e w6 ⟨rfl, hb6⟩
    have H6 : Hid (Holds w6 B [] 0 ∧ Holds w6 (B + 1) [] 0 ∧ Below B w w6) := by
      have hb := kp_call HB5.out hb6
      obtain ⟨q1, q2, q3⟩ := H2.out
      have q4 := kp_call q3 hb
      rw [hB] at q4
      exact ⟨q1.below hb, q2.below hb, q4⟩
    clear hb6 HB5 H2 SS SM
    go_wp2_with fail
    clear hsame
    go_loopw [5] (fun vi wl => ∃ i t : Nat, ∃ p, vi = .int .i64 (i : Int) ∧ i ≤ n ∧ t ≤ 1024 * i ∧ Hid (Holds wl B p t ∧ Holds wl (B + 1) p t ∧ Below B w wl)) (fun vi _ => n - (intOf vi).toNat)
    case atStart => exact ⟨0, 0, [], rfl, Nat.zero_le _, Nat.zero_le _, H6.out⟩
    case round =>
      obtain ⟨i, t, p, rfl, hi, ht, HK⟩ := hrel
      clear H6
      by_cases hlt : i < n
      · have i2 : (i : Int) < (n : Int) := by omega
        obtain ⟨b, off, rfl, hb, hrow⟩ := HR.out.rows (by omega)
        obtain ⟨c1, hbs⟩ := hrow i hlt
        obtain ⟨⟨Ak, nk, ck⟩, hX⟩ : ∃ y, X i = y := ⟨_, rfl⟩
        rw [hX] at c1 hbs
        simp only at c1 hbs
        have hk1 := hbs.le
        have hk2 : ck ≤ 9223372036854775807 := by have h2 := hbs.max; unfold maxLen at h2; omega
        have hk3 := hbs.lim
        have HBS := Lib.hid hbs.rb
        have hcell : ∀ W, Below B w W → W.cell? ⟨b, off + i, none⟩ = some (.slice Ak nk ck) := fun W h => (h.cell (p := ⟨b, off + i, none⟩) (by rw [← hB]; exact hb)).trans c1
        have HC := Lib.hid hcell
        have c2 := hcell _ HK.out.2.2
        have e6 : IntKind.i64.wrap ((i : Int) + 1) = (i : Int) + 1 := IntWalk.i64_in _ (by omega)
        clear c1 hbs hrow hcell
        by_cases hkn : nk ≤ 1024
        · have i3 : ¬ (nk : Int) > 1024 := by omega
          have hB' : w.heap.size ≤ B := by omega
          have WA := Lib.hid (write_bs B Ak nk ck p t (bss i) w wr (by rw [hB]; exact HK.out.2.2) hB' HK.out.1 HBS.out hk1 hk2 (by omega) (by omega))
          go_wp2_with fail
          refine WA.out.mono ?_
          rintro e w5 ⟨rfl, hk5, hb5, hg5⟩
          have WB := Lib.hid (write_bs (B + 1) Ak nk ck p t (bss i) w w5 hb5 (by omega) (HK.out.2.1.grown hg5 (by intro e; injection e with e; omega)) HBS.out hk1 hk2 (by omega) (by omega))
          have H5 : Hid (Holds w5 B (p ++ (bss i).map UInt8.toNat) (t + nk)) := hk5
          rw [hB] at hb5
          have c5 := HC.out _ hb5
          clear hk5 hb5 hg5 WA HK c2
          go_wp2_with fail
          refine WB.out.mono ?_
          rintro e w6 ⟨rfl, hk6, hb6, hg6⟩
          obtain ⟨p', hp'⟩ : ∃ p', p ++ (bss i).map UInt8.toNat = p' := ⟨_, rfl⟩
          obtain ⟨t', ht'⟩ : ∃ t', t + nk = t' := ⟨_, rfl⟩
          rw [hp', ht'] at hk6 H5
          rw [hB] at hb6
          have H7 : Hid (Holds w6 B p' t' ∧ Holds w6 (B + 1) p' t' ∧ Below B w w6) := ⟨H5.out.grown hg6 (by intro e; injection e with e; omega), hk6, hb6⟩
          have htl : t' ≤ 1024 * (i + 1) := by omega
          obtain ⟨ds, hds⟩ : ∃ ds, ((sumQ p' t').map v8).toArray = ds := ⟨_, rfl⟩
          have hsame : ∀ W, (Op.equalIn 10000 25 (.agg ds) (.agg ds)).run Try.prog W = .ok true W := fun W => by rw [← hds]; exact dig_same _ (sumQ_len _ _) W
          have SS := Lib.hid (fun S (hS : Holds w6 S p' t') W (h : Below w6.heap.size w6 W) => stsum_any S _ _ W (hS.below h) (by omega))
          rw [hds] at SS
          clear hds hk6 hb6 hg6 WB H5 hp' ht' c5 HC HBS
          go_wp2_with fail
          refine (SS.out B H7.out.1 _ (Below.refl _ _)).mono ?_
          rintro e w7 ⟨rfl, hb7⟩
          have HB7 := Lib.hid hb7
          clear hb7
          go_wp2_with fail
          refine (SS.out (B + 1) H7.out.2.1 _ HB7.out).mono ?_
          rintro e w8 ⟨rfl, hb8⟩
          have H8 : Hid (Holds w8 B p' t' ∧ Holds w8 (B + 1) p' t' ∧ Below B w w8) := by
            have hb := kp_call HB7.out hb8
            obtain ⟨q1, q2, q3⟩ := H7.out
            exact ⟨q1.below hb, q2.below hb, q3.trans (hb.mono (by have := q1.lt; omega))⟩
          clear hb8 HB7 H7 SS
          go_wp2
          go_roundw
          case rel => exact ⟨i + 1, t', p', by go_num, by omega, htl, H8.out⟩
          case measure => simp [intOf]; omega
        · have i3 : (nk : Int) > 1024 := by omega
          have HBW : Hid (Below w.heap.size w wr) := by have := HK.out.2.2; rw [← hB] at this; exact this
          clear HK HC HBS
          go_wp2_with fail
          refine (WK.out _).mono ?_
          rintro e w9 ⟨rfl, hb9⟩
          have HB9 := Lib.hid (kp_call HBW.out hb9)
          clear hb9
          go_wp2
          go_ret
          exact ⟨rfl, HB9.out⟩
      · have i2 : ¬ (i : Int) < (n : Int) := by omega
        have HBW : Hid (Below w.heap.size w wr) := by have := HK.out.2.2; rw [← hB] at this; exact this
        clear HK
        go_wp2_with fail
        refine (WK.out _).mono ?_
        rintro e w9 ⟨rfl, hb9⟩
        have HB9 := Lib.hid (kp_call HBW.out hb9)
        clear hb9
        go_wp2
        go_ret
        exact ⟨rfl, HB9.out⟩
  · have i1 : (n : Int) > 60 := by omega
    clear HR
    go_enter Try.func8, Try.ntmps8
    go_wp2_with fail
    refine (WK.out _).mono ?_
    rintro e w3 ⟨rfl, hb3⟩
    have HB3 := Lib.hid hb3
    clear hb3
    go_wp2
    go_ret
    exact ⟨rfl, HB3.out⟩
end Go.Proofs.Ytmbkbehccmadfaa
