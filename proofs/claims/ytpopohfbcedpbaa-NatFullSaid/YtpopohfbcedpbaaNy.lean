/-
  nat: the statement NatBack.
-/
import Derived.Test.YtpopohfbcedpbaaNu
namespace Go.Proofs.Ytpopohfbcedpbaa
open Go.RowKit Go
set_option linter.unusedVariables false
set_option linter.unusedSimpArgs false
set_option maxRecDepth 100000
theorem bits_bytes (l : List UInt8) (N : Nat) (h : l.length ≤ N) : bitsN (beV l) ≤ 8 * N := by
  rw [bits_le]
  refine Nat.lt_of_lt_of_le (beV_lt l) ?_
  rw [show (256 : Nat) = 2 ^ 8 by decide, ← Nat.pow_mul]
  exact Nat.pow_le_pow_right (by decide) (by omega)
theorem back_num (v k : Nat) (h : bitsN v ≤ 8 * k) : beV (beN v k) = v := by
  rw [beN_val]
  refine Nat.mod_eq_of_lt ?_
  rw [show (256 : Nat) = 2 ^ 8 by decide, ← Nat.pow_mul]
  exact (bits_le _ _).1 h
theorem bits_pow {v i : Nat} (h : v < 4294967296 ^ i) : bitsN v ≤ 32 * i := by
  rw [bits_le]
  rw [show (4294967296 : Nat) = 2 ^ 32 by decide, ← Nat.pow_mul] at h
  exact h
theorem bits_128 {v : Nat} (h : v < 4294967296 ^ 128) : bitsN v ≤ 4096 := bits_pow h
set_option maxHeartbeats 4000000 in
theorem back_walk (A : Option Addr) (n0 c0 : Nat) (bs : List UInt8) (B : Option Addr) (n1 c1 : Nat) (x : List Nat) (a : Int) (w : World) (h0 : IsBs w A n0 c0 bs) (h1 : IsUs w B n1 c1 x) (h2 : (Lit.int .u8 a).wf = true) :
    Calls Try.prog 7 #[.slice A n0 c0, .slice B n1 c1, .int .u8 a] w fun e w' => e = .returned (.bool true) ∧ Below w.heap.size w w' := by
  have hau := bounds_u8 h2
  obtain ⟨a1, rfl⟩ : ∃ a1 : Nat, a = (a1 : Int) := ⟨a.toNat, by omega⟩
  clear h2
  by_cases h5 : n0 > 512
  · have i1 : (n0 : Int) > 512 := by omega
    clear h0 h1
    go_enter Try.func7, Try.ntmps7
    go_wp2_with fail
    refine (works_any w).mono ?_
    rintro e w1 ⟨rfl, hb⟩
    have HB := Lib.hid hb
    clear hb
    go_wp2
    go_ret
    exact ⟨rfl, HB.out⟩
  · have i1 : ¬ (n0 : Int) > 512 := by omega
    have HBS := Lib.hid h0.rb
    have Ix := Lib.hid h1
    have le1 := h1.le
    have mx1 : c1 ≤ 9223372036854775807 := by have h := h1.max; unfold maxLen at h; exact h
    have Bv := brief_lt x 128 h1.ru.lim
    obtain ⟨v, hv⟩ : ∃ v, briefQ x 128 = v := ⟨_, rfl⟩
    rw [hv] at Bv
    have Vv := Lib.hid hv
    have Bv := Lib.hid Bv
    obtain ⟨f, hf⟩ : ∃ f, a1 % 100 = f := ⟨_, rfl⟩
    have e1 : (a1 : Int) % 100 = (f : Int) := by omega
    obtain ⟨N, hN⟩ : ∃ N, n0 + f = N := ⟨_, rfl⟩
    have e2 : IntKind.i64.wrap ((n0 : Int) + (f : Int)) = (N : Int) := by rw [show (n0 : Int) + f = N by omega]; exact IntWalk.i64_in _ (by omega)
    have hN6 : N ≤ 700 := by omega
    have hfN : f ≤ N := by omega
    have HF := Lib.hid (And.intro hf hN)
    have hl0 := h0.len
    have OWN : Hid (OwnB (w.alloc (.cells #[] 5)) w.heap.size (some ⟨w.heap.size, 0, none⟩) 0 0 []) := OwnR.lit w 5 1 #[] 0 (by decide) rfl
    have RBX := Lib.hid (h0.rb.alloc (.cells #[] 5))
    have HB9 : Hid (∀ w9 : World, (w.alloc (.cells #[] 5)).grownBy w9 (blk (some ⟨w.heap.size, 0, none⟩)) → Below w.heap.size w w9) := fun w9 hg => by
      have h1 : Below w.heap.size w (w.alloc (.cells #[] 5)) := kp_alloc (Below.refl _ _) _
      exact h1.grown hg (by simp) (fun g hg => by have h2 : some w.heap.size = some g := hg; injection h2 with h2; omega)
    clear h0 h1 hv hf hN
    go_enter Try.func7, Try.ntmps7
    go_wp2_with (at_builtin; refine wpList_apn _ _ rfl rfl rfl w.heap.size (some ⟨w.heap.size, 0, none⟩) 0 0 [] rfl OWN.out A n0 c0 bs rfl RBX.out (by omega) (by simp) ?_)
    intro A2 c2 w1 ho hg
    have ho : OwnB w1 w.heap.size A2 n0 c2 bs := by simpa using ho
    have HB := Lib.hid (HB9.out _ hg)
    have C := of_any A2 n0 c2 bs w1 ho.rb (by omega)
    rw [show ofQ bs = (num (beV bs), 0) by unfold ofQ; rw [if_pos (by omega)]] at C
    have C := Lib.hid C
    clear ho hg OWN RBX HB9
    go_wp2_with fail
    (with_reducible refine C.out.mono ?_)
    rintro e w2 ⟨A3, n3, c3, rfl, s3, l3, m3, q3, hb⟩
    replace HB := Lib.hid (kp_call HB.out hb)
    have R3 := Lib.hid s3.ru
    clear C s3 hb
    have C := oct_good A3 n3 c3 N (num (beV bs)) w2 R3.out (by omega) (right_n (i := 128) (Nat.lt_of_lt_of_le (beV_lt bs) (pow_bytes _ _ (by omega))) (by decide)) (by omega)
    rw [val_num, if_pos (bits_bytes bs N (by have := HF.out; omega)), show N = bs.length + f by have := HF.out; omega, beN_more] at C
    rw [show bs.length + f = N by have := HF.out; omega] at C
    have C := Lib.hid C
    go_wp2_with fail
    refine C.out.mono ?_
    rintro e w3 ⟨A4, n4, c4, rfl, o4, l4, m4, hb⟩
    obtain rfl : N = n4 := by
      have := o4.len
      rw [List.length_append, List.length_replicate] at this
      have := HF.out
      omega
    replace HB := Lib.hid (kp_call HB.out hb)
    replace R3 := Lib.hid (R3.out.below hb)
    have O4 := Lib.hid o4
    clear C o4 hb
    go_wp2
    go_loop [12] (fun vi => ∃ i : Nat, vi = .int .i64 (i : Int) ∧ i ≤ N) (fun vi => N - (intOf vi).toNat)
    case atStart => exact ⟨0, rfl, Nat.zero_le _⟩
    case round =>
      obtain ⟨i, rfl, hi⟩ := hrel
      by_cases hlt : i < N
      · have j1 : (i : Int) < (N : Int) := by omega
        have j2 : (0 : Int) ≤ (i : Int) := by omega
        have e3 : IntKind.i64.wrap ((i : Int) + 1) = (i : Int) + 1 := IntWalk.i64_in _ (by omega)
        obtain ⟨g4, rfl, _, _⟩ := O4.out.shape (by omega)
        by_cases hif : i < f
        · have j3 : ¬ (i : Int) ≥ (f : Int) := by omega
          have c1 := O4.out.cellAt i 0 (by rw [List.getElem?_append_left (by simpa using hif), List.getElem?_replicate, if_pos hif])
          have c1 : w3.cell? ⟨g4, i, none⟩ = some (.int .u8 0) := c1
          have t1 : ((0 : Int) != 0) = false := by decide
          go_wp2
          go_round
          case rel => exact ⟨i + 1, by go_num, by omega⟩
          case measure => simp [intOf]; omega
        · have j3 : (i : Int) ≥ (f : Int) := by omega
          obtain ⟨j, hj⟩ : ∃ j, i = f + j := ⟨i - f, by omega⟩
          have e4 : IntKind.i64.wrap ((i : Int) - (f : Int)) = (j : Int) := by rw [show (i : Int) - f = j by omega]; exact IntWalk.i64_in _ (by omega)
          have hjn : j < n0 := by have := HF.out; omega
          have j4 : (j : Int) < (n0 : Int) := by omega
          have j5 : (0 : Int) ≤ (j : Int) := by omega
          obtain ⟨bb, ob, rfl, hbb, cb⟩ := (HBS.out.below HB.out).2.at_ (k := j) (by omega)
          obtain ⟨q, hq⟩ : ∃ q, bs[j]'(by omega) = q := ⟨_, rfl⟩
          rw [hq] at cb
          have c1 := O4.out.cellAt i q (by rw [List.getElem?_append_right (by simp; omega), List.length_replicate, show i - f = j by omega, List.getElem?_eq_getElem (by omega), hq])
          have t1 : (((q.toNat : Nat) : Int) != ((q.toNat : Nat) : Int)) = false := by simp
          have HJ := Lib.hid (And.intro hj hq)
          clear hj hq
          go_wp2
          go_round
          case rel => exact ⟨i + 1, by go_num, by omega⟩
          case measure => simp [intOf]; omega
      · as_aux_lemma =>
        have j1 : ¬ (i : Int) < (N : Int) := by omega
        clear O4 R3
        go_wp2_with fail
        have C := brief_any B n1 c1 128 x w3 (Ix.out.ru.below HB.out) le1 mx1 (by decide)
        rw [Vv.out] at C
        refine C.mono ?_
        rintro e w4 ⟨A5, n5, c5, rfl, r5, l5, m5, q5, hb⟩
        replace HB := Lib.hid (kp_call HB.out hb)
        have R5 := Lib.hid r5
        clear C r5 hb
        have hb4 := bits_128 Bv.out
        have hbb := (bits_le v (bitsN v)).1 (Nat.le_refl _)
        have C := bits_any A5 n5 c5 (num v) w4 R5.out (by omega)
        rw [if_pos (right_n Bv.out (by decide)), val_num] at C
        obtain ⟨bt, hbt⟩ : ∃ bt, bitsN v = bt := ⟨_, rfl⟩
        rw [hbt] at C hb4
        have HBT := Lib.hid hbt
        have C := Lib.hid C
        clear hbb hbt
        go_wp2_with fail
        refine C.out.mono ?_
        rintro e w' ⟨rfl, rfl⟩
        clear C
        obtain ⟨k, hk⟩ : ∃ k, (bt + 7) / 8 = k := ⟨_, rfl⟩
        have hk5 : k ≤ 512 := by omega
        have hk8 : bt ≤ 8 * k := by omega
        have e5 : IntKind.i64.wrap ((bt : Int) + 7) = ((bt + 7 : Nat) : Int) := by rw [show (bt : Int) + 7 = ((bt + 7 : Nat) : Int) by omega]; exact IntWalk.i64_in _ (by omega)
        obtain ⟨b7, hb7⟩ : ∃ b7, bt + 7 = b7 := ⟨_, rfl⟩
        rw [hb7] at e5 hk
        have e6 : (b7 : Int) / 8 = (k : Int) := by omega
        have C := oct_good A5 n5 c5 k (num v) w4 R5.out (by omega) (right_n Bv.out (by decide)) (by omega)
        rw [val_num, HBT.out, if_pos hk8] at C
        have HK := Lib.hid (And.intro hk hb7)
        have C := Lib.hid C
        clear hk hb7
        go_wp2_with fail
        refine C.out.mono ?_
        rintro e w5 ⟨A6, n6, c6, rfl, o6, l6, m6, hb⟩
        obtain rfl : k = n6 := by rw [← o6.len, beN_len]
        replace HB := Lib.hid (kp_call HB.out hb)
        replace R5 := Lib.hid (R5.out.below hb)
        have O6 := Lib.hid o6
        clear C o6 hb
        have C := of_any A6 k c6 (beN v k) w5 O6.out.rb (by omega)
        rw [show ofQ (beN v k) = (num v, 0) by unfold ofQ; rw [beN_len, if_pos hk5, back_num v k (by rw [HBT.out]; exact hk8)]] at C
        have C := Lib.hid C
        go_wp2_with fail
        refine C.out.mono ?_
        rintro e w6 ⟨A7, n7, c7, rfl, s7, l7, m7, q7, hb⟩
        replace HB := Lib.hid (kp_call HB.out hb)
        replace R5 := Lib.hid (R5.out.below hb)
        have R7 := Lib.hid s7.ru
        clear C s7 hb O6
        go_wp2_with fail
        refine (same_t A7 A5 n7 c7 n5 c5 _ _ w6 R7.out R5.out (by omega) (by omega) rfl).mono ?_
        rintro e w7 ⟨rfl, hb⟩
        replace HB := Lib.hid (kp_call HB.out hb)
        replace R5 := Lib.hid (R5.out.below hb)
        clear hb R7
        by_cases hb0 : bt = 0
        · as_aux_lemma =>
          have t1 : ¬ (bt : Int) > 0 := by omega
          clear hb0
          go_wp2_with fail
          refine (works_any w7).mono ?_
          rintro e w8 ⟨rfl, hb⟩
          replace HB := Lib.hid (kp_call HB.out hb)
          clear hb
          go_wp2
          go_ret
          exact ⟨rfl, HB.out⟩
        · as_aux_lemma =>
          have t1 : (bt : Int) > 0 := by omega
          obtain ⟨b1, hb1⟩ : ∃ b1, bt - 1 = b1 := ⟨_, rfl⟩
          have e7 : IntKind.i64.wrap ((bt : Int) - 1) = (b1 : Int) := by rw [show (bt : Int) - 1 = b1 by omega]; exact IntWalk.i64_in _ (by omega)
          obtain ⟨k2, hk2⟩ : ∃ k2, b1 / 8 = k2 := ⟨_, rfl⟩
          have e8 : (b1 : Int) / 8 = (k2 : Int) := by omega
          have hk2b : k2 ≤ 512 := by omega
          have C := oct_good A5 n5 c5 k2 (num v) w7 R5.out (by omega) (right_n Bv.out (by decide)) (by omega)
          rw [val_num, HBT.out] at C
          obtain ⟨r8, hr8⟩ : ∃ r8, bt % 8 = r8 := ⟨_, rfl⟩
          have e9 : (bt : Int) % 8 = (r8 : Int) := by omega
          by_cases h81 : r8 = 1
          · have t2 : ((r8 : Int) == 1) = true := by simp; omega
            rw [if_neg (by omega)] at C
            have C := Lib.hid C
            have HZ := Lib.hid (show _ ∧ _ ∧ _ ∧ _ from ⟨hb1, hk2, hr8, h81⟩)
            clear hb1 hk2 hr8 h81 hb0
            go_wp2_with fail
            (with_reducible refine C.out.mono ?_)
            rintro e w8 ⟨A8, n8, c8, rfl, o8, l8, m8, hb⟩
            replace HB := Lib.hid (kp_call HB.out hb)
            clear hb C o8
            go_wp2_with fail
            refine (works_any w8).mono ?_
            rintro e w9 ⟨rfl, hb⟩
            replace HB := Lib.hid (kp_call HB.out hb)
            clear hb
            go_wp2
            go_ret
            exact ⟨rfl, HB.out⟩
          · have t2 : ((r8 : Int) == 1) = false := by simp; omega
            have t3 : ¬ r8 = 1 := h81
            obtain ⟨rs, hrs⟩ : ∃ rs, (if bt ≤ 8 * k2 then (beN v k2, 0) else ([], 10)) = rs := ⟨_, rfl⟩
            rw [hrs] at C
            have C := Lib.hid C
            have HZ := Lib.hid (show _ ∧ _ ∧ _ ∧ _ from ⟨hb1, hk2, hr8, hrs⟩)
            clear hb1 hk2 hr8 h81 hb0 hrs
            go_wp2_with fail
            (with_reducible refine C.out.mono ?_)
            rintro e w8 ⟨A8, n8, c8, rfl, o8, l8, m8, hb⟩
            replace HB := Lib.hid (kp_call HB.out hb)
            clear hb C o8
            go_wp2_with fail
            refine (works_any w8).mono ?_
            rintro e w9 ⟨rfl, hb⟩
            replace HB := Lib.hid (kp_call HB.out hb)
            clear hb
            go_wp2
            go_ret
            exact ⟨rfl, HB.out⟩
end Go.Proofs.Ytpopohfbcedpbaa
