/-
  nat: the statement NatBytes.
-/
import Derived.Test.YtpopohfbcedpbaaOb
namespace Go.Proofs.Ytpopohfbcedpbaa
open Go.RowKit Go
set_option linter.unusedVariables false
set_option linter.unusedSimpArgs false
set_option maxRecDepth 100000
theorem vast_any (A B : Option Addr) (n c m d : Nat) (w : World) (hn : n ≤ 9223372036854775807) (hm : m ≤ 9223372036854775807) :
    Calls Try.prog 10 #[.slice A n c, .slice B m d] w fun e w' => e = .returned (.bool (decide (300 < n) || decide (300 < m))) ∧ w = w' := by
  by_cases h1 : 300 < n
  · have i1 : (n : Int) > 300 := by omega
    rw [decide_eq_true h1, Bool.true_or]
    clear h1
    go_enter Try.func10, Try.ntmps10
    go_wp2
    go_ret
    exact ⟨rfl, rfl⟩
  · have i1 : ¬ (n : Int) > 300 := by omega
    rw [decide_eq_false h1, Bool.false_or]
    clear h1
    by_cases h2 : 300 < m
    · have i2 : (m : Int) > 300 := by omega
      rw [decide_eq_true h2]
      clear h2
      go_enter Try.func10, Try.ntmps10
      go_wp2
      go_ret
      exact ⟨rfl, rfl⟩
    · have i2 : ¬ (m : Int) > 300 := by omega
      rw [decide_eq_false h2]
      clear h2
      go_enter Try.func10, Try.ntmps10
      go_wp2
      go_ret
      exact ⟨rfl, rfl⟩
theorem octQ_good (x : List Nat) (z : Int) (h : (rightB x && decide (0 ≤ z) && decide (z ≤ 1024)) = true) : ∃ N : Nat, z = (N : Int) ∧ N ≤ 1024 ∧ rightB x = true ∧ octQ x z = (if bitsN (val x) ≤ 8 * N then (beN (val x) N, 0) else ([], 10)) := by
  rw [Bool.and_eq_true, Bool.and_eq_true, decide_eq_true_iff, decide_eq_true_iff] at h
  obtain ⟨⟨h1, h2⟩, h3⟩ := h
  refine ⟨z.toNat, by omega, by omega, h1, ?_⟩
  unfold octQ
  rw [h1, decide_eq_true h2, decide_eq_true h3]
  rfl
theorem octQ_bad (x : List Nat) (z : Int) (h : (rightB x && decide (0 ≤ z) && decide (z ≤ 1024)) = false) : octQ x z = ([], 1) := by
  unfold octQ
  rw [h]
  rfl
theorem oct_any (A : Option Addr) (n c : Nat) (z : Int) (x : List Nat) (w : World) (h : RU w A n x) (hn : n ≤ 300) (hz1 : -9223372036854775808 ≤ z) (hz2 : z ≤ 9223372036854775807) :
    Calls Try.prog 20 #[.slice A n c, .int .i64 z] w (OctR w (octQ x z)) := by
  cases hb : (rightB x && decide (0 ≤ z) && decide (z ≤ 1024)) with
  | false => rw [octQ_bad x z hb]; exact oct_bad A n c z x w h hn hz1 hz2 hb
  | true =>
    obtain ⟨N, rfl, h1, h2, h3⟩ := octQ_good x z hb
    rw [h3]
    exact oct_good A n c N x w h hn h2 h1
theorem doct_any (A : Option Addr) (n c : Nat) (z : Int) (x : List Nat) (w : World) (h : RU w A n x) (hn : n ≤ 300) (hz1 : -9223372036854775808 ≤ z) (hz2 : z ≤ 9223372036854775807) :
    Calls Try.prog 21 #[.slice A n c, .int .i64 z] w (OctR w (octQ x z)) := by
  cases hb : (rightB x && decide (0 ≤ z) && decide (z ≤ 1024)) with
  | false => rw [octQ_bad x z hb]; exact doct_bad A n c z x w h hn hz1 hz2 hb
  | true =>
    obtain ⟨N, rfl, h1, h2, h3⟩ := octQ_good x z hb
    rw [h3]
    exact doct_good A n c N x w h hn h2 h1
theorem twin_ru {w : World} {G n : Nat} {x : List Nat} (h : BlkU w G (x ++ [7, 9])) (hl : x.length = n) (lx : Lim x) : RU w (some ⟨G, 0, none⟩) n x := by
  have RT := h.ru (lx.append (by intro y hy; simp at hy; omega)) 0 n (by simp; omega)
  rw [List.drop_zero, List.take_append_of_le_length (by omega), take_all (by omega)] at RT
  exact RT
set_option maxHeartbeats 16000000 in
theorem bytes_walk (A : Option Addr) (n0 c0 : Nat) (x : List Nat) (B : Option Addr) (n1 c1 : Nat) (bs : List UInt8) (z : Int) (w : World) (h0 : IsUs w A n0 c0 x) (h1 : IsBs w B n1 c1 bs) (h2 : (Lit.int .i64 z).wf = true) :
    Calls Try.prog 3 #[.slice A n0 c0, .slice B n1 c1, .int .i64 z] w fun e w' => e = .returned (.bool true) ∧ Below w.heap.size w w' := by
  have hz := bounds_i64 h2
  have hn0 : n0 ≤ 9223372036854775807 := by have := h0.le; have h := h0.max; unfold maxLen at h; omega
  have hn1 := h1.lim
  have VA := Lib.hid (vast_any A none n0 c0 0 0 w hn0 (by omega))
  clear h2
  by_cases hv : 300 < n0 ∨ 2048 < n1
  · clear h0 h1
    by_cases hv0 : 300 < n0
    · have VA := VA.out
      rw [decide_eq_true hv0, Bool.true_or] at VA
      have VA := Lib.hid VA
      clear hv hv0
      go_enter Try.func3, Try.ntmps3
      go_wp2_with fail
      refine VA.out.mono ?_
      rintro e w' ⟨rfl, rfl⟩
      clear VA
      go_wp2_with fail
      refine (works_any w).mono ?_
      rintro e w1 ⟨rfl, hb⟩
      have HB := Lib.hid hb
      clear hb
      go_wp2
      go_ret
      exact ⟨rfl, HB.out⟩
    · have VA := VA.out
      rw [decide_eq_false hv0, Bool.false_or, decide_eq_false (show ¬ 300 < 0 by omega)] at VA
      have VA := Lib.hid VA
      have i1 : (n1 : Int) > 2048 := by omega
      clear hv hv0
      go_enter Try.func3, Try.ntmps3
      go_wp2_with fail
      refine VA.out.mono ?_
      rintro e w' ⟨rfl, rfl⟩
      clear VA
      go_wp2_with fail
      refine (works_any w).mono ?_
      rintro e w1 ⟨rfl, hb⟩
      have HB := Lib.hid hb
      clear hb
      go_wp2
      go_ret
      exact ⟨rfl, HB.out⟩
  · have hv0 : n0 ≤ 300 := by omega
    have hv1 : n1 ≤ 2048 := by omega
    have VA := VA.out
    rw [decide_eq_false (show ¬ 300 < n0 by omega), Bool.false_or, decide_eq_false (show ¬ 300 < 0 by omega)] at VA
    have VA := Lib.hid VA
    have i1 : ¬ (n1 : Int) > 2048 := by omega
    have IX := Lib.hid h0.ru
    have IB := Lib.hid h1.rb
    obtain ⟨z1, z2⟩ := hz
    have lx := h0.ru.len
    have lb := h1.len
    obtain ⟨q, hq⟩ : ∃ q, ofQ bs = q := ⟨_, rfl⟩
    obtain ⟨ql, qe⟩ := q
    have HQ := Lib.hid hq
    obtain ⟨rb, hrb⟩ : ∃ rb, rightB x = rb := ⟨_, rfl⟩
    have HRB := Lib.hid hrb
    obtain ⟨bt, hbt⟩ : ∃ bt : Int, (if rightB x = true then (bitsN (val x) : Int) else -1) = bt := ⟨_, rfl⟩
    have HBT := Lib.hid hbt
    obtain ⟨p, hp⟩ : ∃ p, octQ x z = p := ⟨_, rfl⟩
    obtain ⟨pl, pe⟩ := p
    have HP := Lib.hid hp
    have HL := Lib.hid (And.intro lx lb)
    have t1 : ((qe : Int) != (qe : Int)) = false := by simp
    have t2 : (rb != rb) = false := by simp
    have t3 : (bt != bt) = false := by simp
    have t4 : ((pe : Int) != (pe : Int)) = false := by simp
    clear h0 h1 hv hq hrb hbt hp lx lb
    go_enter Try.func3, Try.ntmps3
    go_wp2_with fail
    refine VA.out.mono ?_
    rintro e w' ⟨rfl, rfl⟩
    clear VA
    go_wp2_with fail
    refine (twin_any A n0 c0 x w IX.out hv0).mono ?_
    rintro e w1 ⟨rfl, hk, hb⟩
    obtain ⟨G, hG⟩ : ∃ G, w.heap.size = G := ⟨_, rfl⟩
    rw [hG] at hk ⊢
    have HT := Lib.hid hk
    have HB := Lib.hid hb
    have OWN : Hid (OwnB (w1.alloc (.cells #[] 5)) w1.heap.size (some ⟨w1.heap.size, 0, none⟩) 0 0 []) := OwnR.lit w1 5 1 #[] 0 (by decide) rfl
    have RBX := Lib.hid ((IB.out.below hb).alloc (.cells #[] 5))
    have HB9 : Hid (∀ w9 : World, (w1.alloc (.cells #[] 5)).grownBy w9 (blk (some ⟨w1.heap.size, 0, none⟩)) → Below w1.heap.size w1 w9) := fun w9 hg => by
      have h1 : Below w1.heap.size w1 (w1.alloc (.cells #[] 5)) := kp_alloc (Below.refl _ _) _
      exact h1.grown hg (by simp) (fun g hg => by have h2 : some w1.heap.size = some g := hg; injection h2 with h2; omega)
    have hl1 := HL.out.2
    have hGs := Lib.hid hG
    clear hk hb hG
    go_wp2_with (at_builtin; refine wpList_apn _ _ rfl rfl rfl w1.heap.size (some ⟨w1.heap.size, 0, none⟩) 0 0 [] rfl OWN.out B n1 c1 bs rfl RBX.out (by omega) (by simp) ?_)
    intro A2 c2 w2 ho hg
    have ho : OwnB w2 w1.heap.size A2 n1 c2 bs := by simpa using ho
    have hb := HB9.out _ hg
    replace HB := Lib.hid (kp_call HB.out hb)
    replace HT := Lib.hid (HT.out.below hb)
    have OI := Lib.hid ho
    clear ho hg OWN RBX HB9 hb hl1
    have C := of_any A2 n1 c2 bs w2 OI.out.rb (by omega)
    rw [HQ.out] at C
    have C := Lib.hid C
    go_wp2_with fail
    refine C.out.mono ?_
    rintro e w3 ⟨A3, n3, c3, rfl, s3, l3, m3, q3, hb⟩
    replace HB := Lib.hid (kp_call HB.out hb)
    replace HT := Lib.hid (HT.out.below hb)
    replace OI := Lib.hid (OI.out.below hb (Nat.le_refl _))
    have R3 := Lib.hid s3.ru
    clear C s3 hb
    have C := dof_any B n1 c1 bs w3 (IB.out.below HB.out) (by omega)
    rw [HQ.out] at C
    have C := Lib.hid C
    go_wp2_with fail
    refine C.out.mono ?_
    rintro e w4 ⟨A4, n4, c4, rfl, r4, l4, m4, q4, hb⟩
    replace HB := Lib.hid (kp_call HB.out hb)
    replace HT := Lib.hid (HT.out.below hb)
    replace OI := Lib.hid (OI.out.below hb (Nat.le_refl _))
    replace R3 := Lib.hid (R3.out.below hb)
    have R4 := Lib.hid r4
    clear C r4 hb
    go_wp2_with fail
    refine (same_t A3 A4 n3 c3 n4 c4 _ _ w4 R3.out R4.out (by omega) (by omega) rfl).mono ?_
    rintro e w5 ⟨rfl, hb⟩
    replace HB := Lib.hid (kp_call HB.out hb)
    replace HT := Lib.hid (HT.out.below hb)
    replace OI := Lib.hid (OI.out.below hb (Nat.le_refl _))
    clear hb R3 R4
    have C := right_any (some ⟨G, 0, none⟩) n0 (n0 + 2) x w5 (twin_ru HT.out HL.out.1 IX.out.lim) (by omega)
    rw [HRB.out] at C
    have C := Lib.hid C
    go_wp2_with fail
    refine C.out.mono ?_
    rintro e w' ⟨rfl, rfl⟩
    clear C
    have C := dright_any A n0 c0 x w5 (IX.out.below HB.out) (by omega)
    rw [HRB.out] at C
    have C := Lib.hid C
    go_wp2_with fail
    refine C.out.mono ?_
    rintro e w' ⟨rfl, rfl⟩
    clear C
    have C := bits_any (some ⟨G, 0, none⟩) n0 (n0 + 2) x w5 (twin_ru HT.out HL.out.1 IX.out.lim) (by omega)
    rw [HBT.out] at C
    have C := Lib.hid C
    go_wp2_with fail
    refine C.out.mono ?_
    rintro e w' ⟨rfl, rfl⟩
    clear C
    have C := dbits_any A n0 c0 x w5 (IX.out.below HB.out) (by omega)
    rw [HBT.out] at C
    have C := Lib.hid C
    go_wp2_with fail
    refine C.out.mono ?_
    rintro e w' ⟨rfl, rfl⟩
    clear C
    have H5 := Lib.hid (show _ ∧ _ ∧ _ from ⟨HT.out, HB.out, OI.out⟩)
    clear HT HB OI
    go_wp2_with fail
    go_loopw [13] (fun vi wl => ∃ i : Nat, vi = .int .i64 (i : Int) ∧ i ≤ n1 ∧ Hid (BlkU wl G (x ++ [7, 9]) ∧ Below w.heap.size w wl ∧ OwnB wl w1.heap.size A2 n1 c2 bs)) (fun vi _ => n1 - (intOf vi).toNat)
    case atStart => exact ⟨0, rfl, Nat.zero_le _, H5.out⟩
    case round =>
      obtain ⟨i, rfl, hi, HK⟩ := hrel
      clear H5
      by_cases hlt : i < n1
      · as_aux_lemma =>
        have j1 : (i : Int) < (n1 : Int) := by omega
        have j2 : (0 : Int) ≤ (i : Int) := by omega
        have e3 : IntKind.i64.wrap ((i : Int) + 1) = (i : Int) + 1 := IntWalk.i64_in _ (by omega)
        have hlb := HL.out.2
        obtain ⟨g2, rfl, _, _⟩ := HK.out.2.2.shape (by have := HK.out.2.2.cap; omega)
        obtain ⟨bb, ob, rfl, hbb, cb⟩ := (IB.out.below HK.out.2.1).2.at_ (k := i) (by omega)
        obtain ⟨y, hy⟩ : ∃ y, bs[i]'(by omega) = y := ⟨_, rfl⟩
        rw [hy] at cb
        have ca := HK.out.2.2.cellAt i y (by rw [List.getElem?_eq_getElem (by omega), hy])
        have t5 : (((y.toNat : Nat) : Int) != ((y.toNat : Nat) : Int)) = false := by simp
        clear hy hlb
        have HN : Hid (∀ k, BlkU (wr.drewN k) G (x ++ [7, 9]) ∧ Below w.heap.size w (wr.drewN k) ∧ OwnB (wr.drewN k) w1.heap.size (some ⟨g2, 0, none⟩) n1 c2 bs) := fun k => ⟨HK.out.1.drewN k, kp_drewN HK.out.2.1 k, HK.out.2.2.drewN k⟩
        clear HK
        go_wp2_with fail
        go_quiet (fail)
        go_wp2
        go_roundw
        case rel => exact ⟨i + 1, by go_num, by omega, HN.out _⟩
        case measure => simp [intOf]; omega
      · as_aux_lemma =>
        have j1 : ¬ (i : Int) < (n1 : Int) := by omega
        obtain ⟨f1, f2, f3⟩ := HK.out
        have HT := Lib.hid f1
        have HB := Lib.hid f2
        clear f1 f2 f3 HK
        have C := oct_any (some ⟨G, 0, none⟩) n0 (n0 + 2) z x wr (twin_ru HT.out HL.out.1 IX.out.lim) hv0 z1 z2
        rw [HP.out] at C
        have C := Lib.hid C
        go_wp2_with fail
        refine C.out.mono ?_
        rintro e w6 ⟨A6, n6, c6, rfl, o6, l6, m6, hb⟩
        replace HB := Lib.hid (kp_call HB.out hb)
        replace HT := Lib.hid (HT.out.below hb)
        have O6 := Lib.hid o6
        clear C o6 hb
        have C := doct_any A n0 c0 z x w6 (IX.out.below HB.out) hv0 z1 z2
        rw [HP.out] at C
        have C := Lib.hid C
        go_wp2_with fail
        refine C.out.mono ?_
        rintro e w7 ⟨A7, n7, c7, rfl, o7, l7, m7, hb⟩
        obtain rfl : n6 = n7 := O6.out.len.symm.trans o7.len
        have H7 := Lib.hid (show _ ∧ _ ∧ _ ∧ _ from ⟨HT.out.below hb, kp_call HB.out hb, O6.out.below hb (Nat.le_refl _), o7⟩)
        have ln6 := O6.out.len
        have HLN := Lib.hid ln6
        have t6 : ((n6 : Int) != (n6 : Int)) = false := by simp
        clear C o7 hb HT HB O6 ln6
        go_wp2_with fail
        go_loopw [16] (fun vi wl => ∃ i : Nat, vi = .int .i64 (i : Int) ∧ i ≤ n6 ∧ Hid (BlkU wl G (x ++ [7, 9]) ∧ Below w.heap.size w wl ∧ OwnB wl wr.heap.size A6 n6 c6 pl ∧ OwnB wl w6.heap.size A7 n6 c7 pl)) (fun vi _ => n6 - (intOf vi).toNat)
        case atStart => exact ⟨0, rfl, Nat.zero_le _, H7.out⟩
        case round =>
          obtain ⟨j, rfl, hj, HJ⟩ := hrel
          clear H7
          by_cases hjt : j < n6
          · as_aux_lemma =>
            have k1 : (j : Int) < (n6 : Int) := by omega
            have k2 : (0 : Int) ≤ (j : Int) := by omega
            have e4 : IntKind.i64.wrap ((j : Int) + 1) = (j : Int) + 1 := IntWalk.i64_in _ (by omega)
            have hln := HLN.out
            obtain ⟨g6, rfl, _, _⟩ := HJ.out.2.2.1.shape (by omega)
            obtain ⟨g7, rfl, _, _⟩ := HJ.out.2.2.2.shape (by omega)
            obtain ⟨y, hy⟩ : ∃ y, pl[j]? = some y := ⟨_, List.getElem?_eq_getElem (show j < pl.length by omega)⟩
            have ca := HJ.out.2.2.1.cellAt j y hy
            have cb := HJ.out.2.2.2.cellAt j y hy
            have t7 : (((y.toNat : Nat) : Int) != ((y.toNat : Nat) : Int)) = false := by simp
            clear hy hln
            have HN := HJ
            clear HJ
            go_wp2_with fail
            go_quiet (fail)
            go_wp2
            go_roundw
            case rel => exact ⟨j + 1, by go_num, by omega, HN.out.1.drewN _, kp_drewN HN.out.2.1 _, HN.out.2.2.1.drewN _, HN.out.2.2.2.drewN _⟩
            case measure => simp [intOf]; omega
          · as_aux_lemma =>
            have k1 : ¬ (j : Int) < (n6 : Int) := by omega
            obtain ⟨f1, f2, f3, f4⟩ := HJ.out
            have HT := Lib.hid f1
            have HB := Lib.hid f2
            clear f1 f2 f3 f4 HJ
            go_wp2_with fail
            refine (kept_any G n0 A n0 c0 x _ HT.out (IX.out.below HB.out) hv0).mono ?_
            rintro e w8 ⟨rfl, hb⟩
            replace HB := Lib.hid (kp_call HB.out hb)
            clear hb
            go_wp2_with fail
            refine (works_any w8).mono ?_
            rintro e w9 ⟨rfl, hb⟩
            replace HB := Lib.hid (kp_call HB.out hb)
            clear hb
            go_wp2
            go_ret
            exact ⟨rfl, HB.out⟩
end Go.Proofs.Ytpopohfbcedpbaa
