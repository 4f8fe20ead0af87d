/-
  der: the statement on plain numbers.
-/
import Derived.Test.YtlkiobngafjeiaaDrWk
import Derived.Test.YtlkiobngafjeiaaDrX
namespace Go.Proofs.Ytlkiobngafjeiaa
open Go.RowKit Go
set_option linter.unusedVariables false
set_option maxRecDepth 100000
theorem drop_cons1 {bs : List UInt8} {j : Nat} {d : UInt8} (h : bs[j]? = some d) : bs.drop j = d :: bs.drop (j + 1) := by
  obtain ⟨hj, rfl⟩ := List.getElem?_eq_some_iff.1 h
  exact List.drop_eq_getElem_cons hj
theorem trimZ_zeros (k : Nat) (bs : List UInt8) : trimZ (List.replicate k 0 ++ bs) = trimZ bs := by
  induction k with
  | zero => rfl
  | succ k ih =>
    rw [List.replicate_succ, List.cons_append, trimZ_cons, if_pos (by decide)]
    exact ih
theorem putI_zeros (k : Nat) (bs : List UInt8) : putI (List.replicate k 0 ++ bs) = putI bs := by
  unfold putI; rw [trimZ_zeros]
theorem trimZ_head : ∀ (bs : List UInt8) (d : UInt8) (r : List UInt8), trimZ bs = d :: r → d.toNat ≠ 0
  | [], d, r, h => by cases h
  | x :: t, d, r, h => by
    rw [trimZ_cons] at h
    split at h
    · exact trimZ_head t d r h
    · cases h; assumption
theorem trimZ_self {d : UInt8} {r : List UInt8} (h : d.toNat ≠ 0) : trimZ (d :: r) = d :: r := by
  rw [trimZ_cons, if_neg h]
/-- What is put is a number's body again: what it says, and how long it is. -/
theorem putI_case (bs : List UInt8) : ∃ p0 P', putI bs = p0 :: P' ∧ p0.toNat < 128 ∧ intQ (putI bs) = some (trimZ bs) ∧
    ((trimZ bs = [] ∧ P'.length = 0) ∨ ∃ d r, trimZ bs = d :: r ∧ ((128 ≤ d.toNat ∧ P'.length = r.length + 1) ∨ (d.toNat < 128 ∧ P'.length = r.length))) := by
  unfold putI
  cases h : trimZ bs with
  | nil => exact ⟨0, [], rfl, by decide, rfl, .inl ⟨rfl, rfl⟩⟩
  | cons d r =>
    have hd := trimZ_head bs d r h
    simp only
    by_cases h8 : 128 ≤ d.toNat
    · rw [if_pos h8]
      refine ⟨0, d :: r, rfl, by decide, ?_, .inr ⟨d, r, rfl, .inl ⟨h8, rfl⟩⟩⟩
      simp only [intQ]
      rw [if_neg (by rintro (h | ⟨_, h⟩); exact absurd h (by decide); omega), trimZ_cons, if_pos (by decide), trimZ_self hd]
    · rw [if_neg h8]
      refine ⟨d, r, rfl, by omega, ?_, .inr ⟨d, r, rfl, .inr ⟨by omega, rfl⟩⟩⟩
      cases r with
      | nil => simp only [intQ]; rw [if_neg h8, trimZ_self hd]
      | cons x r => simp only [intQ]; rw [if_neg (by omega), trimZ_self hd]
theorem plain_big (A : Option Addr) (n c : Nat) (u : Int) (w : World) (hb : 8192 < n) :
    Calls Try.prog 16 #[.slice A n c, .int .u8 u] w fun e w' => e = .returned (.bool true) ∧ Below w.heap.size w w' := by
  have W := Lib.hid (works_any w)
  have L := Lib.hid (large_any A n c w)
  have hd : decide ((8192 : Int) < (n : Int)) = true := by simp; omega
  rw [hd] at L
  clear hd
  go_enter Try.func16, Try.ntmps16
  go_wp2_with fail
  refine L.out.mono ?_
  rintro e w' ⟨rfl, rfl⟩
  go_wp2_with fail
  refine W.out.mono ?_
  rintro e w' ⟨rfl, hb⟩
  go_wp2
  go_ret
  exact ⟨rfl, hb⟩
set_option maxHeartbeats 8000000 in
theorem plain_go (A : Option Addr) (n c u : Nat) (bs : List UInt8) (w : World) (hR : RB w A n bs) (hnc : n ≤ c) (hc : c ≤ maxLen) (hn : n ≤ 8192) (hu : u < 256) :
    Calls Try.prog 16 #[.slice A n c, .int .u8 (u : Int)] w fun e w' => e = .returned (.bool true) ∧ Below w.heap.size w w' := by
  have W := Lib.hid (fun W => works_any W)
  have L := Lib.hid (large_any A n c w)
  have hd : decide ((8192 : Int) < (n : Int)) = false := by simp; omega
  rw [hd] at L
  have hcc : c ≤ 9223372036854775807 := by unfold maxLen at hc; omega
  have P1 := Lib.hid (putint_any A n c bs w hR hnc hc (by omega) hcc)
  obtain ⟨p0, P', hP, hp0, hI, hcase⟩ := putI_case bs
  have HP := Lib.hid hP
  have HI := Lib.hid hI
  have HCase := Lib.hid hcase
  have HR := Lib.hid hR
  clear hd hR hP hI hcase
  go_enter Try.func16, Try.ntmps16
  go_wp2_with fail
  refine L.out.mono ?_
  rintro e w' ⟨rfl, rfl⟩
  go_wp2_with fail
  refine P1.out.mono ?_
  rintro e w1 ⟨A1, n1, c1, rfl, ho1, hb1⟩
  have HO1 := Lib.hid ho1
  clear ho1
  go_wp2_with (refine wpList_mk _ _ rfl rfl _ _ _ _ u rfl rfl rfl rfl (by omega) ?_)
  intro w2 hmk hg2
  have hb2 : Below w.heap.size w w2 := hb1.grown hg2 hb1.size (fun g hg => by cases hg)
  have hmk2 := hmk.lower hb1.size
  have HR2 := Lib.hid (HR.out.below hb2)
  go_wp2_with (at_builtin; refine wpList_apn _ _ rfl rfl rfl w.heap.size _ u u _ rfl hmk2 A n c bs rfl HR2.out (by omega) hb2.size ?_)
  intro A3 c3 w3 ho3 hg3
  have hb12 : Below w1.heap.size w1 w2 := (Below.refl _ _).grown hg2 (Nat.le_refl _) (fun g hg => by cases hg)
  have hb13 : Below w1.heap.size w1 w3 := hb12.grown hg3 hb12.size (fun g hg => by injection hg with hg; subst hg; exact Nat.le_refl _)
  have hb3 : Below w.heap.size w w3 := kp_call hb1 hb13
  have HO3 := Lib.hid (HO1.out.below hb13 (Nat.le_refl _))
  have P3 := Lib.hid (putint_any A3 (u + n) c3 _ w3 ho3.rb ho3.cap.1 ho3.cap.2 (by omega) (by have := ho3.cap.2; unfold maxLen at this; omega))
  rw [putI_zeros] at P3
  clear hmk hg2 hb2 hmk2 HR2 ho3 hg3 hb12 hb13 HO1 hb1
  go_wp2_with fail
  refine P3.out.mono ?_
  rintro e w4 ⟨A4, n4, c4, rfl, ho4, hb4⟩
  have ho1 := HO3.out.below hb4 (Nat.le_refl _)
  have hl14 : n1 = n4 := by rw [← ho1.len, ← ho4.len]
  subst hl14
  have hl1 := ho1.len
  rw [HP.out] at hl1
  simp only [List.length_cons] at hl1
  have hPl : P'.length ≤ n := by
    have h1 := trimZ_le bs
    have h2 := HR.out.1
    rcases HCase.out with ⟨_, h⟩ | ⟨d, r, h, ⟨_, h'⟩ | ⟨_, h'⟩⟩
    · omega
    · rw [h] at h1; simp at h1; omega
    · rw [h] at h1; simp at h1; omega
  have I4 := Lib.hid (int_any A1 n1 c1 _ w4 ho1.rb ho1.cap.1 ho1.cap.2 (by omega) (by have := ho1.cap.2; unfold maxLen at this; omega))
  have HO1 := Lib.hid ho1
  have HO4 := Lib.hid ho4
  have hb04 := kp_call hb3 hb4
  clear ho1 ho4 hb4 hb3
  go_wp2_with fail
  refine I4.out.mono ?_
  intro e w5 hp
  unfold IntPost at hp
  rw [HI.out] at hp
  obtain ⟨⟨A5, n5, c5, rfl, ho5⟩, hb5⟩ := hp
  have hb05 := kp_call hb04 hb5
  have ho1 := HO1.out.below hb5 (Nat.le_refl _)
  have ho4 := HO4.out.below hb5 (Nat.le_refl _)
  have EQ := Lib.hid (eq_any A1 A4 n1 n1 c1 c4 _ _ w5 ho1.rb ho4.rb)
  have hEE : (putI bs == putI bs) = true := by simp
  rw [hEE] at EQ
  obtain ⟨g1, rfl, hgb, hgl⟩ := ho1.shape (by have := ho1.cap; omega)
  have c0 := ho1.cellAt 0 p0 (by rw [HP.out]; rfl)
  have HO5 := Lib.hid ho5
  have t1 : ((n1 : Int) == 0) = false := by simp; omega
  have t1b : 0 < n1 := by omega
  have t2 : (p0.toNat : Int) < 128 := by omega
  have HL1 := Lib.hid hl1
  have HB5 := Lib.hid hb05
  clear ho1 ho4 hEE hgb hgl ho5 hl1 hp0 hb5 hb04 hb05
  go_wp2_with fail
  refine EQ.out.mono ?_
  rintro e w' ⟨rfl, rfl⟩
  go_wp2
  go_loop [10] (fun i => ∃ j : Nat, j ≤ n ∧ i = .int .i64 j ∧ Hid (trimZ (bs.drop j) = trimZ bs)) (fun i => n - (intOf i).toNat)
  case atStart => exact ⟨0, Nat.zero_le _, rfl, rfl⟩
  case round =>
    obtain ⟨j, hj, rfl, HT⟩ := hrel
    clear c0
    by_cases hlt : j < n
    · obtain ⟨b, off, d, rfl, hb, hd, cd⟩ := (HR.out.below HB5.out).at_ hlt
      by_cases hz : d.toNat = 0
      · have t3 : ((d.toNat : Int) == 0) = true := by simp; omega
        have HN : Hid (trimZ (bs.drop (j + 1)) = trimZ bs) := by
          have := HT.out
          rw [drop_cons1 hd, trimZ_cons, if_pos hz] at this
          exact this
        clear hd hz
        go_wp2
        go_round
        case rel => exact ⟨j + 1, by omega, by go_num, HN⟩
        case measure => simp [intOf]; omega
      · have t3 : ((d.toNat : Int) == 0) = false := by simp; omega
        have HN : Hid (bs.drop j = trimZ bs) := by
          have := HT.out
          rw [drop_cons1 hd, trimZ_self hz] at this
          unfold Hid
          rw [drop_cons1 hd]; exact this
        have HNR := Lib.hid (rb_cut (HR.out.below HB5.out) hnc (show j ≤ n by omega))
        clear hd hz
        rw [if_neg (show ¬ c = j by omega)] at HNR
        have E5 := Lib.hid (fun (k1 k2 : Nat) => eq_any A5 (some ⟨b, off + j, none⟩) n5 (n - j) c5 (c - j) _ _ w5 HO5.out.rb HNR.out)
        have hEE : (trimZ bs == bs.drop j) = true := by rw [HN.out]; simp
        rw [hEE] at E5
        clear hEE
        rcases HCase.out with ⟨hT, hl⟩ | ⟨d1, r1, hT, hl⟩
        · have hn5 := HO5.out.len
          have hn1 := HL1.out
          rw [hT] at hn5
          simp only [List.length_nil] at hn5
          subst hn5
          have t4 : ((n1 : Int) == 1) = true := by simp; omega
          clear hT hl hn1
          go_wp2_with fail
          refine (E5.out 0 0).mono ?_
          rintro e w' ⟨rfl, rfl⟩
          go_wp2_with fail
          refine (W.out _).mono ?_
          rintro e w' ⟨rfl, hb⟩
          go_wp2
          go_ret
          exact ⟨rfl, kp_call HB5.out hb⟩
        · have hn5 := HO5.out.len
          have hn1 := HL1.out
          rw [hT] at hn5
          simp only [List.length_cons] at hn5
          obtain ⟨g5, rfl, _, _⟩ := HO5.out.shape (by have := HO5.out.cap; omega)
          have d0 := HO5.out.cellAt 0 d1 (by rw [hT]; rfl)
          have t6 : ((n5 : Int) == 0) = false := by simp; omega
          have t6b : 0 < n5 := by omega
          have t6c : n5 ≤ 10000 := by rcases hl with ⟨_, hl⟩ | ⟨_, hl⟩ <;> omega
          rcases hl with ⟨h8, hl⟩ | ⟨h8, hl⟩
          · have t4 : ((n1 : Int) == (n5 : Int) + 1) = true := by simp; omega
            have t7 : decide ((128 : Int) ≤ (d1.toNat : Int)) = true := by simp; omega
            clear hT hl hn1 h8 hn5
            go_wp2_with fail
            refine (E5.out 0 0).mono ?_
            rintro e w' ⟨rfl, rfl⟩
            go_wp2_with fail
            refine (W.out _).mono ?_
            rintro e w' ⟨rfl, hb⟩
            go_wp2
            go_ret
            exact ⟨rfl, kp_call HB5.out hb⟩
          · have t4 : ((n1 : Int) == (n5 : Int) + 1) = false := by simp; omega
            have t7 : decide ((128 : Int) ≤ (d1.toNat : Int)) = false := by simp; omega
            clear hT hl hn1 h8 hn5
            go_wp2_with fail
            refine (E5.out 0 0).mono ?_
            rintro e w' ⟨rfl, rfl⟩
            go_wp2_with fail
            refine (W.out _).mono ?_
            rintro e w' ⟨rfl, hb⟩
            go_wp2
            go_ret
            exact ⟨rfl, kp_call HB5.out hb⟩
    · obtain rfl : j = n := by omega
      have HN : Hid (bs.drop j = trimZ bs) := by
        have := HT.out
        rw [List.drop_of_length_le (by rw [HR.out.1]; exact Nat.le_refl _)] at this
        unfold Hid
        rw [List.drop_of_length_le (by rw [HR.out.1]; exact Nat.le_refl _)]
        exact this
      rcases Nat.eq_zero_or_pos j with h0 | h0
      · subst h0
        have HNR := Lib.hid (show RB w5 A 0 (bs.drop 0) from by have := HR.out.below HB5.out; exact this)
        have E5 := Lib.hid (fun (k1 k2 : Nat) => eq_any A5 A n5 0 c5 c _ _ w5 HO5.out.rb HNR.out)
        have hEE : (trimZ bs == bs.drop 0) = true := by rw [HN.out]; simp
        rw [hEE] at E5
        clear hEE
        rcases HCase.out with ⟨hT, hl⟩ | ⟨d1, r1, hT, hl⟩
        · have hn5 := HO5.out.len
          have hn1 := HL1.out
          rw [hT] at hn5
          simp only [List.length_nil] at hn5
          subst hn5
          have t4 : ((n1 : Int) == 1) = true := by simp; omega
          clear hT hl hn1
          go_wp2_with fail
          refine (E5.out 0 0).mono ?_
          rintro e w' ⟨rfl, rfl⟩
          go_wp2_with fail
          refine (W.out _).mono ?_
          rintro e w' ⟨rfl, hb⟩
          go_wp2
          go_ret
          exact ⟨rfl, kp_call HB5.out hb⟩
        · have hn5 := HO5.out.len
          have hn1 := HL1.out
          rw [hT] at hn5
          simp only [List.length_cons] at hn5
          obtain ⟨g5, rfl, _, _⟩ := HO5.out.shape (by have := HO5.out.cap; omega)
          have d0 := HO5.out.cellAt 0 d1 (by rw [hT]; rfl)
          have t6 : ((n5 : Int) == 0) = false := by simp; omega
          have t6b : 0 < n5 := by omega
          have t6c : n5 ≤ 10000 := by rcases hl with ⟨_, hl⟩ | ⟨_, hl⟩ <;> omega
          rcases hl with ⟨h8, hl⟩ | ⟨h8, hl⟩
          · have t4 : ((n1 : Int) == (n5 : Int) + 1) = true := by simp; omega
            have t7 : decide ((128 : Int) ≤ (d1.toNat : Int)) = true := by simp; omega
            clear hT hl hn1 h8 hn5
            go_wp2_with fail
            refine (E5.out 0 0).mono ?_
            rintro e w' ⟨rfl, rfl⟩
            go_wp2_with fail
            refine (W.out _).mono ?_
            rintro e w' ⟨rfl, hb⟩
            go_wp2
            go_ret
            exact ⟨rfl, kp_call HB5.out hb⟩
          · have t4 : ((n1 : Int) == (n5 : Int) + 1) = false := by simp; omega
            have t7 : decide ((128 : Int) ≤ (d1.toNat : Int)) = false := by simp; omega
            clear hT hl hn1 h8 hn5
            go_wp2_with fail
            refine (E5.out 0 0).mono ?_
            rintro e w' ⟨rfl, rfl⟩
            go_wp2_with fail
            refine (W.out _).mono ?_
            rintro e w' ⟨rfl, hb⟩
            go_wp2
            go_ret
            exact ⟨rfl, kp_call HB5.out hb⟩
      · obtain ⟨b, off, d, rfl, hb, hd, cd⟩ := (HR.out.below HB5.out).at_ h0
        clear hd cd hb
        by_cases hcj : c = j
        · subst hcj
          have HNR := Lib.hid (rb_cut (HR.out.below HB5.out) (Nat.le_refl c) (Nat.le_refl c))
          rw [if_pos rfl] at HNR
          have E5 := Lib.hid (fun (k1 k2 : Nat) => eq_any A5 (some ⟨b, off, none⟩) n5 0 c5 0 _ _ w5 HO5.out.rb (by have := HNR.out; rw [Nat.sub_self] at this; exact this))
          have hEE : (trimZ bs == bs.drop c) = true := by rw [HN.out]; simp
          rw [hEE] at E5
          clear hEE
          rcases HCase.out with ⟨hT, hl⟩ | ⟨d1, r1, hT, hl⟩
          · have hn5 := HO5.out.len
            have hn1 := HL1.out
            rw [hT] at hn5
            simp only [List.length_nil] at hn5
            subst hn5
            have t4 : ((n1 : Int) == 1) = true := by simp; omega
            clear hT hl hn1
            go_wp2_with fail
            refine (E5.out 0 0).mono ?_
            rintro e w' ⟨rfl, rfl⟩
            go_wp2_with fail
            refine (W.out _).mono ?_
            rintro e w' ⟨rfl, hb⟩
            go_wp2
            go_ret
            exact ⟨rfl, kp_call HB5.out hb⟩
          · have hn5 := HO5.out.len
            have hn1 := HL1.out
            rw [hT] at hn5
            simp only [List.length_cons] at hn5
            obtain ⟨g5, rfl, _, _⟩ := HO5.out.shape (by have := HO5.out.cap; omega)
            have d0 := HO5.out.cellAt 0 d1 (by rw [hT]; rfl)
            have t6 : ((n5 : Int) == 0) = false := by simp; omega
            have t6b : 0 < n5 := by omega
            have t6c : n5 ≤ 10000 := by rcases hl with ⟨_, hl⟩ | ⟨_, hl⟩ <;> omega
            rcases hl with ⟨h8, hl⟩ | ⟨h8, hl⟩
            · have t4 : ((n1 : Int) == (n5 : Int) + 1) = true := by simp; omega
              have t7 : decide ((128 : Int) ≤ (d1.toNat : Int)) = true := by simp; omega
              clear hT hl hn1 h8 hn5
              go_wp2_with fail
              refine (E5.out 0 0).mono ?_
              rintro e w' ⟨rfl, rfl⟩
              go_wp2_with fail
              refine (W.out _).mono ?_
              rintro e w' ⟨rfl, hb⟩
              go_wp2
              go_ret
              exact ⟨rfl, kp_call HB5.out hb⟩
            · have t4 : ((n1 : Int) == (n5 : Int) + 1) = false := by simp; omega
              have t7 : decide ((128 : Int) ≤ (d1.toNat : Int)) = false := by simp; omega
              clear hT hl hn1 h8 hn5
              go_wp2_with fail
              refine (E5.out 0 0).mono ?_
              rintro e w' ⟨rfl, rfl⟩
              go_wp2_with fail
              refine (W.out _).mono ?_
              rintro e w' ⟨rfl, hb⟩
              go_wp2
              go_ret
              exact ⟨rfl, kp_call HB5.out hb⟩
        · have HNR := Lib.hid (rb_cut (HR.out.below HB5.out) hnc (Nat.le_refl j))
          rw [if_neg hcj] at HNR
          have hcj2 : j < c := by omega
          have E5 := Lib.hid (fun (k1 k2 : Nat) => eq_any A5 (some ⟨b, off + j, none⟩) n5 0 c5 (c - j) _ _ w5 HO5.out.rb (by have := HNR.out; rw [Nat.sub_self] at this; exact this))
          have hEE : (trimZ bs == bs.drop j) = true := by rw [HN.out]; simp
          rw [hEE] at E5
          clear hEE
          rcases HCase.out with ⟨hT, hl⟩ | ⟨d1, r1, hT, hl⟩
          · have hn5 := HO5.out.len
            have hn1 := HL1.out
            rw [hT] at hn5
            simp only [List.length_nil] at hn5
            subst hn5
            have t4 : ((n1 : Int) == 1) = true := by simp; omega
            clear hT hl hn1
            go_wp2_with fail
            refine (E5.out 0 0).mono ?_
            rintro e w' ⟨rfl, rfl⟩
            go_wp2_with fail
            refine (W.out _).mono ?_
            rintro e w' ⟨rfl, hb⟩
            go_wp2
            go_ret
            exact ⟨rfl, kp_call HB5.out hb⟩
          · have hn5 := HO5.out.len
            have hn1 := HL1.out
            rw [hT] at hn5
            simp only [List.length_cons] at hn5
            obtain ⟨g5, rfl, _, _⟩ := HO5.out.shape (by have := HO5.out.cap; omega)
            have d0 := HO5.out.cellAt 0 d1 (by rw [hT]; rfl)
            have t6 : ((n5 : Int) == 0) = false := by simp; omega
            have t6b : 0 < n5 := by omega
            have t6c : n5 ≤ 10000 := by rcases hl with ⟨_, hl⟩ | ⟨_, hl⟩ <;> omega
            rcases hl with ⟨h8, hl⟩ | ⟨h8, hl⟩
            · have t4 : ((n1 : Int) == (n5 : Int) + 1) = true := by simp; omega
              have t7 : decide ((128 : Int) ≤ (d1.toNat : Int)) = true := by simp; omega
              clear hT hl hn1 h8 hn5
              go_wp2_with fail
              refine (E5.out 0 0).mono ?_
              rintro e w' ⟨rfl, rfl⟩
              go_wp2_with fail
              refine (W.out _).mono ?_
              rintro e w' ⟨rfl, hb⟩
              go_wp2
              go_ret
              exact ⟨rfl, kp_call HB5.out hb⟩
            · have t4 : ((n1 : Int) == (n5 : Int) + 1) = false := by simp; omega
              have t7 : decide ((128 : Int) ≤ (d1.toNat : Int)) = false := by simp; omega
              clear hT hl hn1 h8 hn5
              go_wp2_with fail
              refine (E5.out 0 0).mono ?_
              rintro e w' ⟨rfl, rfl⟩
              go_wp2_with fail
              refine (W.out _).mono ?_
              rintro e w' ⟨rfl, hb⟩
              go_wp2
              go_ret
              exact ⟨rfl, kp_call HB5.out hb⟩
theorem plain_row (A : Option Addr) (n c : Nat) (bs : List UInt8) (u : Int) (w : World) (h : IsBs w A n c bs) (wf : (Lit.int .u8 u).wf = true) :
    Calls Try.prog 16 #[.slice A n c, .int .u8 u] w fun e w' => e = .returned (.bool true) ∧ Below w.heap.size w w' := by
  by_cases hb : 8192 < n
  · exact plain_big A n c u w hb
  have wf := bounds_u8 wf
  obtain ⟨k, hk⟩ : ∃ k : Nat, u = (k : Int) := ⟨u.toNat, by omega⟩
  subst hk
  exact plain_go A n c k bs w h.rb h.le h.max (by omega) (by omega)
end Go.Proofs.Ytlkiobngafjeiaa
