/-
  der: the statement on lengths.
-/
import Derived.Test.YtlkiobngafjeiaaDrWk
namespace Go.Proofs.Ytlkiobngafjeiaa
open Go.RowKit Go
set_option linter.unusedVariables false
set_option maxRecDepth 100000
theorem lenB_1 {n : Nat} (h1 : 1 ≤ n) (h2 : n < 256) : (lenB n).length = 1 := by
  rw [lenB_pos (by omega), show n / 256 = 0 by omega, lenB_zero]; rfl
theorem lenB_2 {n : Nat} (h1 : 256 ≤ n) (h2 : n < 65536) : (lenB n).length = 2 := by
  rw [lenB_pos (by omega), List.length_append, lenB_1 (by omega) (by omega)]; rfl
theorem lenB_3 {n : Nat} (h1 : 65536 ≤ n) (h2 : n < 16777216) : (lenB n).length = 3 := by
  rw [lenB_pos (by omega), List.length_append, lenB_2 (by omega) (by omega)]; rfl
theorem wr_len (tag : UInt8) (b : List UInt8) : (wrQ tag b).length = if b.length < 128 then b.length + 2 else b.length + (lenB b.length).length + 2 := by
  unfold wrQ
  split
  · simp
  · simp; omega
/-- What Parse tells of what was written. -/
theorem parse_wr (tag : UInt8) (ht : tag.toNat % 32 ≠ 31) (b more : List UInt8) (hb : b.length ≤ 1000000) (A : Option Addr) (n c : Nat) (w : World) (hR : RB w A n (wrQ tag b ++ more)) (hnc : n ≤ c) (hn : n ≤ 1000000000) (hc : c ≤ 9223372036854775807) :
    Calls Try.prog 24 #[.slice A n c] w fun e w' => (∃ A1 n1 c1 A2 n2 c2 A3 n3 c3, e = .returned (.tuple #[.agg #[.int .u8 (tag.toNat : Int), .slice A1 n1 c1, .slice A2 n2 c2], .slice A3 n3 c3, .int .i64 0]) ∧
        OwnB w' w.heap.size A1 n1 c1 b ∧ OwnB w' w.heap.size A2 n2 c2 (wrQ tag b) ∧ OwnB w' w.heap.size A3 n3 c3 more) ∧ Below w.heap.size w w' := by
  refine (parse_any A n c _ w hR hnc hn hc).mono fun e w' hp => ?_
  unfold ParsePost at hp
  rw [split_wr tag b more ht (by omega)] at hp
  obtain ⟨⟨A1, n1, c1, A2, n2, c2, A3, n3, c3, rfl, o1, o2, o3, _⟩, hbl⟩ := hp
  have h0 : (wrQ tag b ++ more).getD 0 0 = tag := by unfold wrQ; split <;> rfl
  rw [h0]
  have e1 : (wrQ tag b ++ more).take (wrQ tag b).length = wrQ tag b := by simp
  have e2 : (wrQ tag b ++ more).drop (wrQ tag b).length = more := by simp
  have e3 : (wrQ tag b).drop ((wrQ tag b).length - b.length) = b := by
    have : ∃ p, wrQ tag b = p ++ b := by unfold wrQ; split; exact ⟨[tag, _], rfl⟩; exact ⟨tag :: UInt8.ofNat (128 + (lenB b.length).length) :: lenB b.length, by simp⟩
    obtain ⟨p, hp⟩ := this
    rw [hp]; simp
  rw [e1] at o1 o2
  rw [e2] at o3
  rw [e3] at o1
  exact ⟨⟨A1, n1, c1, A2, n2, c2, A3, n3, c3, rfl, o1, o2, o3⟩, hbl⟩
theorem lengths_2 (n : Nat) (w : World) (h1 : 0 ≤ n) (h2 : n ≤ 127) :
    Calls Try.prog 13 #[.int .i64 (n : Int)] w fun e w' => e = .returned (.bool true) ∧ Below w.heap.size w w' := by
  have hl : (wrQ 4 (List.replicate n 0)).length = 2 + n := by
    rw [wr_len, List.length_replicate, if_pos (by omega)]
    omega
  have HL := Lib.hid hl
  have q0 : decide ((131072 : Int) < (n : Int)) = false := by simp; omega
  have q1 : decide ((128 : Int) ≤ (n : Int)) = false := by simp; omega
  have q2 : decide ((256 : Int) ≤ (n : Int)) = false := by simp; omega
  have q3 : decide ((65536 : Int) ≤ (n : Int)) = false := by simp; omega
  have q9 : decide ((n : Int) < 0) = false := by simp
  clear hl
  go_enter Try.func13, Try.ntmps13
  go_wp2_with (refine wpList_mk _ _ rfl rfl _ _ _ _ n rfl rfl rfl rfl (by omega) ?_)
  intro w1 hmk hg1
  have hb1 : Below w.heap.size w w1 := (Below.refl _ _).grown hg1 (Nat.le_refl _) (by intro g hg; cases hg)
  have W1 := Lib.hid (write_any 4 (some ⟨w.heap.size, 0, none⟩) n n (List.replicate n 0) w1 hmk.rb (by omega))
  clear hmk hg1
  go_wp2_with fail
  refine W1.out.mono ?_
  rintro e w2 ⟨A2, n2, c2, rfl, ho2, hb2⟩
  obtain rfl : n2 = 2 + n := by rw [← ho2.len]; exact HL.out
  have hcap := ho2.cap
  unfold maxLen at hcap
  have P := Lib.hid (parse_wr 4 (by decide) (List.replicate n 0) [] (by simp; omega) A2 (2 + n) c2 w2 (by rw [List.append_nil]; exact ho2.rb) hcap.1 (by omega) (by omega))
  have hbw2 := kp_call hb1 hb2
  clear ho2 hcap hb1 hb2
  go_wp2_with fail
  refine P.out.mono ?_
  rintro e w3 ⟨⟨A4, n4, c4, A5, n5, c5, A6, n6, c6, rfl, o4, o5, o6⟩, hb3⟩
  obtain rfl : n4 = n := by rw [← o4.len]; simp
  obtain rfl : n6 = 0 := by rw [← o6.len]; rfl
  have hbw3 := kp_call hbw2 hb3
  have WK := Lib.hid (fun W => works_any W)
  clear hbw2 hb3 o4 o5 o6
  go_wp2_with fail
  refine (WK.out _).mono ?_
  rintro e w4 ⟨rfl, hb4⟩
  go_wp2
  go_ret
  exact ⟨rfl, kp_call (kp_alloc hbw3 _) hb4⟩
theorem lengths_3 (n : Nat) (w : World) (h1 : 128 ≤ n) (h2 : n ≤ 255) :
    Calls Try.prog 13 #[.int .i64 (n : Int)] w fun e w' => e = .returned (.bool true) ∧ Below w.heap.size w w' := by
  have hl : (wrQ 4 (List.replicate n 0)).length = 3 + n := by
    rw [wr_len, List.length_replicate, if_neg (by omega), lenB_1 (by omega) (by omega)]
    omega
  have HL := Lib.hid hl
  have q0 : decide ((131072 : Int) < (n : Int)) = false := by simp; omega
  have q1 : decide ((128 : Int) ≤ (n : Int)) = true := by simp; omega
  have q2 : decide ((256 : Int) ≤ (n : Int)) = false := by simp; omega
  have q3 : decide ((65536 : Int) ≤ (n : Int)) = false := by simp; omega
  have q9 : decide ((n : Int) < 0) = false := by simp
  clear hl
  go_enter Try.func13, Try.ntmps13
  go_wp2_with (refine wpList_mk _ _ rfl rfl _ _ _ _ n rfl rfl rfl rfl (by omega) ?_)
  intro w1 hmk hg1
  have hb1 : Below w.heap.size w w1 := (Below.refl _ _).grown hg1 (Nat.le_refl _) (by intro g hg; cases hg)
  have W1 := Lib.hid (write_any 4 (some ⟨w.heap.size, 0, none⟩) n n (List.replicate n 0) w1 hmk.rb (by omega))
  clear hmk hg1
  go_wp2_with fail
  refine W1.out.mono ?_
  rintro e w2 ⟨A2, n2, c2, rfl, ho2, hb2⟩
  obtain rfl : n2 = 3 + n := by rw [← ho2.len]; exact HL.out
  have hcap := ho2.cap
  unfold maxLen at hcap
  have P := Lib.hid (parse_wr 4 (by decide) (List.replicate n 0) [] (by simp; omega) A2 (3 + n) c2 w2 (by rw [List.append_nil]; exact ho2.rb) hcap.1 (by omega) (by omega))
  have hbw2 := kp_call hb1 hb2
  clear ho2 hcap hb1 hb2
  go_wp2_with fail
  refine P.out.mono ?_
  rintro e w3 ⟨⟨A4, n4, c4, A5, n5, c5, A6, n6, c6, rfl, o4, o5, o6⟩, hb3⟩
  obtain rfl : n4 = n := by rw [← o4.len]; simp
  obtain rfl : n6 = 0 := by rw [← o6.len]; rfl
  have hbw3 := kp_call hbw2 hb3
  have WK := Lib.hid (fun W => works_any W)
  clear hbw2 hb3 o4 o5 o6
  go_wp2_with fail
  refine (WK.out _).mono ?_
  rintro e w4 ⟨rfl, hb4⟩
  go_wp2
  go_ret
  exact ⟨rfl, kp_call (kp_alloc hbw3 _) hb4⟩
theorem lengths_4 (n : Nat) (w : World) (h1 : 256 ≤ n) (h2 : n ≤ 65535) :
    Calls Try.prog 13 #[.int .i64 (n : Int)] w fun e w' => e = .returned (.bool true) ∧ Below w.heap.size w w' := by
  have hl : (wrQ 4 (List.replicate n 0)).length = 4 + n := by
    rw [wr_len, List.length_replicate, if_neg (by omega), lenB_2 (by omega) (by omega)]
    omega
  have HL := Lib.hid hl
  have q0 : decide ((131072 : Int) < (n : Int)) = false := by simp; omega
  have q1 : decide ((128 : Int) ≤ (n : Int)) = true := by simp; omega
  have q2 : decide ((256 : Int) ≤ (n : Int)) = true := by simp; omega
  have q3 : decide ((65536 : Int) ≤ (n : Int)) = false := by simp; omega
  have q9 : decide ((n : Int) < 0) = false := by simp
  clear hl
  go_enter Try.func13, Try.ntmps13
  go_wp2_with (refine wpList_mk _ _ rfl rfl _ _ _ _ n rfl rfl rfl rfl (by omega) ?_)
  intro w1 hmk hg1
  have hb1 : Below w.heap.size w w1 := (Below.refl _ _).grown hg1 (Nat.le_refl _) (by intro g hg; cases hg)
  have W1 := Lib.hid (write_any 4 (some ⟨w.heap.size, 0, none⟩) n n (List.replicate n 0) w1 hmk.rb (by omega))
  clear hmk hg1
  go_wp2_with fail
  refine W1.out.mono ?_
  rintro e w2 ⟨A2, n2, c2, rfl, ho2, hb2⟩
  obtain rfl : n2 = 4 + n := by rw [← ho2.len]; exact HL.out
  have hcap := ho2.cap
  unfold maxLen at hcap
  have P := Lib.hid (parse_wr 4 (by decide) (List.replicate n 0) [] (by simp; omega) A2 (4 + n) c2 w2 (by rw [List.append_nil]; exact ho2.rb) hcap.1 (by omega) (by omega))
  have hbw2 := kp_call hb1 hb2
  clear ho2 hcap hb1 hb2
  go_wp2_with fail
  refine P.out.mono ?_
  rintro e w3 ⟨⟨A4, n4, c4, A5, n5, c5, A6, n6, c6, rfl, o4, o5, o6⟩, hb3⟩
  obtain rfl : n4 = n := by rw [← o4.len]; simp
  obtain rfl : n6 = 0 := by rw [← o6.len]; rfl
  have hbw3 := kp_call hbw2 hb3
  have WK := Lib.hid (fun W => works_any W)
  clear hbw2 hb3 o4 o5 o6
  go_wp2_with fail
  refine (WK.out _).mono ?_
  rintro e w4 ⟨rfl, hb4⟩
  go_wp2
  go_ret
  exact ⟨rfl, kp_call (kp_alloc hbw3 _) hb4⟩
theorem lengths_5 (n : Nat) (w : World) (h1 : 65536 ≤ n) (h2 : n ≤ 131072) :
    Calls Try.prog 13 #[.int .i64 (n : Int)] w fun e w' => e = .returned (.bool true) ∧ Below w.heap.size w w' := by
  have hl : (wrQ 4 (List.replicate n 0)).length = 5 + n := by
    rw [wr_len, List.length_replicate, if_neg (by omega), lenB_3 (by omega) (by omega)]
    omega
  have HL := Lib.hid hl
  have q0 : decide ((131072 : Int) < (n : Int)) = false := by simp; omega
  have q1 : decide ((128 : Int) ≤ (n : Int)) = true := by simp; omega
  have q2 : decide ((256 : Int) ≤ (n : Int)) = true := by simp; omega
  have q3 : decide ((65536 : Int) ≤ (n : Int)) = true := by simp; omega
  have q9 : decide ((n : Int) < 0) = false := by simp
  clear hl
  go_enter Try.func13, Try.ntmps13
  go_wp2_with (refine wpList_mk _ _ rfl rfl _ _ _ _ n rfl rfl rfl rfl (by omega) ?_)
  intro w1 hmk hg1
  have hb1 : Below w.heap.size w w1 := (Below.refl _ _).grown hg1 (Nat.le_refl _) (by intro g hg; cases hg)
  have W1 := Lib.hid (write_any 4 (some ⟨w.heap.size, 0, none⟩) n n (List.replicate n 0) w1 hmk.rb (by omega))
  clear hmk hg1
  go_wp2_with fail
  refine W1.out.mono ?_
  rintro e w2 ⟨A2, n2, c2, rfl, ho2, hb2⟩
  obtain rfl : n2 = 5 + n := by rw [← ho2.len]; exact HL.out
  have hcap := ho2.cap
  unfold maxLen at hcap
  have P := Lib.hid (parse_wr 4 (by decide) (List.replicate n 0) [] (by simp; omega) A2 (5 + n) c2 w2 (by rw [List.append_nil]; exact ho2.rb) hcap.1 (by omega) (by omega))
  have hbw2 := kp_call hb1 hb2
  clear ho2 hcap hb1 hb2
  go_wp2_with fail
  refine P.out.mono ?_
  rintro e w3 ⟨⟨A4, n4, c4, A5, n5, c5, A6, n6, c6, rfl, o4, o5, o6⟩, hb3⟩
  obtain rfl : n4 = n := by rw [← o4.len]; simp
  obtain rfl : n6 = 0 := by rw [← o6.len]; rfl
  have hbw3 := kp_call hbw2 hb3
  have WK := Lib.hid (fun W => works_any W)
  clear hbw2 hb3 o4 o5 o6
  go_wp2_with fail
  refine (WK.out _).mono ?_
  rintro e w4 ⟨rfl, hb4⟩
  go_wp2
  go_ret
  exact ⟨rfl, kp_call (kp_alloc hbw3 _) hb4⟩
theorem lengths_row (a : Int) (w : World) (hw : (Lit.int .i64 a).wf = true) :
    Calls Try.prog 13 #[.int .i64 a] w fun e w' => e = .returned (.bool true) ∧ Below w.heap.size w w' := by
  have hb := bounds_i64 hw
  have W := Lib.hid (works_any w)
  by_cases h0 : a < 0
  · clear hb hw
    go_enter Try.func13, Try.ntmps13
    go_wp2_with fail
    refine W.out.mono ?_
    rintro e w' ⟨rfl, hb⟩
    go_wp2
    go_ret
    exact ⟨rfl, hb⟩
  by_cases h1 : 131072 < a
  · clear hb hw
    go_enter Try.func13, Try.ntmps13
    go_wp2_with fail
    refine W.out.mono ?_
    rintro e w' ⟨rfl, hb⟩
    go_wp2
    go_ret
    exact ⟨rfl, hb⟩
  obtain ⟨n, rfl⟩ := Int.eq_ofNat_of_zero_le (show 0 ≤ a by omega)
  by_cases c1 : n < 128
  · exact lengths_2 n w (by omega) (by omega)
  by_cases c2 : n < 256
  · exact lengths_3 n w (by omega) (by omega)
  by_cases c3 : n < 65536
  · exact lengths_4 n w (by omega) (by omega)
  · exact lengths_5 n w (by omega) (by omega)
end Go.Proofs.Ytlkiobngafjeiaa
