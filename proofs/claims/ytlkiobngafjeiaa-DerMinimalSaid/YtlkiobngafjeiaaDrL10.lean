/-
  der: the statement on lengths in too many bytes.
-/
import Derived.Test.YtlkiobngafjeiaaDrWk
import Derived.Test.YtlkiobngafjeiaaAppZ
namespace Go.Proofs.Ytlkiobngafjeiaa
open Go.RowKit Go
set_option linter.unusedVariables false
set_option linter.unusedSimpArgs false
set_option maxRecDepth 100000
/-! ### append(b, make([]byte, k)...), k nought too -/
theorem run_appz0 (w : World) (base : Nat) (A0 : Option Addr) (n0 c0 : Nat) (bs : List UInt8) (hown : OwnB w base A0 n0 c0 bs) :
    (Builtin.append_ #[22, 3] 22 #[.slice A0 n0 c0, .int .i64 0]).run Try.prog w = .ok (.slice A0 n0 c0) w := by
  obtain ⟨i, hi, hz0, hz1, hz2⟩ := info_parts u8_info
  have hle := hown.cap.1
  have hw : IntKind.i64.wrap 0 = 0 := by decide
  cases A0 <;> simp [Builtin.append_, run_underlying Try.underlying22, run_underlying Try.underlying3, sizeOf, typeInfo, zeroValue, hi, hz0, hz1, asInt, asIntOf, hw, hle, storeCells]
section
variable {w : World} {ops : Array Oper} {rest : List Oper} {o : Oper} {a : Act} {Q : Exit → Act → World → Prop}
theorem wpList_appzz (s x : Operand) (ho : o.op = .call { callee := .builtin .append, args := #[s, x], argTypes := #[22, 3] }) (hgd : o.guard = none) (hty : o.type = 22)
    (base : Nat) (A0 : Option Addr) (n0 c0 : Nat) (bs : List UInt8) (hs : a.eval s = .slice A0 n0 c0) (hown : OwnB w base A0 n0 c0 bs) (k : Nat) (hx : a.eval x = .int .i64 (k : Int)) (hlim : n0 + k ≤ 140737488355328) (hbase : base ≤ w.heap.size)
    (h : ∀ A' c' w', OwnB w' base A' (n0 + k) c' (bs ++ List.replicate k 0) → w.grownBy w' (blk A0) → wpList Try.prog ops Q rest (a.put o.dst (.slice A' (n0 + k) c')) w') : wpList Try.prog ops Q (o :: rest) a w := by
  rcases Nat.eq_zero_or_pos k with h0 | h0
  · subst h0
    have hr := run_appz0 w base A0 n0 c0 bs hown
    have h' := h A0 c0 w (by simpa using hown) ⟨rfl, rfl, rfl, Nat.le_refl _, fun j _ _ => rfl⟩
    refine wpList_plain hgd fun K hK => ?_
    unfold Oper.wp execOp
    have hx0 : a.eval x = .int .i64 0 := hx
    simp only [ho, resolve, invoke, builtin, Sem.run_bind, Sem.run_pure, Result.andThen_ok, List.map_toArray, List.map_cons, List.map_nil, hs, hx0, hty, hr]
    exact hK _ _ h'
  · exact wpList_appz s x ho hgd hty base A0 n0 c0 bs hs hown k hx h0 hlim hbase h
end
/-! ### The bytes that the statement makes -/
def digT (n i : Nat) : UInt8 := if i < 4 then UInt8.ofNat (n / 256 ^ i % 256) else 0
def digs (n : Nat) : Nat → List UInt8
  | 0 => []
  | k + 1 => digT n k :: digs n k
theorem digs_len (n : Nat) : ∀ k, (digs n k).length = k
  | 0 => rfl
  | k + 1 => by simp [digs, digs_len n k]
def minQ (t : UInt8) (n k : Nat) : List UInt8 := t :: UInt8.ofNat (128 + k) :: (digs n k ++ List.replicate n 0)
theorem min_len (t : UInt8) (n k : Nat) : (minQ t n k).length = 2 + k + n := by simp [minQ, digs_len]; omega
def needT (n : Nat) : Nat := if n < 128 then 0 else if n < 256 then 1 else 2
theorem min_split (t : UInt8) (ht : t.toNat % 32 ≠ 31) (n k : Nat) (hn : n ≤ 300) (hk : k ≤ 10) :
    splitQ (minQ t n k) = if k ≠ needT n ∨ needT n = 0 then none else some (2 + k, 2 + k + n) := by
  have n0 : nth (minQ t n k) 0 = t.toNat := rfl
  have n1 : nth (minQ t n k) 1 = 128 + k := by
    show (UInt8.ofNat (128 + k)).toNat = _
    rw [UInt8.toNat_ofNat']; omega
  have hl := min_len t n k
  have hv : needT n = 0 ∨ needT n = 1 ∨ needT n = 2 := by
    unfold needT
    split
    · exact .inl rfl
    · split
      · exact .inr (.inl rfl)
      · exact .inr (.inr rfl)
  unfold splitQ
  rw [if_neg (by rw [n0, hl]; omega), n1, if_neg (by omega)]
  by_cases hk4 : k = 0 ∨ 4 < k
  · rw [if_pos (by omega), if_pos (by omega)]
  obtain ⟨j, rfl⟩ : ∃ j, k = j + 1 := ⟨k - 1, by omega⟩
  have n2 : nth (minQ t n (j + 1)) 2 = n / 256 ^ j % 256 := by
    show (digT n j).toNat = _
    unfold digT
    rw [if_pos (by omega), UInt8.toNat_ofNat']
    omega
  have e1 : ((minQ t n (j + 1)).drop 2).take (128 + (j + 1) - 128) = digs n (j + 1) := by
    show ((digs n (j + 1) ++ List.replicate n 0)).take _ = _
    rw [show 128 + (j + 1) - 128 = (digs n (j + 1)).length by rw [digs_len]; omega, List.take_left']
    rfl
  rw [n2, e1, hl]
  have hj : j = 0 ∨ j = 1 ∨ j = 2 ∨ j = 3 := by omega
  rcases hj with rfl | rfl | rfl | rfl
  · have hb : beN (digs n (0 + 1)) = n % 256 := by
      simp [digs, digT, beN]
    rw [hb]
    simp only [Nat.pow_zero, Nat.div_one]
    unfold needT
    by_cases q1 : n < 128
    · rw [if_pos q1, if_pos (show 0 + 1 ≠ 0 ∨ 0 = 0 by omega)]
      by_cases q2 : n % 256 = 0
      · rw [if_pos (by omega)]
      · rw [if_neg (by omega), if_pos (by omega)]
    · rw [if_neg q1]
      by_cases q2 : n < 256
      · rw [if_pos q2, if_neg (by omega), if_neg (by omega), if_neg (show ¬ (0 + 1 ≠ 1 ∨ 1 = 0) by omega)]
        congr 2
        omega
      · rw [if_neg q2, if_pos (show 0 + 1 ≠ 2 ∨ 2 = 0 by omega)]
        by_cases q3 : n % 256 = 0
        · rw [if_pos (by omega)]
        · rw [if_neg (by omega), if_pos (by omega)]
  · have hb : beN (digs n (1 + 1)) = n := by
      simp [digs, digT, beN]; omega
    rw [hb]
    unfold needT
    by_cases q1 : n < 128
    · rw [if_pos q1, if_pos (show 1 + 1 ≠ 0 ∨ 0 = 0 by omega), if_pos (by omega)]
    · rw [if_neg q1]
      by_cases q2 : n < 256
      · rw [if_pos q2, if_pos (by omega), if_pos (show 1 + 1 ≠ 1 ∨ 1 = 0 by omega)]
      · rw [if_neg q2, if_neg (by omega), if_neg (by omega), if_neg (show ¬ (1 + 1 ≠ 2 ∨ 2 = 0) by omega)]
  · rw [if_pos (by omega), if_pos (by omega)]
  · rw [if_pos (by omega), if_pos (by omega)]
theorem min_out0 (t : UInt8) (n k : Int) (w : World) (h0 : t.toNat % 32 = 31) :
    Calls Try.prog 14 #[.int .u8 (t.toNat : Int), .int .i64 n, .int .i64 k] w fun e w' => e = .returned (.bool true) ∧ Below w.heap.size w w' := by
  have W := Lib.hid (fun W => works_any W)
  have q0 : ((t.toNat : Int) % 32 == 31) = true := by simp; omega
  clear h0
  go_enter Try.func14, Try.ntmps14
  go_wp2_with fail
  refine (W.out _).mono ?_
  rintro e w' ⟨rfl, hb⟩
  go_wp2
  go_ret
  exact ⟨rfl, hb⟩
theorem min_out1 (t : UInt8) (n k : Int) (w : World) (h0 : t.toNat % 32 ≠ 31) (h1 : n < 0) :
    Calls Try.prog 14 #[.int .u8 (t.toNat : Int), .int .i64 n, .int .i64 k] w fun e w' => e = .returned (.bool true) ∧ Below w.heap.size w w' := by
  have W := Lib.hid (fun W => works_any W)
  have q0 : ((t.toNat : Int) % 32 == 31) = false := by simp; omega
  have q1 : (decide (n < 0)) = true := by simp; omega
  clear h0 h1
  go_enter Try.func14, Try.ntmps14
  go_wp2_with fail
  refine (W.out _).mono ?_
  rintro e w' ⟨rfl, hb⟩
  go_wp2
  go_ret
  exact ⟨rfl, hb⟩
theorem min_out2 (t : UInt8) (n k : Int) (w : World) (h0 : t.toNat % 32 ≠ 31) (h1 : ¬ n < 0) (h2 : 300 < n) :
    Calls Try.prog 14 #[.int .u8 (t.toNat : Int), .int .i64 n, .int .i64 k] w fun e w' => e = .returned (.bool true) ∧ Below w.heap.size w w' := by
  have W := Lib.hid (fun W => works_any W)
  have q0 : ((t.toNat : Int) % 32 == 31) = false := by simp; omega
  have q1 : (decide (n < 0)) = false := by simp; omega
  have q2 : (decide (300 < n)) = true := by simp; omega
  clear h0 h1 h2
  go_enter Try.func14, Try.ntmps14
  go_wp2_with fail
  refine (W.out _).mono ?_
  rintro e w' ⟨rfl, hb⟩
  go_wp2
  go_ret
  exact ⟨rfl, hb⟩
theorem min_out3 (t : UInt8) (n k : Int) (w : World) (h0 : t.toNat % 32 ≠ 31) (h1 : ¬ n < 0) (h2 : ¬ 300 < n) (h3 : k < 0) :
    Calls Try.prog 14 #[.int .u8 (t.toNat : Int), .int .i64 n, .int .i64 k] w fun e w' => e = .returned (.bool true) ∧ Below w.heap.size w w' := by
  have W := Lib.hid (fun W => works_any W)
  have q0 : ((t.toNat : Int) % 32 == 31) = false := by simp; omega
  have q1 : (decide (n < 0)) = false := by simp; omega
  have q2 : (decide (300 < n)) = false := by simp; omega
  have q3 : (decide (k < 0)) = true := by simp; omega
  clear h0 h1 h2 h3
  go_enter Try.func14, Try.ntmps14
  go_wp2_with fail
  refine (W.out _).mono ?_
  rintro e w' ⟨rfl, hb⟩
  go_wp2
  go_ret
  exact ⟨rfl, hb⟩
theorem min_out4 (t : UInt8) (n k : Int) (w : World) (h0 : t.toNat % 32 ≠ 31) (h1 : ¬ n < 0) (h2 : ¬ 300 < n) (h3 : ¬ k < 0) (h4 : 10 < k) :
    Calls Try.prog 14 #[.int .u8 (t.toNat : Int), .int .i64 n, .int .i64 k] w fun e w' => e = .returned (.bool true) ∧ Below w.heap.size w w' := by
  have W := Lib.hid (fun W => works_any W)
  have q0 : ((t.toNat : Int) % 32 == 31) = false := by simp; omega
  have q1 : (decide (n < 0)) = false := by simp; omega
  have q2 : (decide (300 < n)) = false := by simp; omega
  have q3 : (decide (k < 0)) = false := by simp; omega
  have q4 : (decide (10 < k)) = true := by simp; omega
  clear h0 h1 h2 h3 h4
  go_enter Try.func14, Try.ntmps14
  go_wp2_with fail
  refine (W.out _).mono ?_
  rintro e w' ⟨rfl, hb⟩
  go_wp2
  go_ret
  exact ⟨rfl, hb⟩
set_option maxHeartbeats 1000000 in
theorem min_go (t : UInt8) (n k : Nat) (w : World) (ht : t.toNat % 32 ≠ 31) (hn : n ≤ 300) (hk : k ≤ 10) :
    Calls Try.prog 14 #[.int .u8 (t.toNat : Int), .int .i64 (n : Int), .int .i64 (k : Int)] w fun e w' => e = .returned (.bool true) ∧ Below w.heap.size w w' := by
  have W := Lib.hid (fun W => works_any W)
  have HS := Lib.hid (min_split t ht n k hn hk)
  have q0 : ((t.toNat : Int) % 32 == 31) = false := by simp; omega
  have q1 : decide ((n : Int) < 0) = false := by simp
  have q2 : decide ((300 : Int) < (n : Int)) = false := by simp; omega
  have q3 : decide ((k : Int) < 0) = false := by simp
  have q4 : decide ((10 : Int) < (k : Int)) = false := by simp; omega
  obtain ⟨q, hq⟩ : ∃ q : UInt8, UInt8.ofNat (128 + k) = q := ⟨_, rfl⟩
  have hq2 : (128 : Int) + (k : Int) = (q.toNat : Int) := by rw [← hq, UInt8.toNat_ofNat']; omega
  have m0 : IntKind.u8.wrap (k : Int) = (k : Int) := by rw [IntKind.wrap_u8]; omega
  have m1 : IntKind.u8.wrap (128 + (k : Int)) = (q.toNat : Int) := by rw [IntKind.wrap_u8]; omega
  have m2 : IntKind.i64.wrap ((k : Int) - 1) = (k : Int) - 1 := by rw [IntKind.wrap_i64]; omega
  go_enter Try.func14, Try.ntmps14
  go_wp2
  clear m1 hq2 m0 m2
  have HQ : Hid ((#[Value.int .u8 (t.toNat : Int), Value.int .u8 (q.toNat : Int)] : Array Value).toList = [t, q].map bv) := rfl
  go_loopw [7, 8] (fun v i wl => ∃ (j n2 : Nat) (A2 : Option Addr) (c2 : Nat) (P : List UInt8), Hid (n2 + j = 2 + k) ∧ v = .slice A2 n2 c2 ∧ i = .int .i64 ((j : Int) - 1) ∧ OwnB wl w.heap.size A2 n2 c2 (t :: q :: P) ∧ Below w.heap.size w wl ∧ Hid (P ++ digs n j = digs n k)) (fun _ i _ => (intOf i + 1).toNat)
  case atStart => exact ⟨k, 2, _, 2, [], rfl, rfl, rfl, own_lit w [t, q] 2 _ rfl rfl (by omega), kp_alloc (Below.refl _ _) _, rfl⟩
  case round =>
    obtain ⟨j, n2, A2, c2, P, HJ, rfl, rfl, ho, hb, HP⟩ := hrel
    by_cases hj0 : j = 0
    · subst hj0
      have hPk : t :: q :: (P ++ List.replicate n 0) = minQ t n k := by
        have h1 := HP.out
        simp only [digs, List.append_nil] at h1
        unfold minQ
        rw [hq, h1]
      have HPk := Lib.hid hPk
      have hn2 : n2 ≤ 20 := by have := HJ.out; omega
      have hsz := hb.size
      clear HP hPk hq
      go_wp2_with (at_builtin; refine wpList_appzz _ _ rfl rfl rfl w.heap.size A2 n2 c2 _ rfl ho n rfl (by omega) hsz ?_)
      intro A3 c3 w3 ho3 hg3
      have hb3 : Below w.heap.size w w3 := hb.grown hg3 hsz (fun g hg => (ho.blk_lt hg).1)
      by_cases z1 : n < 128
      · have s1 : decide ((128 : Int) ≤ (n : Int)) = false := by simp; omega
        have s2 : decide ((256 : Int) ≤ (n : Int)) = false := by simp; omega
        have HSn : splitQ (minQ t n k) = none := by rw [HS.out]; unfold needT; rw [if_pos z1, if_pos (Or.inr rfl)]
        by_cases hk0 : k = 0
        · subst hk0
          have P5 := Lib.hid ((parse_any A3 (n2 + n) c3 _ w3 ho3.rb ho3.cap.1 (by omega) (by have := ho3.cap.2; unfold maxLen at this; omega)).mono (R' := fun e w' => e = .returned (.tuple #[elZ, .slice none 0 0, .int .i64 9]) ∧ Below w3.heap.size w3 w') (fun e w' hp => by unfold ParsePost at hp; rw [HPk.out, HSn] at hp; exact hp))
          unfold elZ at P5
          clear ho3 HSn hg3
          go_wp2_with fail
          refine P5.out.mono ?_
          rintro e w4 ⟨rfl, hb4⟩
          go_wp2_with fail
          refine (W.out _).mono ?_
          rintro e w' ⟨rfl, hb⟩
          go_wp2
          go_ret
          exact ⟨rfl, kp_call (kp_alloc (kp_call hb3 hb4) _) hb⟩
        · have r1 : ((k : Int) == 0) = false := by simp; omega
          have r2 : ((k : Int) != 0) = true := by simp; omega
          have P5 := Lib.hid ((parse_any A3 (n2 + n) c3 _ w3 ho3.rb ho3.cap.1 (by omega) (by have := ho3.cap.2; unfold maxLen at this; omega)).mono (R' := fun e w' => e = .returned (.tuple #[elZ, .slice none 0 0, .int .i64 9]) ∧ Below w3.heap.size w3 w') (fun e w' hp => by unfold ParsePost at hp; rw [HPk.out, HSn] at hp; exact hp))
          unfold elZ at P5
          clear ho3 HSn hg3
          go_wp2_with fail
          refine P5.out.mono ?_
          rintro e w4 ⟨rfl, hb4⟩
          go_wp2_with fail
          refine (W.out _).mono ?_
          rintro e w' ⟨rfl, hb⟩
          go_wp2
          go_ret
          exact ⟨rfl, kp_call (kp_alloc (kp_call hb3 hb4) _) hb⟩
      by_cases z2 : n < 256
      · have s1 : decide ((128 : Int) ≤ (n : Int)) = true := by simp; omega
        have s2 : decide ((256 : Int) ≤ (n : Int)) = false := by simp; omega
        by_cases hk0 : k = 1
        · subst hk0
          have HSn : splitQ (minQ t n 1) = some (2 + 1, 2 + 1 + n) := by rw [HS.out]; unfold needT; rw [if_neg (show ¬ n < 128 by omega), if_pos (show n < 256 by omega), if_neg (by omega)]
          have P5 := Lib.hid ((parse_any A3 (n2 + n) c3 _ w3 ho3.rb ho3.cap.1 (by omega) (by have := ho3.cap.2; unfold maxLen at this; omega)).mono (R' := fun e w' => (∃ A1 c1 A2 n2 c2 A3 n3 c3 z, e = .returned (.tuple #[.agg #[.int .u8 z, .slice A1 n c1, .slice A2 n2 c2], .slice A3 n3 c3, .int .i64 0])) ∧ Below w3.heap.size w3 w') (fun e w' hp => by
            unfold ParsePost at hp; rw [HPk.out, HSn] at hp
            obtain ⟨⟨A1, n1, c1, A2, n2, c2, A3, n3, c3, rfl, o1, _⟩, hb⟩ := hp
            have hl := o1.len
            rw [List.length_drop, List.length_take, min_len] at hl
            obtain rfl : n1 = n := by omega
            exact ⟨⟨A1, c1, A2, n2, c2, A3, n3, c3, _, rfl⟩, hb⟩))
          clear ho3 HSn hg3
          go_wp2_with fail
          refine P5.out.mono ?_
          rintro e w4 ⟨⟨A5, c5, A6, n6, c6, A7, n7, c7, z, rfl⟩, hb4⟩
          go_wp2_with fail
          refine (W.out _).mono ?_
          rintro e w' ⟨rfl, hb⟩
          go_wp2
          go_ret
          exact ⟨rfl, kp_call (kp_alloc (kp_call hb3 hb4) _) hb⟩
        · have r2 : ((k : Int) != 1) = true := by simp; omega
          have HSn : splitQ (minQ t n k) = none := by rw [HS.out]; unfold needT; rw [if_neg (show ¬ n < 128 by omega), if_pos (show n < 256 by omega), if_pos (by omega)]
          have P5 := Lib.hid ((parse_any A3 (n2 + n) c3 _ w3 ho3.rb ho3.cap.1 (by omega) (by have := ho3.cap.2; unfold maxLen at this; omega)).mono (R' := fun e w' => e = .returned (.tuple #[elZ, .slice none 0 0, .int .i64 9]) ∧ Below w3.heap.size w3 w') (fun e w' hp => by unfold ParsePost at hp; rw [HPk.out, HSn] at hp; exact hp))
          unfold elZ at P5
          clear ho3 HSn hg3
          go_wp2_with fail
          refine P5.out.mono ?_
          rintro e w4 ⟨rfl, hb4⟩
          go_wp2_with fail
          refine (W.out _).mono ?_
          rintro e w' ⟨rfl, hb⟩
          go_wp2
          go_ret
          exact ⟨rfl, kp_call (kp_alloc (kp_call hb3 hb4) _) hb⟩
      have s1 : decide ((128 : Int) ≤ (n : Int)) = true := by simp; omega
      have s2 : decide ((256 : Int) ≤ (n : Int)) = true := by simp; omega
      by_cases hk0 : k = 2
      · subst hk0
        have HSn : splitQ (minQ t n 2) = some (2 + 2, 2 + 2 + n) := by rw [HS.out]; unfold needT; rw [if_neg (show ¬ n < 128 by omega), if_neg (show ¬ n < 256 by omega), if_neg (by omega)]
        have P5 := Lib.hid ((parse_any A3 (n2 + n) c3 _ w3 ho3.rb ho3.cap.1 (by omega) (by have := ho3.cap.2; unfold maxLen at this; omega)).mono (R' := fun e w' => (∃ A1 c1 A2 n2 c2 A3 n3 c3 z, e = .returned (.tuple #[.agg #[.int .u8 z, .slice A1 n c1, .slice A2 n2 c2], .slice A3 n3 c3, .int .i64 0])) ∧ Below w3.heap.size w3 w') (fun e w' hp => by
          unfold ParsePost at hp; rw [HPk.out, HSn] at hp
          obtain ⟨⟨A1, n1, c1, A2, n2, c2, A3, n3, c3, rfl, o1, _⟩, hb⟩ := hp
          have hl := o1.len
          rw [List.length_drop, List.length_take, min_len] at hl
          obtain rfl : n1 = n := by omega
          exact ⟨⟨A1, c1, A2, n2, c2, A3, n3, c3, _, rfl⟩, hb⟩))
        clear ho3 HSn hg3
        go_wp2_with fail
        refine P5.out.mono ?_
        rintro e w4 ⟨⟨A5, c5, A6, n6, c6, A7, n7, c7, z, rfl⟩, hb4⟩
        go_wp2_with fail
        refine (W.out _).mono ?_
        rintro e w' ⟨rfl, hb⟩
        go_wp2
        go_ret
        exact ⟨rfl, kp_call (kp_alloc (kp_call hb3 hb4) _) hb⟩
      · have r2 : ((k : Int) != 2) = true := by simp; omega
        have HSn : splitQ (minQ t n k) = none := by rw [HS.out]; unfold needT; rw [if_neg (show ¬ n < 128 by omega), if_neg (show ¬ n < 256 by omega), if_pos (by omega)]
        have P5 := Lib.hid ((parse_any A3 (n2 + n) c3 _ w3 ho3.rb ho3.cap.1 (by omega) (by have := ho3.cap.2; unfold maxLen at this; omega)).mono (R' := fun e w' => e = .returned (.tuple #[elZ, .slice none 0 0, .int .i64 9]) ∧ Below w3.heap.size w3 w') (fun e w' hp => by unfold ParsePost at hp; rw [HPk.out, HSn] at hp; exact hp))
        unfold elZ at P5
        clear ho3 HSn hg3
        go_wp2_with fail
        refine P5.out.mono ?_
        rintro e w4 ⟨rfl, hb4⟩
        go_wp2_with fail
        refine (W.out _).mono ?_
        rintro e w' ⟨rfl, hb⟩
        go_wp2
        go_ret
        exact ⟨rfl, kp_call (kp_alloc (kp_call hb3 hb4) _) hb⟩
    · obtain ⟨i, rfl⟩ : ∃ i, j = i + 1 := ⟨j - 1, by omega⟩
      have hc : i = 0 ∨ i = 1 ∨ i = 2 ∨ i = 3 ∨ 4 ≤ i := by omega
      have HD : Hid (P ++ (digT n i :: digs n i) = digs n k) := HP
      obtain ⟨y, hy⟩ : ∃ y, digT n i = y := ⟨_, rfl⟩
      have hn2 : n2 ≤ 20 := by have := HJ.out; omega
      have hsz := hb.size
      rw [hy] at HD
      clear HP hj0
      rcases hc with rfl | rfl | rfl | rfl | hc
      · have hyv : (n : Int) % 256 = (y.toNat : Int) := by
          rw [← hy]; unfold digT; rw [if_pos (by omega), UInt8.toNat_ofNat']; omega
        clear hy
        go_wp2_with (at_builtin; refine wpList_apn _ _ rfl rfl rfl w.heap.size A2 n2 c2 _ rfl (ho.alloc _) (some ⟨wr.heap.size, 0, none⟩) 1 1 [y] rfl (own_lit wr [y] 1 _ rfl rfl (by omega)).rb (by omega) (by simp; omega) ?_)
        intro A3 c3 w3 ho3 hg3
        have hb3 : Below w.heap.size w w3 := (hb.alloc hsz _).grown hg3 (by simp; omega) (fun g hg => (ho.blk_lt hg).1)
        go_wp2
        go_roundw
        case rel => exact ⟨0, n2 + 1, A3, c3, P ++ [y], by unfold Hid; have := HJ.out; omega, rfl, by go_num, ho3, hb3, by unfold Hid; rw [List.append_assoc]; exact HD.out⟩
        case measure => simp [intOf]
      · have hyv : (n : Int) / 256 = (y.toNat : Int) := by
          rw [← hy]; unfold digT; rw [if_pos (by omega), UInt8.toNat_ofNat']; omega
        clear hy
        go_wp2_with (at_builtin; refine wpList_apn _ _ rfl rfl rfl w.heap.size A2 n2 c2 _ rfl (ho.alloc _) (some ⟨wr.heap.size, 0, none⟩) 1 1 [y] rfl (own_lit wr [y] 1 _ rfl rfl (by omega)).rb (by omega) (by simp; omega) ?_)
        intro A3 c3 w3 ho3 hg3
        have hb3 : Below w.heap.size w w3 := (hb.alloc hsz _).grown hg3 (by simp; omega) (fun g hg => (ho.blk_lt hg).1)
        go_wp2
        go_roundw
        case rel => exact ⟨1, n2 + 1, A3, c3, P ++ [y], by unfold Hid; have := HJ.out; omega, rfl, by go_num, ho3, hb3, by unfold Hid; rw [List.append_assoc]; exact HD.out⟩
        case measure => simp [intOf]
      · have hyv : (n : Int) / 65536 = (y.toNat : Int) := by
          rw [← hy]; unfold digT; rw [if_pos (by omega), UInt8.toNat_ofNat']; omega
        clear hy
        go_wp2_with (at_builtin; refine wpList_apn _ _ rfl rfl rfl w.heap.size A2 n2 c2 _ rfl (ho.alloc _) (some ⟨wr.heap.size, 0, none⟩) 1 1 [y] rfl (own_lit wr [y] 1 _ rfl rfl (by omega)).rb (by omega) (by simp; omega) ?_)
        intro A3 c3 w3 ho3 hg3
        have hb3 : Below w.heap.size w w3 := (hb.alloc hsz _).grown hg3 (by simp; omega) (fun g hg => (ho.blk_lt hg).1)
        go_wp2
        go_roundw
        case rel => exact ⟨2, n2 + 1, A3, c3, P ++ [y], by unfold Hid; have := HJ.out; omega, rfl, by go_num, ho3, hb3, by unfold Hid; rw [List.append_assoc]; exact HD.out⟩
        case measure => simp [intOf]
      · have hyv : (n : Int) / 16777216 = (y.toNat : Int) := by
          rw [← hy]; unfold digT; rw [if_pos (by omega), UInt8.toNat_ofNat']; omega
        clear hy
        go_wp2_with (at_builtin; refine wpList_apn _ _ rfl rfl rfl w.heap.size A2 n2 c2 _ rfl (ho.alloc _) (some ⟨wr.heap.size, 0, none⟩) 1 1 [y] rfl (own_lit wr [y] 1 _ rfl rfl (by omega)).rb (by omega) (by simp; omega) ?_)
        intro A3 c3 w3 ho3 hg3
        have hb3 : Below w.heap.size w w3 := (hb.alloc hsz _).grown hg3 (by simp; omega) (fun g hg => (ho.blk_lt hg).1)
        go_wp2
        go_roundw
        case rel => exact ⟨3, n2 + 1, A3, c3, P ++ [y], by unfold Hid; have := HJ.out; omega, rfl, by go_num, ho3, hb3, by unfold Hid; rw [List.append_assoc]; exact HD.out⟩
        case measure => simp [intOf]
      · have hyv : y = 0 := by
          rw [← hy]; unfold digT; rw [if_neg (by omega)]
        subst hyv
        have hi4 : decide ((i : Int) < 4) = false := by simp; omega
        have hi12 : i ≤ 12 := by have := HJ.out; omega
        clear hy
        go_wp2_with (at_builtin; refine wpList_apn _ _ rfl rfl rfl w.heap.size A2 n2 c2 _ rfl (ho.alloc _) (some ⟨wr.heap.size, 0, none⟩) 1 1 [(0 : UInt8)] rfl (own_lit wr [(0 : UInt8)] 1 _ rfl rfl (by omega)).rb (by omega) (by simp; omega) ?_)
        intro A3 c3 w3 ho3 hg3
        have hb3 : Below w.heap.size w w3 := (hb.alloc hsz _).grown hg3 (by simp; omega) (fun g hg => (ho.blk_lt hg).1)
        go_wp2
        go_roundw
        case rel => exact ⟨i, n2 + 1, A3, c3, P ++ [0], by unfold Hid; have := HJ.out; omega, rfl, by go_num, ho3, hb3, by unfold Hid; rw [List.append_assoc]; exact HD.out⟩
        case measure => simp [intOf]
theorem minimal_row (a n k : Int) (w : World) (h0 : (Lit.int .u8 a).wf = true) (h1 : (Lit.int .i64 n).wf = true) (h2 : (Lit.int .i64 k).wf = true) :
    Calls Try.prog 14 #[.int .u8 a, .int .i64 n, .int .i64 k] w fun e w' => e = .returned (.bool true) ∧ Below w.heap.size w w' := by
  have b0 := bounds_u8 h0
  have e0 : a = ((UInt8.ofNat a.toNat).toNat : Int) := by rw [UInt8.toNat_ofNat']; omega
  rw [e0]
  generalize UInt8.ofNat a.toNat = t
  by_cases q0 : t.toNat % 32 = 31
  · exact min_out0 t n k w q0
  by_cases q1 : n < 0
  · exact min_out1 t n k w q0 q1
  by_cases q2 : 300 < n
  · exact min_out2 t n k w q0 q1 q2
  by_cases q3 : k < 0
  · exact min_out3 t n k w q0 q1 q2 q3
  by_cases q4 : 10 < k
  · exact min_out4 t n k w q0 q1 q2 q3 q4
  obtain ⟨n', rfl⟩ := Int.eq_ofNat_of_zero_le (show 0 ≤ n by omega)
  obtain ⟨k', rfl⟩ := Int.eq_ofNat_of_zero_le (show 0 ≤ k by omega)
  exact min_go t n' k' w q0 (by omega) (by omega)
end Go.Proofs.Ytlkiobngafjeiaa
