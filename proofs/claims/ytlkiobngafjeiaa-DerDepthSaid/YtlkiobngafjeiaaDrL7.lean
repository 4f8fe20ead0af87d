/-
  der: the statement on elements in one another.
-/
import Derived.Test.YtlkiobngafjeiaaDrWk
import Derived.Test.YtlkiobngafjeiaaDrA
import Derived.Test.YtlkiobngafjeiaaDrL1
namespace Go.Proofs.Ytlkiobngafjeiaa
open Go.RowKit Go
set_option linter.unusedVariables false
set_option linter.unusedSimpArgs false
set_option maxRecDepth 100000
def nestT (set : Bool) (i : Nat) : UInt8 := if set = true ∧ i % 2 = 0 then 163 else 48
def nestQ (set : Bool) (base : List UInt8) : Nat → List UInt8
  | 0 => base
  | i + 1 => wrQ (nestT set i) (nestQ set base i)
theorem nestT_two (set : Bool) (i : Nat) : nestT set i = 163 ∨ nestT set i = 48 := by unfold nestT; split <;> simp
theorem nestT_tag (set : Bool) (i : Nat) : (nestT set i).toNat % 32 ≠ 31 ∧ (nestT set i).toNat / 32 % 2 ≠ 0 := by
  rcases nestT_two set i with h | h <;> rw [h] <;> decide
theorem nest_len (set : Bool) (base : List UInt8) (hb : base.length ≤ 4) : ∀ i, i ≤ 1000 → (nestQ set base i).length ≤ 4 + 4 * i
  | 0, _ => by simpa [nestQ] using hb
  | i + 1, h => by
    have ih := nest_len set base hb i (by omega)
    simp only [nestQ]
    rw [wr_len]
    split
    · omega
    · by_cases h2 : (nestQ set base i).length < 256
      · rw [lenB_1 (by omega) (by omega)]; omega
      · rw [lenB_2 (by omega) (by omega)]; omega
theorem nest_all (set : Bool) (base : List UInt8) (hb : base.length ≤ 4) (i : Nat) (h : i ≤ 1000) : allQ (nestQ set base (i + 1)) = some [(nestQ set base (i + 1), nestQ set base i)] := by
  have := allQ_wr (nestT set i) (nestT_tag set i).1 (nestQ set base i) [] (by have := nest_len set base hb i h; omega)
  rw [List.append_nil, allQ_nil] at this
  exact this
theorem wr_ne (t : UInt8) (b : List UInt8) : wrQ t b ≠ [] := by unfold wrQ; split <;> simp
theorem nest_not (set : Bool) (base : List UInt8) (i : Nat) (hne : nestQ set base i ≠ []) : ¬ (nth (nestQ set base (i + 1)) 0 / 32 % 2 = 0 ∨ nestQ set base i = []) := by
  rintro (h | h)
  · simp only [nestQ, nth_wr] at h
    exact (nestT_tag set i).2 h
  · exact hne h
theorem nest_chk0 (set : Bool) : ∀ (k i : Nat), i ≤ 1000 → chk k (nestQ set [] (i + 1)) (nestQ set [] i) = if i ≤ k then 0 else 10
  | k, 0, _ => by rw [if_pos (Nat.zero_le _)]; exact chk_leaf k (.inr rfl)
  | 0, i + 1, h => by rw [if_neg (by omega)]; exact chk_bottom (nest_not set [] (i + 1) (wr_ne _ _))
  | k + 1, i + 1, h => by
    rw [chk_some (nest_not set [] (i + 1) (wr_ne _ _)) (nest_all set [] (by simp) i (by omega))]
    simp only [List.map_cons, List.map_nil, firstN]
    rw [nest_chk0 set k i (by omega)]
    by_cases h2 : i ≤ k
    · rw [if_pos h2, if_pos (show i + 1 ≤ k + 1 by omega)]; rfl
    · rw [if_neg h2, if_neg (show ¬ (i + 1 ≤ k + 1) by omega)]; rfl
theorem nest_chk1 (set : Bool) : ∀ (k i : Nat), i ≤ 1000 → chk k (nestQ set (wrQ 4 [48, 9]) (i + 1)) (nestQ set (wrQ 4 [48, 9]) i) = if i + 1 ≤ k then 0 else 10
  | 0, 0, h => by rw [if_neg (by omega)]; exact chk_bottom (nest_not set _ 0 (wr_ne _ _))
  | 0, i + 1, h => by rw [if_neg (by omega)]; exact chk_bottom (nest_not set _ (i + 1) (wr_ne _ _))
  | k + 1, 0, h => by
    have ha := allQ_wr 4 (by decide) [48, 9] [] (by simp)
    rw [List.append_nil, allQ_nil] at ha
    rw [chk_some (k := k) (nest_not set (wrQ 4 [48, 9]) 0 (wr_ne 4 [48, 9])) (show allQ (nestQ set (wrQ 4 [48, 9]) 0) = _ from ha), if_pos (show 0 + 1 ≤ k + 1 by omega)]
    simp only [List.map_cons, List.map_nil, firstN]
    rw [chk_leaf k (.inl (by rw [nth_wr]; decide))]
    rfl
  | k + 1, i + 1, h => by
    rw [chk_some (nest_not set _ (i + 1) (wr_ne _ _)) (nest_all set _ (by decide) i (by omega))]
    simp only [List.map_cons, List.map_nil, firstN]
    rw [nest_chk1 set k i (by omega)]
    by_cases h2 : i + 1 ≤ k
    · rw [if_pos h2, if_pos (show i + 1 + 1 ≤ k + 1 by omega)]; rfl
    · rw [if_neg h2, if_neg (show ¬ (i + 1 + 1 ≤ k + 1) by omega)]; rfl
def nestB (inner : Bool) : List UInt8 := if inner then wrQ 4 [48, 9] else []
theorem nest_says (set inner : Bool) (deep : Nat) (h : deep ≤ 1000) : checkQ (nestQ set (nestB inner) deep) = if deep + (if inner then 1 else 0) = 0 then 9 else if deep + (if inner then 1 else 0) ≤ 16 then 0 else 10 := by
  cases deep with
  | zero =>
    cases inner with
    | false =>
      show checkQ [] = 9
      unfold checkQ; rw [allQ_nil]
    | true =>
      show checkQ (wrQ 4 [48, 9]) = 0
      rw [check_wr 4 (by decide) [48, 9] (by simp)]
      exact chk_leaf 15 (.inl (by rw [nth_wr]; decide))
  | succ i =>
    have hl : (nestB inner).length ≤ 4 := by cases inner <;> decide
    have e := check_wr (nestT set i) (nestT_tag set i).1 (nestQ set (nestB inner) i) (by have := nest_len set _ hl i (by omega); omega)
    simp only [nestQ] at e ⊢
    rw [e]
    rw [if_neg (by omega)]
    cases inner with
    | false =>
      rw [show wrQ (nestT set i) (nestQ set (nestB false) i) = nestQ set [] (i + 1) from rfl, show nestB false = [] from rfl, nest_chk0 set 15 i (by omega)]
      simp only [Bool.false_eq_true, if_false, Nat.add_zero]
      by_cases h2 : i ≤ 15
      · rw [if_pos h2, if_pos (by omega)]
      · rw [if_neg h2, if_neg (by omega)]
    | true =>
      rw [show wrQ (nestT set i) (nestQ set (nestB true) i) = nestQ set (wrQ 4 [48, 9]) (i + 1) from rfl, show nestB true = wrQ 4 [48, 9] from rfl, nest_chk1 set 15 i (by omega)]
      simp only [if_true]
      by_cases h2 : i + 1 ≤ 15
      · rw [if_pos h2, if_pos (by omega)]
      · rw [if_neg h2, if_neg (by omega)]
theorem depth_out (a : Int) (set inner : Bool) (w : World) (h : a < 0 ∨ 40 < a) :
    Calls Try.prog 10 #[.int .i64 a, .bool set, .bool inner] w fun e w' => e = .returned (.bool true) ∧ Below w.heap.size w w' := by
  have W := Lib.hid (works_any w)
  by_cases h0 : a < 0
  · have t0 : decide (a < 0) = true := by simpa using h0
    clear h h0
    go_enter Try.func10, Try.ntmps10
    go_wp2_with fail
    refine W.out.mono ?_
    rintro e w' ⟨rfl, hb⟩
    go_wp2
    go_ret
    exact ⟨rfl, hb⟩
  · have t0 : decide (a < 0) = false := by simpa using h0
    have t1 : decide (40 < a) = true := by simp; omega
    clear h h0
    go_enter Try.func10, Try.ntmps10
    go_wp2_with fail
    refine W.out.mono ?_
    rintro e w' ⟨rfl, hb⟩
    go_wp2
    go_ret
    exact ⟨rfl, hb⟩
set_option maxHeartbeats 1000000 in
theorem depth_from (deep : Nat) (hd : deep ≤ 40) (set inner : Bool) (w : World) :
    Calls Try.prog 10 #[.int .i64 (deep : Int), .bool set, .bool inner] w fun e w' => e = .returned (.bool true) ∧ Below w.heap.size w w' := by
  have W := Lib.hid (fun W => works_any W)
  have HS := Lib.hid (nest_says set inner deep (by omega))
  have HLn := Lib.hid (fun i (hi : i ≤ 40) => nest_len set (nestB inner) (by cases inner <;> decide) i (by omega))
  have t0 : decide ((deep : Int) < 0) = false := by simp
  have t1 : decide ((40 : Int) < (deep : Int)) = false := by simp; omega
  have W0 : Hid (Calls Try.prog 37 #[.int .u8 4, .slice (some ⟨w.heap.size, 0, none⟩) 2 2] (w.alloc (.cells #[.int .u8 48, .int .u8 9] 5)) (Fresh (w.alloc (.cells #[.int .u8 48, .int .u8 9] 5)) (wrQ 4 [48, 9]))) :=
    write_any 4 _ 2 2 [48, 9] _ (own_lit w [48, 9] 2 _ rfl rfl (by omega)).rb (by omega)
  cases inner with
  | true =>
    go_enter Try.func10, Try.ntmps10
    go_wp2_with fail
    refine W0.out.mono ?_
    rintro e w1 ⟨A1, n1, c1, rfl, ho1, hb1⟩
    have ho1 := ho1.lower (base' := w.heap.size) (by simp)
    have hb1 := kp_call (kp_alloc (Below.refl w.heap.size w) _) hb1
    go_wp2
    go_loopw [7, 9] (fun v i wl => ∃ (j : Nat) (A2 : Option Addr) (n2 c2 : Nat), j ≤ deep ∧ v = .slice A2 n2 c2 ∧ i = .int .i64 (j : Int) ∧ OwnB wl w.heap.size A2 n2 c2 (nestQ set (nestB true) j) ∧ Below w.heap.size w wl) (fun _ i _ => deep - (intOf i).toNat)
    case atStart => exact ⟨0, _, _, _, Nat.zero_le _, rfl, rfl, ho1, hb1⟩
    case round =>
      obtain ⟨j, A2, n2, c2, hj, rfl, rfl, ho2, hb2⟩ := hrel
      have hl2 := ho2.len
      have hLn := HLn.out j (by omega)
      by_cases hlt : j < deep
      · have WA := Lib.hid (write_any (nestT set j) A2 n2 c2 _ wr ho2.rb (by omega))
        have hm : (j : Int) % 2 = ((j % 2 : Nat) : Int) := by omega
        have HB2 := Lib.hid hb2
        have hsz := hb2.size
        have HW := Lib.hid (show wrQ (nestT set j) (nestQ set (nestB true) j) = nestQ set (nestB true) (j + 1) from rfl)
        clear hb2 ho2 hLn
        cases set with
        | false =>
          have ht : nestT false j = 48 := by unfold nestT; simp
          rw [ht] at WA HW
          go_wp2_with fail
          refine WA.out.mono ?_
          rintro e w3 ⟨A3, n3, c3, rfl, ho3, hb3⟩
          rw [HW.out] at ho3
          have ho3 := ho3.lower (base' := w.heap.size) hsz
          have hb3 := kp_call HB2.out hb3
          go_wp2
          go_roundw
          case rel => exact ⟨j + 1, A3, n3, c3, by omega, rfl, by go_num, ho3, hb3⟩
          case measure => simp [intOf]; omega
        | true =>
          rcases Nat.mod_two_eq_zero_or_one j with h2 | h2
          · have ht : nestT true j = 163 := by unfold nestT; simp [h2]
            have hz : ((j : Int) % 2 == 0) = true := by simp; omega
            rw [ht] at WA HW
            clear hm
            go_wp2_with fail
            refine WA.out.mono ?_
            rintro e w3 ⟨A3, n3, c3, rfl, ho3, hb3⟩
            rw [HW.out] at ho3
            have ho3 := ho3.lower (base' := w.heap.size) hsz
            have hb3 := kp_call HB2.out hb3
            go_wp2
            go_roundw
            case rel => exact ⟨j + 1, A3, n3, c3, by omega, rfl, by go_num, ho3, hb3⟩
            case measure => simp [intOf]; omega
          · have ht : nestT true j = 48 := by unfold nestT; simp [h2]
            have hz : ((j : Int) % 2 == 0) = false := by simp; omega
            rw [ht] at WA HW
            clear hm
            go_wp2_with fail
            refine WA.out.mono ?_
            rintro e w3 ⟨A3, n3, c3, rfl, ho3, hb3⟩
            rw [HW.out] at ho3
            have ho3 := ho3.lower (base' := w.heap.size) hsz
            have hb3 := kp_call HB2.out hb3
            go_wp2
            go_roundw
            case rel => exact ⟨j + 1, A3, n3, c3, by omega, rfl, by go_num, ho3, hb3⟩
            case measure => simp [intOf]; omega
      · obtain rfl : j = deep := by omega
        have CK := Lib.hid (Check_any A2 n2 c2 _ wr ho2.rb ho2.cap.1 (by omega) (by have := ho2.cap.2; unfold maxLen at this; omega))
        rw [HS.out] at CK
        have HB2 := Lib.hid hb2
        simp only [Bool.false_eq_true, if_true, if_false, Nat.add_zero] at CK
        clear hb2 ho2 hl2 hLn
        by_cases hz : (j + 1) = 0
        · have t3 : (((j : Int) + 1 : Int) == 0) = true := by simp; omega
          rw [if_pos hz] at CK
          go_wp2_with fail
          refine CK.out.mono ?_
          rintro e w3 ⟨rfl, hb3⟩
          go_wp2_with fail
          refine (W.out _).mono ?_
          rintro e w' ⟨rfl, hb⟩
          go_wp2
          go_ret
          exact ⟨rfl, kp_call (kp_call HB2.out hb3) hb⟩
        · have t3 : (((j : Int) + 1 : Int) == 0) = false := by simp; omega
          rw [if_neg hz] at CK
          by_cases h16 : (j + 1) ≤ 16
          · have t4 : decide (((j : Int) + 1 : Int) ≤ 16) = true := by simp; omega
            rw [if_pos h16] at CK
            go_wp2_with fail
            refine CK.out.mono ?_
            rintro e w3 ⟨rfl, hb3⟩
            go_wp2_with fail
            refine (W.out _).mono ?_
            rintro e w' ⟨rfl, hb⟩
            go_wp2
            go_ret
            exact ⟨rfl, kp_call (kp_call HB2.out hb3) hb⟩
          · have t4 : decide (((j : Int) + 1 : Int) ≤ 16) = false := by simp; omega
            rw [if_neg h16] at CK
            go_wp2_with fail
            refine CK.out.mono ?_
            rintro e w3 ⟨rfl, hb3⟩
            go_wp2_with fail
            refine (W.out _).mono ?_
            rintro e w' ⟨rfl, hb⟩
            go_wp2
            go_ret
            exact ⟨rfl, kp_call (kp_call HB2.out hb3) hb⟩
  | false =>
    go_enter Try.func10, Try.ntmps10
    go_wp2
    go_loopw [7, 9] (fun v i wl => ∃ (j : Nat) (A2 : Option Addr) (n2 c2 : Nat), j ≤ deep ∧ v = .slice A2 n2 c2 ∧ i = .int .i64 (j : Int) ∧ OwnB wl w.heap.size A2 n2 c2 (nestQ set (nestB false) j) ∧ Below w.heap.size w wl) (fun _ i _ => deep - (intOf i).toNat)
    case atStart => exact ⟨0, _, _, _, Nat.zero_le _, rfl, rfl, OwnB.nil _ _, Below.refl _ _⟩
    case round =>
      obtain ⟨j, A2, n2, c2, hj, rfl, rfl, ho2, hb2⟩ := hrel
      have hl2 := ho2.len
      have hLn := HLn.out j (by omega)
      by_cases hlt : j < deep
      · have WA := Lib.hid (write_any (nestT set j) A2 n2 c2 _ wr ho2.rb (by omega))
        have hm : (j : Int) % 2 = ((j % 2 : Nat) : Int) := by omega
        have HB2 := Lib.hid hb2
        have hsz := hb2.size
        have HW := Lib.hid (show wrQ (nestT set j) (nestQ set (nestB false) j) = nestQ set (nestB false) (j + 1) from rfl)
        clear hb2 ho2 hLn
        cases set with
        | false =>
          have ht : nestT false j = 48 := by unfold nestT; simp
          rw [ht] at WA HW
          go_wp2_with fail
          refine WA.out.mono ?_
          rintro e w3 ⟨A3, n3, c3, rfl, ho3, hb3⟩
          rw [HW.out] at ho3
          have ho3 := ho3.lower (base' := w.heap.size) hsz
          have hb3 := kp_call HB2.out hb3
          go_wp2
          go_roundw
          case rel => exact ⟨j + 1, A3, n3, c3, by omega, rfl, by go_num, ho3, hb3⟩
          case measure => simp [intOf]; omega
        | true =>
          rcases Nat.mod_two_eq_zero_or_one j with h2 | h2
          · have ht : nestT true j = 163 := by unfold nestT; simp [h2]
            have hz : ((j : Int) % 2 == 0) = true := by simp; omega
            rw [ht] at WA HW
            clear hm
            go_wp2_with fail
            refine WA.out.mono ?_
            rintro e w3 ⟨A3, n3, c3, rfl, ho3, hb3⟩
            rw [HW.out] at ho3
            have ho3 := ho3.lower (base' := w.heap.size) hsz
            have hb3 := kp_call HB2.out hb3
            go_wp2
            go_roundw
            case rel => exact ⟨j + 1, A3, n3, c3, by omega, rfl, by go_num, ho3, hb3⟩
            case measure => simp [intOf]; omega
          · have ht : nestT true j = 48 := by unfold nestT; simp [h2]
            have hz : ((j : Int) % 2 == 0) = false := by simp; omega
            rw [ht] at WA HW
            clear hm
            go_wp2_with fail
            refine WA.out.mono ?_
            rintro e w3 ⟨A3, n3, c3, rfl, ho3, hb3⟩
            rw [HW.out] at ho3
            have ho3 := ho3.lower (base' := w.heap.size) hsz
            have hb3 := kp_call HB2.out hb3
            go_wp2
            go_roundw
            case rel => exact ⟨j + 1, A3, n3, c3, by omega, rfl, by go_num, ho3, hb3⟩
            case measure => simp [intOf]; omega
      · obtain rfl : j = deep := by omega
        have CK := Lib.hid (Check_any A2 n2 c2 _ wr ho2.rb ho2.cap.1 (by omega) (by have := ho2.cap.2; unfold maxLen at this; omega))
        rw [HS.out] at CK
        have HB2 := Lib.hid hb2
        simp only [Bool.false_eq_true, if_true, if_false, Nat.add_zero] at CK
        clear hb2 ho2 hl2 hLn
        by_cases hz : j = 0
        · have t3 : (((j : Int) : Int) == 0) = true := by simp; omega
          rw [if_pos hz] at CK
          go_wp2_with fail
          refine CK.out.mono ?_
          rintro e w3 ⟨rfl, hb3⟩
          go_wp2_with fail
          refine (W.out _).mono ?_
          rintro e w' ⟨rfl, hb⟩
          go_wp2
          go_ret
          exact ⟨rfl, kp_call (kp_call HB2.out hb3) hb⟩
        · have t3 : (((j : Int) : Int) == 0) = false := by simp; omega
          rw [if_neg hz] at CK
          by_cases h16 : j ≤ 16
          · have t4 : decide (((j : Int) : Int) ≤ 16) = true := by simp; omega
            rw [if_pos h16] at CK
            go_wp2_with fail
            refine CK.out.mono ?_
            rintro e w3 ⟨rfl, hb3⟩
            go_wp2_with fail
            refine (W.out _).mono ?_
            rintro e w' ⟨rfl, hb⟩
            go_wp2
            go_ret
            exact ⟨rfl, kp_call (kp_call HB2.out hb3) hb⟩
          · have t4 : decide (((j : Int) : Int) ≤ 16) = false := by simp; omega
            rw [if_neg h16] at CK
            go_wp2_with fail
            refine CK.out.mono ?_
            rintro e w3 ⟨rfl, hb3⟩
            go_wp2_with fail
            refine (W.out _).mono ?_
            rintro e w' ⟨rfl, hb⟩
            go_wp2
            go_ret
            exact ⟨rfl, kp_call (kp_call HB2.out hb3) hb⟩
theorem depth_row (a : Int) (set inner : Bool) (w : World) (wf : (Lit.int .i64 a).wf = true) :
    Calls Try.prog 10 #[.int .i64 a, .bool set, .bool inner] w fun e w' => e = .returned (.bool true) ∧ Below w.heap.size w w' := by
  by_cases h : a < 0 ∨ 40 < a
  · exact depth_out a set inner w h
  · obtain ⟨k, hk⟩ : ∃ k : Nat, a = (k : Int) := ⟨a.toNat, by omega⟩
    subst hk
    exact depth_from k (by omega) set inner w
end Go.Proofs.Ytlkiobngafjeiaa
