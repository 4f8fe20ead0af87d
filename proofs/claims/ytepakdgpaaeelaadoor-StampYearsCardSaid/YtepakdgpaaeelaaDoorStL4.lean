/-
  stamp: the statement on years.
-/
import Derived.Test.YtepakdgpaaeelaaDoorStL1
import Derived.LoopTactic
namespace Go.Proofs.YtepakdgpaaeelaaDoor
open Go.RowKit Go
set_option linter.unusedVariables false
set_option maxRecDepth 100000
/-- Whether there is such a day, by whether the year may be and is a leap year. -/
def dayG (ok lp : Bool) (m d : Nat) : Bool := ok && (decide (1 ≤ m ∧ m ≤ 12 ∧ 1 ≤ d) && decide (d ≤ if m = 4 ∨ m = 6 ∨ m = 9 ∨ m = 11 then 30 else if m = 2 then (if lp = true then 29 else 28) else 31))
def okY (y : Nat) : Bool := decide (1900 ≤ y ∧ y ≤ 9999)
def lpY (y : Nat) : Bool := decide (y % 4 = 0 ∧ (y % 100 ≠ 0 ∨ y % 400 = 0))
theorem right_G (y m d : Nat) (hm : m < 256) (hd : d < 256) : rightB ⟨y, UInt8.ofNat m, UInt8.ofNat d, 0, 0, 0⟩ = dayG (okY y) (lpY y) m d := by
  have e1 : (UInt8.ofNat m).toNat = m := by rw [UInt8.toNat_ofNat']; omega
  have e2 : (UInt8.ofNat d).toNat = d := by rw [UInt8.toNat_ofNat']; omega
  unfold rightB dayG okY
  have e3 : daysN y m = if m = 4 ∨ m = 6 ∨ m = 9 ∨ m = 11 then 30 else if m = 2 then (if lpY y = true then 29 else 28) else 31 := by
    unfold daysN lpY
    simp
  rw [Bool.eq_iff_iff]
  simp only [e1, e2, e3]
  simp
  omega
def cntD (f : Nat → Nat → Bool) (m : Nat) : Nat → Nat
  | 0 => 0
  | k + 1 => cntD f m k + if f m k then 1 else 0
def cntM (f : Nat → Nat → Bool) : Nat → Nat
  | 0 => 0
  | k + 1 => cntM f k + cntD f k 40
theorem cntD_le (f : Nat → Nat → Bool) (m : Nat) : ∀ k, cntD f m k ≤ k
  | 0 => Nat.le_refl _
  | k + 1 => by have := cntD_le f m k; unfold cntD; split <;> omega
theorem cntM_le (f : Nat → Nat → Bool) : ∀ k, cntM f k ≤ 40 * k
  | 0 => Nat.le_refl _
  | k + 1 => by have := cntM_le f k; have := cntD_le f k 40; unfold cntM; omega
theorem cnt_all : cntM (dayG true true) 20 = 366 ∧ cntM (dayG true false) 20 = 365 ∧ cntM (dayG false true) 20 = 0 ∧ cntM (dayG false false) 20 = 0 := by decide +kernel
def wantY (y : Nat) : Nat := if okY y then (if lpY y then 366 else 365) else 0
theorem cnt_want (y : Nat) : cntM (dayG (okY y) (lpY y)) 20 = wantY y := by
  unfold wantY
  obtain ⟨h1, h2, h3, h4⟩ := cnt_all
  cases okY y <;> cases lpY y <;> simp [h1, h2, h3, h4]
set_option maxHeartbeats 1600000 in
theorem years_row (year : Int) (w : World) (hy : (Lit.int .u16 year).wf = true) (hT : Sizes w) :
    Calls Tryd.prog 7 #[.int .u16 year] w fun e w' => e = .returned (.bool true) ∧ Below w.heap.size w w' := by
  have hb := bounds_u16 hy
  obtain ⟨y, rfl⟩ : ∃ y : Nat, year = (y : Int) := ⟨year.toNat, by omega⟩
  have hy6 : y < 65536 := by omega
  have WK := Lib.hid (fun W (h : Sizes W) => works_any W h)
  have RT : Hid (∀ (m d : Nat) W, m < 256 → d < 256 → Calls Tryd.prog 19 #[.agg #[.int .u16 (y : Int), .int .u8 (m : Int), .int .u8 (d : Int), .int .u8 0, .int .u8 0, .int .u8 0]] W fun e w' => e = .returned (.bool (dayG (okY y) (lpY y) m d)) ∧ Below W.heap.size W w') := fun m d W hm hd => by
    have h := right_any ⟨y, UInt8.ofNat m, UInt8.ofNat d, 0, 0, 0⟩ W hy6
    rw [right_G y m d hm hd] at h
    unfold tmV Tm.cells at h
    simp only at h
    have e1 : ((UInt8.ofNat m).toNat : Int) = (m : Int) := by rw [UInt8.toNat_ofNat']; omega
    have e2 : ((UInt8.ofNat d).toNat : Int) = (d : Int) := by rw [UInt8.toNat_ofNat']; omega
    rw [e1, e2] at h
    exact h
  have hW : Hid (cntM (dayG (okY y) (lpY y)) 20 = wantY y) := cnt_want y
  obtain ⟨o, ho⟩ : ∃ o, okY y = o := ⟨_, rfl⟩
  obtain ⟨l, hl⟩ : ∃ l, lpY y = l := ⟨_, rfl⟩
  have hw2 : wantY y = if o then (if l then 366 else 365) else 0 := by unfold wantY; rw [ho, hl]
  rw [ho, hl] at RT hW
  have HO := Lib.hid ho
  have HL := Lib.hid hl
  have HW2 := Lib.hid hw2
  clear ho hl hw2
  generalize dayG o l = f at RT hW
  have HCM := Lib.hid (cntM_le f)
  have HCD := Lib.hid (cntD_le f)
  go_enter Tryd.func7, Tryd.ntmps7
  go_wp2
  go_loopw [3, 4, 5] (fun n m _ wr => ∃ k : Nat, k ≤ 20 ∧ m = .int .i64 k ∧ n = .int .i64 (cntM f k : Nat) ∧ Below w.heap.size w wr) (fun _ m _ _ => 20 - (intOf m).toNat)
  case atStart => exact ⟨0, by omega, rfl, rfl, Below.refl _ _⟩
  case round =>
    obtain ⟨k, hk, rfl, rfl, hbr⟩ := hrel
    have hsr := hbr.size
    have c1 := HCM.out k
    by_cases hlt : k < 20
    · have hst : Hid (cntM f (k + 1) = cntM f k + cntD f k 40) := rfl
      generalize hM : cntM f k = M at c1 hst
      clear hM
      have hd20 : decide ((k : Int) < 20) = true := decide_eq_true (by omega)
      go_wp2
      rename World => wo
      go_loopw [3, 5] (fun n d wr => ∃ j : Nat, j ≤ 40 ∧ d = .int .i64 j ∧ n = .int .i64 ((M + cntD f k j : Nat) : Int) ∧ Below w.heap.size w wr) (fun _ d _ => 40 - (intOf d).toNat)
      case atStart => exact ⟨0, by omega, rfl, by simp [cntD], hbr⟩
      case round =>
        obtain ⟨j, hj, rfl, rfl, hbj⟩ := hrel
        have hsj := hbj.size
        have d1 := HCD.out k j
        by_cases hlt2 : j < 40
        · have hst2 : Hid (cntD f k (j + 1) = cntD f k j + if f k j then 1 else 0) := rfl
          have R1 := RT.out k j
          generalize f k j = b at R1 hst2
          have RR := Lib.hid (fun W => R1 W (by omega) (by omega))
          generalize cntD f k j = N at d1 hst2
          clear R1 hst
          go_wp2_with fail
          refine (RR.out _).mono ?_
          intro e w1 hw1
          obtain ⟨rfl, hb1⟩ := hw1
          have hbw := hbj.trans (hb1.mono hsj)
          clear hb1
          cases b
          · go_wp2
            go_roundw
            case rel => exact ⟨j + 1, by omega, by go_num, by rw [hst2.out]; rfl, hbw⟩
            case measure => simp [intOf]; omega
          · go_wp2
            go_roundw
            case rel => exact ⟨j + 1, by omega, by go_num, by rw [hst2.out]; go_num, hbw⟩
            case measure => simp [intOf]; omega
        · obtain rfl : j = 40 := by omega
          generalize cntD f k 40 = N at d1 hst
          go_wp2
          go_roundw
          case rel => exact ⟨k + 1, by omega, by go_num, by rw [hst.out], hbj⟩
          case measure => simp [intOf]; omega
    · obtain rfl : k = 20 := by omega
      have hn : ((cntM f 20 : Nat) : Int) = if o then (if l then 366 else 365) else 0 := by rw [hW.out, HW2.out]; cases o <;> cases l <;> rfl
      generalize ((cntM f 20 : Nat) : Int) = n at hn ⊢
      clear c1 RT HCM HCD
      have hcl : ((y % 400 = 0) ∨ (y % 400 ≠ 0 ∧ y % 4 ≠ 0) ∨ (y % 400 ≠ 0 ∧ y % 4 = 0 ∧ y % 100 = 0) ∨ (y % 400 ≠ 0 ∧ y % 4 = 0 ∧ y % 100 ≠ 0)) := by omega
      have hco : ((y < 1900) ∨ (9999 < y) ∨ (1900 ≤ y ∧ y ≤ 9999)) := by omega
      have QE : Hid (∀ a : Int, a = 0 → ((a == 0) = true ∧ (a != 0) = false)) := fun a h => by subst h; exact ⟨rfl, rfl⟩
      have QN : Hid (∀ a : Int, a ≠ 0 → ((a == 0) = false ∧ (a != 0) = true)) := fun a h => ⟨beq_eq_false_iff_ne.2 h, by rw [bne_iff_ne]; exact h⟩
      rcases hcl with hl | hl | hl | hl
      · obtain rfl : l = true := by rw [← HL.out]; unfold lpY; exact decide_eq_true (by omega)
        obtain ⟨e400, n400⟩ := QE.out ((y : Int) % 400) (by omega)
        rcases hco with ho | ho | ho
        · obtain rfl : o = false := by rw [← HO.out]; unfold okY; exact decide_eq_false (by omega)
          obtain rfl : n = 0 := by simpa using hn
          have g1 : decide ((y : Int) < 1900) = true := decide_eq_true (by omega)
          clear hl ho HO HL HW2 QE QN hW hn
          go_wp2_with fail
          refine (WK.out _ (hT.below' hbr)).mono ?_
          intro e w9 hw9
          obtain ⟨rfl, hb9⟩ := hw9
          have hbw9 := hbr.trans (hb9.mono hsr)
          clear hb9
          go_wp2
          go_ret
          exact ⟨rfl, hbw9⟩
        · obtain rfl : o = false := by rw [← HO.out]; unfold okY; exact decide_eq_false (by omega)
          obtain rfl : n = 0 := by simpa using hn
          have g1 : decide ((y : Int) < 1900) = false := decide_eq_false (by omega)
          have g2 : decide (9999 < (y : Int)) = true := decide_eq_true (by omega)
          clear hl ho HO HL HW2 QE QN hW hn
          go_wp2_with fail
          refine (WK.out _ (hT.below' hbr)).mono ?_
          intro e w9 hw9
          obtain ⟨rfl, hb9⟩ := hw9
          have hbw9 := hbr.trans (hb9.mono hsr)
          clear hb9
          go_wp2
          go_ret
          exact ⟨rfl, hbw9⟩
        · obtain rfl : o = true := by rw [← HO.out]; unfold okY; exact decide_eq_true ho
          obtain rfl : n = 366 := by simpa using hn
          have g1 : decide ((y : Int) < 1900) = false := decide_eq_false (by omega)
          have g2 : decide (9999 < (y : Int)) = false := decide_eq_false (by omega)
          clear hl ho HO HL HW2 QE QN hW hn
          go_wp2_with fail
          refine (WK.out _ (hT.below' hbr)).mono ?_
          intro e w9 hw9
          obtain ⟨rfl, hb9⟩ := hw9
          have hbw9 := hbr.trans (hb9.mono hsr)
          clear hb9
          go_wp2
          go_ret
          exact ⟨rfl, hbw9⟩
      · obtain rfl : l = false := by rw [← HL.out]; unfold lpY; exact decide_eq_false (by omega)
        obtain ⟨e400, n400⟩ := QN.out ((y : Int) % 400) (by omega)
        obtain ⟨e4, n4⟩ := QN.out ((y : Int) % 4) (by omega)
        rcases hco with ho | ho | ho
        · obtain rfl : o = false := by rw [← HO.out]; unfold okY; exact decide_eq_false (by omega)
          obtain rfl : n = 0 := by simpa using hn
          have g1 : decide ((y : Int) < 1900) = true := decide_eq_true (by omega)
          clear hl ho HO HL HW2 QE QN hW hn
          go_wp2_with fail
          refine (WK.out _ (hT.below' hbr)).mono ?_
          intro e w9 hw9
          obtain ⟨rfl, hb9⟩ := hw9
          have hbw9 := hbr.trans (hb9.mono hsr)
          clear hb9
          go_wp2
          go_ret
          exact ⟨rfl, hbw9⟩
        · obtain rfl : o = false := by rw [← HO.out]; unfold okY; exact decide_eq_false (by omega)
          obtain rfl : n = 0 := by simpa using hn
          have g1 : decide ((y : Int) < 1900) = false := decide_eq_false (by omega)
          have g2 : decide (9999 < (y : Int)) = true := decide_eq_true (by omega)
          clear hl ho HO HL HW2 QE QN hW hn
          go_wp2_with fail
          refine (WK.out _ (hT.below' hbr)).mono ?_
          intro e w9 hw9
          obtain ⟨rfl, hb9⟩ := hw9
          have hbw9 := hbr.trans (hb9.mono hsr)
          clear hb9
          go_wp2
          go_ret
          exact ⟨rfl, hbw9⟩
        · obtain rfl : o = true := by rw [← HO.out]; unfold okY; exact decide_eq_true ho
          obtain rfl : n = 365 := by simpa using hn
          have g1 : decide ((y : Int) < 1900) = false := decide_eq_false (by omega)
          have g2 : decide (9999 < (y : Int)) = false := decide_eq_false (by omega)
          clear hl ho HO HL HW2 QE QN hW hn
          go_wp2_with fail
          refine (WK.out _ (hT.below' hbr)).mono ?_
          intro e w9 hw9
          obtain ⟨rfl, hb9⟩ := hw9
          have hbw9 := hbr.trans (hb9.mono hsr)
          clear hb9
          go_wp2
          go_ret
          exact ⟨rfl, hbw9⟩
      · obtain rfl : l = false := by rw [← HL.out]; unfold lpY; exact decide_eq_false (by omega)
        obtain ⟨e400, n400⟩ := QN.out ((y : Int) % 400) (by omega)
        obtain ⟨e4, n4⟩ := QE.out ((y : Int) % 4) (by omega)
        obtain ⟨e100, n100⟩ := QE.out ((y : Int) % 100) (by omega)
        rcases hco with ho | ho | ho
        · obtain rfl : o = false := by rw [← HO.out]; unfold okY; exact decide_eq_false (by omega)
          obtain rfl : n = 0 := by simpa using hn
          have g1 : decide ((y : Int) < 1900) = true := decide_eq_true (by omega)
          clear hl ho HO HL HW2 QE QN hW hn
          go_wp2_with fail
          refine (WK.out _ (hT.below' hbr)).mono ?_
          intro e w9 hw9
          obtain ⟨rfl, hb9⟩ := hw9
          have hbw9 := hbr.trans (hb9.mono hsr)
          clear hb9
          go_wp2
          go_ret
          exact ⟨rfl, hbw9⟩
        · obtain rfl : o = false := by rw [← HO.out]; unfold okY; exact decide_eq_false (by omega)
          obtain rfl : n = 0 := by simpa using hn
          have g1 : decide ((y : Int) < 1900) = false := decide_eq_false (by omega)
          have g2 : decide (9999 < (y : Int)) = true := decide_eq_true (by omega)
          clear hl ho HO HL HW2 QE QN hW hn
          go_wp2_with fail
          refine (WK.out _ (hT.below' hbr)).mono ?_
          intro e w9 hw9
          obtain ⟨rfl, hb9⟩ := hw9
          have hbw9 := hbr.trans (hb9.mono hsr)
          clear hb9
          go_wp2
          go_ret
          exact ⟨rfl, hbw9⟩
        · obtain rfl : o = true := by rw [← HO.out]; unfold okY; exact decide_eq_true ho
          obtain rfl : n = 365 := by simpa using hn
          have g1 : decide ((y : Int) < 1900) = false := decide_eq_false (by omega)
          have g2 : decide (9999 < (y : Int)) = false := decide_eq_false (by omega)
          clear hl ho HO HL HW2 QE QN hW hn
          go_wp2_with fail
          refine (WK.out _ (hT.below' hbr)).mono ?_
          intro e w9 hw9
          obtain ⟨rfl, hb9⟩ := hw9
          have hbw9 := hbr.trans (hb9.mono hsr)
          clear hb9
          go_wp2
          go_ret
          exact ⟨rfl, hbw9⟩
      · obtain rfl : l = true := by rw [← HL.out]; unfold lpY; exact decide_eq_true (by omega)
        obtain ⟨e400, n400⟩ := QN.out ((y : Int) % 400) (by omega)
        obtain ⟨e4, n4⟩ := QE.out ((y : Int) % 4) (by omega)
        obtain ⟨e100, n100⟩ := QN.out ((y : Int) % 100) (by omega)
        rcases hco with ho | ho | ho
        · obtain rfl : o = false := by rw [← HO.out]; unfold okY; exact decide_eq_false (by omega)
          obtain rfl : n = 0 := by simpa using hn
          have g1 : decide ((y : Int) < 1900) = true := decide_eq_true (by omega)
          clear hl ho HO HL HW2 QE QN hW hn
          go_wp2_with fail
          refine (WK.out _ (hT.below' hbr)).mono ?_
          intro e w9 hw9
          obtain ⟨rfl, hb9⟩ := hw9
          have hbw9 := hbr.trans (hb9.mono hsr)
          clear hb9
          go_wp2
          go_ret
          exact ⟨rfl, hbw9⟩
        · obtain rfl : o = false := by rw [← HO.out]; unfold okY; exact decide_eq_false (by omega)
          obtain rfl : n = 0 := by simpa using hn
          have g1 : decide ((y : Int) < 1900) = false := decide_eq_false (by omega)
          have g2 : decide (9999 < (y : Int)) = true := decide_eq_true (by omega)
          clear hl ho HO HL HW2 QE QN hW hn
          go_wp2_with fail
          refine (WK.out _ (hT.below' hbr)).mono ?_
          intro e w9 hw9
          obtain ⟨rfl, hb9⟩ := hw9
          have hbw9 := hbr.trans (hb9.mono hsr)
          clear hb9
          go_wp2
          go_ret
          exact ⟨rfl, hbw9⟩
        · obtain rfl : o = true := by rw [← HO.out]; unfold okY; exact decide_eq_true ho
          obtain rfl : n = 366 := by simpa using hn
          have g1 : decide ((y : Int) < 1900) = false := decide_eq_false (by omega)
          have g2 : decide (9999 < (y : Int)) = false := decide_eq_false (by omega)
          clear hl ho HO HL HW2 QE QN hW hn
          go_wp2_with fail
          refine (WK.out _ (hT.below' hbr)).mono ?_
          intro e w9 hw9
          obtain ⟨rfl, hb9⟩ := hw9
          have hbw9 := hbr.trans (hb9.mono hsr)
          clear hb9
          go_wp2
          go_ret
          exact ⟨rfl, hbw9⟩
end Go.Proofs.YtepakdgpaaeelaaDoor
