/-
  nat: the document's own division, plainly; ahead.
-/
import Derived.Test.YtbplchpbaonadaaDoorOf
namespace Go.Proofs.YtbplchpbaonadaaDoor
open Go.RowKit Go
set_option linter.unusedVariables false
set_option linter.unusedSimpArgs false
set_option maxRecDepth 100000
theorem pow_bit (j : Nat) : 2 ^ j = 4294967296 ^ (j / 32) * 2 ^ (j % 32) := by
  rw [show (4294967296 : Nat) = 2 ^ 32 by decide, ← Nat.pow_mul, ← Nat.pow_add]
  congr 1
  omega
theorem bit_of (x : List Nat) (lx : Lim x) (j : Nat) : x.getD (j / 32) 0 / 2 ^ (j % 32) % 2 = val x / 2 ^ j % 2 := by
  rw [val_digit x lx, pow_bit j, ← Nat.div_div_eq_div_mul]
  generalize val x / 4294967296 ^ (j / 32) = W
  have hs : j % 32 < 32 := Nat.mod_lt _ (by decide)
  generalize j % 32 = s at *
  have e : (4294967296 : Nat) = 2 ^ s * 2 ^ (32 - s) := by rw [← Nat.pow_add, show s + (32 - s) = 32 by omega]
  rw [e, Nat.mod_mul_right_div_self]
  exact Nat.mod_mod_of_dvd _ (by
    rw [show 32 - s = (31 - s) + 1 by omega, Nat.pow_succ]
    exact Nat.dvd_mul_left _ _)
theorem left_step2 (V X d T S c e : Nat) (h : V + c * T = X * S + e) : V + (d * S % 4294967296 + c) * T + d * S / 4294967296 * (T * 4294967296) = (X + d * T) * S + e := by
  have e1 : d * S % 4294967296 * T + d * S / 4294967296 * (T * 4294967296) = d * S * T := by
    rw [Nat.mul_comm T, ← Nat.mul_assoc, ← Nat.add_mul]
    congr 1
    omega
  rw [Nat.add_mul, Nat.add_mul, show d * T * S = d * S * T from by rw [Nat.mul_assoc, Nat.mul_comm T, ← Nat.mul_assoc]]
  generalize d * S % 4294967296 * T = z1 at *
  generalize d * S / 4294967296 * (T * 4294967296) = z2 at *
  generalize d * S * T = z3 at *
  generalize c * T = z4 at *
  generalize X * S = z5 at *
  omega
/-- One bit more of the number that is divided. -/
theorem div_bit (X Y j b : Nat) (hY : 0 < Y) (hb : X / 2 ^ j % 2 = b) :
    X / 2 ^ j = 2 * (X / 2 ^ (j + 1)) + b ∧ (2 * (X / 2 ^ (j + 1) % Y) + b < Y → X / 2 ^ j % Y = 2 * (X / 2 ^ (j + 1) % Y) + b ∧ X / 2 ^ j / Y = 2 * (X / 2 ^ (j + 1) / Y)) ∧
      (Y ≤ 2 * (X / 2 ^ (j + 1) % Y) + b → X / 2 ^ j % Y = 2 * (X / 2 ^ (j + 1) % Y) + b - Y ∧ X / 2 ^ j / Y = 2 * (X / 2 ^ (j + 1) / Y) + 1) := by
  have h1 : X / 2 ^ (j + 1) = X / 2 ^ j / 2 := by rw [Nat.pow_succ, Nat.div_div_eq_div_mul]
  have h2 : X / 2 ^ j = 2 * (X / 2 ^ (j + 1)) + b := by rw [h1]; omega
  have hb2 : b < 2 := by omega
  obtain ⟨_, _, f3⟩ := div_facts (X / 2 ^ (j + 1)) Y hY
  have hm := Nat.mod_lt (X / 2 ^ (j + 1)) hY
  generalize X / 2 ^ (j + 1) = W at *
  refine ⟨h2, fun h => ?_, fun h => ?_⟩
  · have h4 : X / 2 ^ j = (2 * (W % Y) + b) + Y * (2 * (W / Y)) := by
      rw [h2]
      rw [Nat.mul_left_comm, Nat.mul_comm Y]
      omega
    rw [h4, Nat.add_mul_mod_self_left, Nat.mod_eq_of_lt h, Nat.add_mul_div_left _ _ hY, Nat.div_eq_of_lt h, Nat.zero_add]
    exact ⟨rfl, rfl⟩
  · have hlt : 2 * (W % Y) + b - Y < Y := by omega
    have h4 : X / 2 ^ j = (2 * (W % Y) + b - Y) + Y * (2 * (W / Y) + 1) := by
      rw [h2, Nat.mul_add, Nat.mul_one]
      rw [Nat.mul_left_comm Y 2, Nat.mul_comm Y]
      omega
    rw [h4, Nat.add_mul_mod_self_left, Nat.mod_eq_of_lt hlt, Nat.add_mul_div_left _ _ hY, Nat.div_eq_of_lt hlt, Nat.zero_add]
    exact ⟨rfl, rfl⟩
/-- One bit set in the quotient. -/
theorem set_bit (Q : List Nat) (lQ : Lim Q) (j κ : Nat) (hQ : j / 32 < Q.length) (hv : val Q = κ * 2 ^ (j + 1)) :
    (Q.getD (j / 32) 0 ||| 2 ^ (j % 32)) = Q.getD (j / 32) 0 + 2 ^ (j % 32) ∧ Q.getD (j / 32) 0 + 2 ^ (j % 32) < 4294967296 ∧ 2 ^ (j % 32) < 4294967296 ∧
    val (Q.set (j / 32) (Q.getD (j / 32) 0 + 2 ^ (j % 32))) = (2 * κ + 1) * 2 ^ j := by
  have hs : j % 32 < 32 := Nat.mod_lt _ (by decide)
  have hd := val_digit Q lQ (j / 32)
  have hpb := pow_bit j
  have e : Q.getD (j / 32) 0 = κ % 2 ^ (31 - j % 32) * 2 ^ (j % 32 + 1) := by
    rw [hd, hv, Nat.pow_succ, hpb, Nat.mul_comm κ, Nat.mul_assoc, Nat.mul_assoc, Nat.mul_div_cancel_left _ (Nat.pow_pos (by decide))]
    have e32 : (4294967296 : Nat) = 2 ^ (31 - j % 32) * 2 ^ (j % 32 + 1) := by rw [← Nat.pow_add, show 31 - j % 32 + (j % 32 + 1) = 32 by omega]
    rw [show 2 ^ (j % 32) * (2 * κ) = κ * 2 ^ (j % 32 + 1) by rw [Nat.pow_succ, Nat.mul_comm κ, Nat.mul_assoc]]
    conv => lhs; rw [e32]
    exact Nat.mul_mod_mul_right _ _ _
  have hp32 : 2 ^ (j % 32) < 2 ^ (j % 32 + 1) := Nat.pow_lt_pow_right (by decide) (by omega)
  have hp31 := pow_31 (j % 32) (by omega)
  have hor : (Q.getD (j / 32) 0 ||| 2 ^ (j % 32)) = Q.getD (j / 32) 0 + 2 ^ (j % 32) := by
    rw [e]; exact or_sum _ _ _ hp32
  have hl : κ % 2 ^ (31 - j % 32) < 2 ^ (31 - j % 32) := Nat.mod_lt _ (Nat.pow_pos (by decide))
  have e32 : (4294967296 : Nat) = 2 ^ (31 - j % 32) * 2 ^ (j % 32 + 1) := by rw [← Nat.pow_add, show 31 - j % 32 + (j % 32 + 1) = 32 by omega]
  have hle : (κ % 2 ^ (31 - j % 32) + 1) * 2 ^ (j % 32 + 1) ≤ 4294967296 := by
    rw [e32]; exact Nat.mul_le_mul_right _ hl
  rw [Nat.add_mul, Nat.one_mul, ← e] at hle
  refine ⟨hor, by omega, by omega, ?_⟩
  have hs2 := val_set Q (j / 32) (Q.getD (j / 32) 0 + 2 ^ (j % 32)) hQ
  rw [Nat.add_mul, hv, Nat.mul_comm (2 ^ (j % 32)), ← hpb] at hs2
  rw [Nat.add_mul, Nat.one_mul, Nat.mul_comm 2 κ, Nat.mul_assoc]
  rw [Nat.pow_succ, Nat.mul_comm (2 ^ j)] at hs2
  omega
theorem take_same {n : Nat} {R : List Nat} (h : R.length = n + 1) (h0 : R.getD n 0 = 0) : val (R.take n) = val R := by
  have h1 := val_take1 R n
  rw [take_all (show R.length ≤ n + 1 by omega), h0, Nat.zero_mul, Nat.add_zero] at h1
  exact h1.symm
set_option maxHeartbeats 4000000 in
theorem ahead_any (A B : Option Addr) (n n1 c d : Nat) (R y : List Nat) (w : World) (hA : RU w A n1 R) (hB : RU w B n y) (hn1 : n + 1 = n1) (hn : n ≤ 300) (hn0 : 0 < n) :
    Calls Tryd.prog 80 #[.slice A n1 c, .slice B n d] w fun e w' => e = .returned (.bool (decide (val y ≤ val R))) ∧ Below w.heap.size w w' := by
  have HA := Lib.hid hA
  have HB := Lib.hid hB
  obtain ⟨bt, ot, rfl, hbt, ct⟩ := hA.at_ (j := n) (by omega)
  have hRl := hA.len
  have hyl := hB.len
  obtain ⟨t, ht⟩ : ∃ t, R.getD n 0 = t := ⟨_, rfl⟩
  rw [ht] at ct
  have j1 : (0 : Int) ≤ (n : Int) := by omega
  have j2 : (n : Int) < (n1 : Int) := by omega
  have hH := Lib.hid hn1
  by_cases ht0 : t = 0
  · have hv := take_same (n := n) (R := R) (by omega) (by rw [ht, ht0])
    have i0 : ¬ (t : Int) > 0 := by omega
    have HZ := Lib.hid (show ∀ i, i < n → (R.take n).drop (i + 1) = y.drop (i + 1) → R.getD i 0 ≠ y.getD i 0 → decide (val y ≤ val R) = decide (R.getD i 0 > y.getD i 0) from fun i hi h1 h2 => by
      have hg : (R.take n).getD i 0 = R.getD i 0 := by rw [List.getD_eq_getElem?_getD, List.getElem?_take, if_pos hi, ← List.getD_eq_getElem?_getD]
      have h3 := cmp_top (R.take n) y (hA.lim.take n) hB.lim i (by rw [List.length_take]; omega) (by omega) h1 (by rw [hg]; exact h2)
      rw [hg, hv] at h3
      unfold cmpV at h3
      by_cases h4 : R.getD i 0 > y.getD i 0
      · rw [if_pos h4] at h3
        rw [decide_eq_true h4]
        refine decide_eq_true ?_
        rcases Nat.lt_or_ge (val R) (val y) with h5 | h5
        · rw [if_pos h5] at h3; exact absurd h3 (by decide)
        · exact h5
      · rw [if_neg h4] at h3
        rw [decide_eq_false h4]
        refine decide_eq_false ?_
        intro h5
        rw [if_neg (by omega)] at h3
        split at h3 <;> exact absurd h3 (by decide))
    have HV := Lib.hid (And.intro hv (And.intro hRl hyl))
    have e1 : IntKind.i64.wrap ((n : Int) - 1) = (n : Int) - 1 := IntWalk.i64_in _ (by omega)
    have HT := Lib.hid (And.intro ht ht0)
    clear hA hB hv ht ht0 hRl hyl hn1
    go_enter Tryd.func80, Tryd.ntmps80
    go_wp2_with fail
    go_loopw [5] (fun vi wl => ∃ i : Nat, vi = .int .i64 ((i : Int) - 1) ∧ i ≤ n ∧ Hid ((R.take n).drop i = y.drop i ∧ Below w.heap.size w wl)) (fun vi _ => (intOf vi + 1).toNat)
    case atStart => exact ⟨n, rfl, Nat.le_refl _, by rw [List.drop_of_length_le (by rw [List.length_take]; omega), List.drop_of_length_le (by have := HV.out.2.2; omega)], Below.refl _ _⟩
    case round =>
      obtain ⟨i, rfl, hi, HK⟩ := hrel
      rcases i with _ | j
      · have i1 : ¬ ((0 : Nat) : Int) - 1 ≥ 0 := by omega
        have HQ : Hid (decide (val y ≤ val R) = true) := by
          have h0 := HK.out.1
          rw [List.drop_zero, List.drop_zero] at h0
          refine decide_eq_true ?_
          rw [← HV.out.1, h0]
          exact Nat.le_refl _
        go_wp2
        go_ret
        exact ⟨by rw [HQ.out]; rfl, HK.out.2⟩
      · have e2 : (((j + 1 : Nat) : Int) - 1) = (j : Int) := by omega
        have hh := hH.out
        have hv2 := HV.out.2
        obtain ⟨b9, o9, he9, hba, cA⟩ := HA.out.at_ (j := j) (by omega)
        injection he9 with he9
        injection he9 with he9 he10
        subst he9; subst he10
        obtain ⟨bb, ob, rfl, hbb, cB⟩ := HB.out.at_ (j := j) (by omega)
        have cA' := (HK.out.2.cell (p := ⟨bt, ot + j, none⟩) hba).trans cA
        have cB' := (HK.out.2.cell (p := ⟨bb, ob + j, none⟩) hbb).trans cB
        have hq := HZ.out j (by omega) HK.out.1
        have ds := drop_step (x := R.take n) (y := y) (i := j) (by rw [List.length_take]; omega) (by omega)
        have hg : (R.take n).getD j 0 = R.getD j 0 := by rw [List.getD_eq_getElem?_getD, List.getElem?_take, if_pos (by omega), ← List.getD_eq_getElem?_getD]
        rw [hg] at ds
        obtain ⟨p, hp⟩ : ∃ p, R.getD j 0 = p := ⟨_, rfl⟩
        obtain ⟨q, hqq⟩ : ∃ q, y.getD j 0 = q := ⟨_, rfl⟩
        rw [hp] at cA' hq ds
        rw [hqq] at cB' hq ds
        have e3 : IntKind.i64.wrap ((j : Int) - 1) = (j : Int) - 1 := IntWalk.i64_in _ (by omega)
        have i1 : (j : Int) ≥ 0 := by omega
        have i2 : 0 ≤ (j : Int) := by omega
        have i3 : (j : Int) < (n : Int) := by omega
        have i4 : (j : Int) < (n1 : Int) := by omega
        rw [e2]
        clear cA cB hp hqq hba hbb e2 hh hv2 hg
        by_cases hxy : p = q
        · subst hxy
          have HN : Hid ((R.take n).drop j = y.drop j ∧ Below w.heap.size w wr) := ⟨ds rfl HK.out.1, HK.out.2⟩
          have t1 : ((p : Int) != (p : Int)) = false := by simp
          clear hq ds HK
          go_wp2_with fail
          go_quiet (fail)
          go_wp2
          go_roundw
          case rel => exact ⟨j, rfl, by omega, HN.out.1, kp_drewN HN.out.2 _⟩
          case measure => simp [intOf]
        · have t1 : ((p : Int) != (q : Int)) = true := by simp; omega
          obtain ⟨bo, hbo⟩ : ∃ bo, decide (p > q) = bo := ⟨_, rfl⟩
          have HN : Hid (decide (val y ≤ val R) = bo ∧ Below w.heap.size w wr) := ⟨by rw [hq hxy, hbo], HK.out.2⟩
          have t2 : decide ((q : Int) < (p : Int)) = bo := by rw [← hbo]; congr 1; apply propext; omega
          have t3 : decide (q < p) = bo := hbo
          clear hq ds HK hbo
          go_wp2_with fail
          go_quiet (fail)
          rename_i nq
          have cA2 : (wr.drewN nq).cell? ⟨bt, ot + j, none⟩ = some (.int .u32 (p : Int)) := cA'
          have cB2 : (wr.drewN nq).cell? ⟨bb, ob + j, none⟩ = some (.int .u32 (q : Int)) := cB'
          have HB2 : Hid (decide (val y ≤ val R) = bo ∧ Below w.heap.size w (wr.drewN nq)) := ⟨HN.out.1, kp_drewN HN.out.2 nq⟩
          generalize wr.drewN nq = wq at *
          clear cA' cB'
          go_wp2_with fail
          go_quiet (fail)
          go_wp2
          go_ret
          exact ⟨by rw [HB2.out.1]; rfl, kp_drewN HB2.out.2 _⟩
  · have i0 : (t : Int) > 0 := by omega
    have hd : decide (val y ≤ val R) = true := by
      refine decide_eq_true ?_
      have h1 := val_take1 R n
      rw [take_all (by omega), ht] at h1
      have h2 := val_lt y hB.lim
      rw [hyl] at h2
      have h3 := Nat.mul_le_mul_right (4294967296 ^ n) (show 1 ≤ t by omega)
      omega
    rw [hd]
    clear hA hB hd ht ht0 hRl hyl hn1
    go_enter Tryd.func80, Tryd.ntmps80
    go_wp2
    go_ret
    exact ⟨rfl, Below.refl _ _⟩
end Go.Proofs.YtbplchpbaonadaaDoor
