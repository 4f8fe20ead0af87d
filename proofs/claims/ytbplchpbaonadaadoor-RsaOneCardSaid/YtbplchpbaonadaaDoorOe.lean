/-
  nat: the document's own: cmp, fits; Cmp, Add, Sub.
-/
import Derived.Test.YtbplchpbaonadaaDoorOd
namespace Go.Proofs.YtbplchpbaonadaaDoor
open Go.RowKit Go
set_option linter.unusedVariables false
set_option linter.unusedSimpArgs false
set_option maxRecDepth 100000
set_option maxHeartbeats 4000000 in
theorem dcmp_any (A B : Option Addr) (n c m d : Nat) (x y : List Nat) (w : World) (hA : RU w A n x) (hB : RU w B m y) (hn : n ≤ 300) (hm : m ≤ 300) (tx : Tip x) (ty : Tip y) :
    Calls Tryd.prog 58 #[.slice A n c, .slice B m d] w fun e w' => e = .returned (.int .i64 (cmpV (val x) (val y))) ∧ Below w.heap.size w w' := by
  have HA := Lib.hid hA
  have HB := Lib.hid hB
  by_cases hnm : n = m
  · subst hnm
    have HZ := Lib.hid (show ∀ i, i < n → x.drop (i + 1) = y.drop (i + 1) → x.getD i 0 ≠ y.getD i 0 → cmpV (val x) (val y) = if x.getD i 0 > y.getD i 0 then 1 else -1 from fun i hi h1 h2 => cmp_top x y hA.lim hB.lim i (by rw [hA.len]; exact hi) (by rw [hB.len]; exact hi) h1 h2)
    have e1 : IntKind.i64.wrap ((n : Int) - 1) = (n : Int) - 1 := IntWalk.i64_in _ (by omega)
    clear tx ty hA hB
    go_enter Tryd.func58, Tryd.ntmps58
    go_wp2_with fail
    go_loopw [5] (fun vi wl => ∃ i : Nat, vi = .int .i64 ((i : Int) - 1) ∧ i ≤ n ∧ Hid (x.drop i = y.drop i ∧ Below w.heap.size w wl)) (fun vi _ => (intOf vi + 1).toNat)
    case atStart => exact ⟨n, rfl, Nat.le_refl _, by rw [List.drop_of_length_le (by rw [HA.out.len]; omega), List.drop_of_length_le (by rw [HB.out.len]; omega)], Below.refl _ _⟩
    case round =>
      obtain ⟨i, rfl, hi, HK⟩ := hrel
      rcases i with _ | j
      · have i1 : ¬ ((0 : Nat) : Int) - 1 ≥ 0 := by omega
        have HQ : Hid (cmpV (val x) (val y) = 0) := by
          have h0 := HK.out.1
          rw [List.drop_zero, List.drop_zero] at h0
          unfold Hid
          rw [h0]; exact cmp_same y
        go_wp2
        go_ret
        exact ⟨by rw [HQ.out]; rfl, HK.out.2⟩
      · have e2 : (((j + 1 : Nat) : Int) - 1) = (j : Int) := by omega
        obtain ⟨ba, oa, rfl, hba, cA⟩ := HA.out.at_ (j := j) (by omega)
        obtain ⟨bb, ob, rfl, hbb, cB⟩ := HB.out.at_ (j := j) (by omega)
        have cA' := (HK.out.2.cell (p := ⟨ba, oa + j, none⟩) hba).trans cA
        have cB' := (HK.out.2.cell (p := ⟨bb, ob + j, none⟩) hbb).trans cB
        have hq := HZ.out j (by omega) HK.out.1
        have ds := drop_step (x := x) (y := y) (i := j) (by rw [HA.out.len]; omega) (by rw [HB.out.len]; omega)
        obtain ⟨p, hp⟩ : ∃ p, x.getD j 0 = p := ⟨_, rfl⟩
        obtain ⟨q, hqq⟩ : ∃ q, y.getD j 0 = q := ⟨_, rfl⟩
        rw [hp] at cA' hq ds
        rw [hqq] at cB' hq ds
        have e3 : IntKind.i64.wrap ((j : Int) - 1) = (j : Int) - 1 := IntWalk.i64_in _ (by omega)
        have i1 : (j : Int) ≥ 0 := by omega
        have i2 : 0 ≤ (j : Int) := by omega
        have i3 : (j : Int) < (n : Int) := by omega
        rw [e2]
        clear cA cB hp hqq hba hbb e2
        rcases Nat.lt_trichotomy p q with hpq | hpq | hpq
        · have t1 : (p : Int) < (q : Int) := by omega
          have t2 : decide (p < q) = true := decide_eq_true hpq
          have HN : Hid (cmpV (val x) (val y) = -1 ∧ Below w.heap.size w wr) := ⟨by rw [hq (by omega), if_neg (by omega)], HK.out.2⟩
          clear hq ds HK hpq
          go_wp2_with fail
          go_quiet (fail)
          go_wp2
          go_ret
          exact ⟨by rw [HN.out.1]; rfl, kp_drewN HN.out.2 _⟩
        · subst hpq
          have t1 : ¬ (p : Int) < (p : Int) := by omega
          have t2 : decide (p < p) = false := decide_eq_false (by omega)
          have HN : Hid (x.drop j = y.drop j ∧ Below w.heap.size w wr) := ⟨ds rfl HK.out.1, HK.out.2⟩
          clear hq ds HK
          go_wp2_with fail
          go_quiet (fail)
          rename_i nq
          have cA2 : (wr.drewN nq).cell? ⟨ba, oa + j, none⟩ = some (.int .u32 (p : Int)) := cA'
          have cB2 : (wr.drewN nq).cell? ⟨bb, ob + j, none⟩ = some (.int .u32 (p : Int)) := cB'
          have HB2 : Hid (x.drop j = y.drop j ∧ Below w.heap.size w (wr.drewN nq)) := ⟨HN.out.1, kp_drewN HN.out.2 nq⟩
          generalize wr.drewN nq = wq at *
          clear cA' cB'
          go_wp2_with fail
          go_quiet (fail)
          go_wp2
          go_roundw
          case rel => exact ⟨j, rfl, by omega, HB2.out.1, kp_drewN HB2.out.2 _⟩
          case measure => simp [intOf]
        · have t1 : ¬ (p : Int) < (q : Int) := by omega
          have t2 : decide (p < q) = false := decide_eq_false (by omega)
          have t3 : (q : Int) < (p : Int) := by omega
          have t4 : decide (q < p) = true := decide_eq_true hpq
          have HN : Hid (cmpV (val x) (val y) = 1 ∧ Below w.heap.size w wr) := ⟨by rw [hq (by omega), if_pos hpq], HK.out.2⟩
          clear hq ds HK hpq
          go_wp2_with fail
          go_quiet (fail)
          rename_i nq
          have cA2 : (wr.drewN nq).cell? ⟨ba, oa + j, none⟩ = some (.int .u32 (p : Int)) := cA'
          have cB2 : (wr.drewN nq).cell? ⟨bb, ob + j, none⟩ = some (.int .u32 (q : Int)) := cB'
          have HB2 : Hid (cmpV (val x) (val y) = 1 ∧ Below w.heap.size w (wr.drewN nq)) := ⟨HN.out.1, kp_drewN HN.out.2 nq⟩
          generalize wr.drewN nq = wq at *
          clear cA' cB'
          go_wp2_with fail
          go_quiet (fail)
          go_wp2
          go_ret
          exact ⟨by rw [HB2.out.1]; rfl, kp_drewN HB2.out.2 _⟩
  · have hl : cmpV (val x) (val y) = if n > m then 1 else -1 := by
      have := cmp_len x y hA.lim hB.lim tx ty (by rw [hA.len, hB.len]; exact hnm)
      rw [hA.len, hB.len] at this
      exact this
    have i1 : ((n : Int) != (m : Int)) = true := by simp; omega
    have i2 : ¬ n = m := hnm
    rw [hl]
    clear tx ty hA hB hl hnm
    by_cases hg : n > m
    · rw [if_pos hg]
      have i3 : ¬ (n : Int) < (m : Int) := by omega
      have i4 : decide (n < m) = false := decide_eq_false (by omega)
      clear hg
      go_enter Tryd.func58, Tryd.ntmps58
      go_wp2
      go_ret
      exact ⟨rfl, Below.refl _ _⟩
    · rw [if_neg hg]
      have i3 : (n : Int) < (m : Int) := by omega
      have i4 : decide (n < m) = true := decide_eq_true (by omega)
      clear hg
      go_enter Tryd.func58, Tryd.ntmps58
      go_wp2
      go_ret
      exact ⟨rfl, Below.refl _ _⟩
set_option maxHeartbeats 4000000 in
theorem dCmp_any (A B : Option Addr) (n c m d : Nat) (x y : List Nat) (w : World) (hA : RU w A n x) (hB : RU w B m y) (hn : n ≤ 300) (hm : m ≤ 300) (hc : n ≤ c ∧ c ≤ 9223372036854775807) (hd : m ≤ d ∧ d ≤ 9223372036854775807) :
    Calls Tryd.prog 73 #[.slice A n c, .slice B m d] w (fun e w' => e = .returned (.int .i64 (cmpZ x y)) ∧ Below w.heap.size w w') := by
  have RA := Lib.hid (dright_any A n c x w hA (by omega))
  have RB := Lib.hid (dright_any B m d y w hB (by omega))
  have HA := Lib.hid hA
  have HB := Lib.hid hB
  cases hr : rightB x with
  | false =>
    rw [show cmpZ x y = 0 by unfold cmpZ; rw [hr]; rfl]
    rw [hr] at RA
    clear hr hA hB
    go_enter Tryd.func73, Tryd.ntmps73
    go_wp2_with fail
    refine RA.out.mono ?_
    rintro e w' ⟨rfl, rfl⟩
    clear RA
    go_wp2
    go_ret
    exact ⟨rfl, Below.refl _ _⟩
  | true =>
    cases hs : rightB y with
    | false =>
      rw [show cmpZ x y = 0 by unfold cmpZ; rw [hr, hs]; rfl]
      rw [hr] at RA
      rw [hs] at RB
      clear hr hs hA hB
      go_enter Tryd.func73, Tryd.ntmps73
      go_wp2_with fail
      refine RA.out.mono ?_
      rintro e w' ⟨rfl, rfl⟩
      clear RA
      go_wp2_with fail
      refine RB.out.mono ?_
      rintro e w' ⟨rfl, rfl⟩
      clear RB
      go_wp2
      go_ret
      exact ⟨rfl, Below.refl _ _⟩
    | true =>
      rw [show cmpZ x y = cmpV (val x) (val y) by unfold cmpZ; rw [hr, hs]; rfl]
      have CM := dcmp_any A B n c m d x y w hA hB hn hm ((rightB_iff x).1 hr).2 ((rightB_iff y).1 hs).2
      obtain ⟨z, hz⟩ : ∃ z, cmpV (val x) (val y) = z := ⟨_, rfl⟩
      rw [hz] at CM ⊢
      have CM := Lib.hid CM
      rw [hr] at RA
      rw [hs] at RB
      clear hr hs hA hB hz
      go_enter Tryd.func73, Tryd.ntmps73
      go_wp2_with fail
      refine RA.out.mono ?_
      rintro e w' ⟨rfl, rfl⟩
      clear RA
      go_wp2_with fail
      refine RB.out.mono ?_
      rintro e w' ⟨rfl, rfl⟩
      clear RB
      go_wp2_with fail
      refine CM.out.mono ?_
      rintro e w1 ⟨rfl, hb⟩
      have HB1 := Lib.hid hb
      clear hb CM
      go_wp2
      go_ret
      exact ⟨rfl, HB1.out⟩
/-- fits: a number that may be answered. -/
theorem dfits_any (A : Option Addr) (k d v : Nat) (w : World) (h : RU w A k (num v)) (h1 : k ≤ d) (h2 : d ≤ 9223372036854775807) :
    Calls Tryd.prog 56 #[.slice A k d] w (NumD w (fitQ v)) := by
  have hl := h.len
  have hv := num_len v 256
  rw [hl] at hv
  unfold fitQ
  by_cases h256 : k ≤ 256
  · rw [if_pos (hv.1 h256)]
    have i1 : ¬ (k : Int) > 256 := by omega
    have HA := Lib.hid h
    clear h hl hv
    go_enter Tryd.func56, Tryd.ntmps56
    go_wp2
    go_ret2
    exact ⟨A, k, d, rfl, HA.out, h1, h2, h256, Below.refl _ _⟩
  · rw [if_neg (fun h9 => h256 (hv.2 h9))]
    have i1 : (k : Int) > 256 := by omega
    clear h hl hv
    go_enter Tryd.func56, Tryd.ntmps56
    go_wp2
    go_ret2
    exact NumD.err rfl (Below.refl _ _)
theorem NumD.move {w v w' : World} {r : List Nat × Nat} {e : Ending} (h : NumD v r e w') (hb : Below w.heap.size w v) : NumD w r e w' := by
  obtain ⟨A, n, c, he, h1, h2, h3, h4, h5⟩ := h
  exact ⟨A, n, c, he, h1, h2, h3, h4, kp_call hb h5⟩
set_option maxHeartbeats 4000000 in
theorem dSub_any (A B : Option Addr) (n c m d : Nat) (x y : List Nat) (w : World) (hA : RU w A n x) (hB : RU w B m y) (hn : n ≤ 300) (hm : m ≤ 300) (hc : n ≤ c ∧ c ≤ 9223372036854775807) (hd : m ≤ d ∧ d ≤ 9223372036854775807) :
    Calls Tryd.prog 35 #[.slice A n c, .slice B m d] w (NumD w (subQ x y)) := by
  have RA := Lib.hid (dright_any A n c x w hA (by omega))
  have RB := Lib.hid (dright_any B m d y w hB (by omega))
  have HA := Lib.hid hA
  have HB := Lib.hid hB
  cases hr : rightB x with
  | false =>
    rw [show subQ x y = ([], 1) by unfold subQ; rw [hr]; rfl]
    rw [hr] at RA
    clear hr hA hB
    go_enter Tryd.func35, Tryd.ntmps35
    go_wp2_with fail
    refine RA.out.mono ?_
    rintro e w' ⟨rfl, rfl⟩
    clear RA
    go_wp2
    go_ret2
    exact NumD.err rfl (Below.refl _ _)
  | true =>
    cases hs : rightB y with
    | false =>
      rw [show subQ x y = ([], 1) by unfold subQ; rw [hr, hs]; rfl]
      rw [hr] at RA
      rw [hs] at RB
      clear hr hs hA hB
      go_enter Tryd.func35, Tryd.ntmps35
      go_wp2_with fail
      refine RA.out.mono ?_
      rintro e w' ⟨rfl, rfl⟩
      clear RA
      go_wp2_with fail
      refine RB.out.mono ?_
      rintro e w' ⟨rfl, rfl⟩
      clear RB
      go_wp2
      go_ret2
      exact NumD.err rfl (Below.refl _ _)
    | true =>
      have tx := ((rightB_iff x).1 hr).2
      have ty := ((rightB_iff y).1 hs).2
      have CM := dcmp_any A B n c m d x y w hA hB hn hm tx ty
      rw [hr] at RA
      rw [hs] at RB
      by_cases hlt : val x < val y
      · rw [show subQ x y = ([], 1) by unfold subQ; rw [hr, hs, decide_eq_false (by omega)]; rfl]
        rw [show cmpV (val x) (val y) = -1 by unfold cmpV; rw [if_pos hlt]] at CM
        have CM := Lib.hid CM
        clear hr hs hA hB hlt tx ty
        go_enter Tryd.func35, Tryd.ntmps35
        go_wp2_with fail
        refine RA.out.mono ?_
        rintro e w' ⟨rfl, rfl⟩
        clear RA
        go_wp2_with fail
        refine RB.out.mono ?_
        rintro e w' ⟨rfl, rfl⟩
        clear RB
        go_wp2_with fail
        refine CM.out.mono ?_
        rintro e w1 ⟨rfl, hb⟩
        have HB1 := Lib.hid hb
        clear hb CM
        go_wp2
        go_ret2
        exact NumD.err rfl HB1.out
      · rw [show subQ x y = (num (val x - val y), 0) by unfold subQ; rw [hr, hs, decide_eq_true (by omega)]; rfl]
        obtain ⟨z, hz⟩ : ∃ z, cmpV (val x) (val y) = z := ⟨_, rfl⟩
        rw [hz] at CM
        have i1 : ¬ z < 0 := by
          rw [← hz]; unfold cmpV
          rw [if_neg hlt]
          split <;> decide
        have CM := Lib.hid CM
        have hmn : m ≤ n := by
          rw [← hA.len, ← hB.len]
          exact len_mono hA.lim hB.lim ty (by omega)
        have hx256 : (num (val x - val y)).length ≤ 256 := by
          rw [num_len]
          have h1 := val_lt x hA.lim
          have h2 := ((rightB_iff x).1 hr).1
          exact Nat.lt_of_le_of_lt (Nat.sub_le _ _) (Nat.lt_of_lt_of_le h1 (Nat.pow_le_pow_right (by decide) h2))
        have SB := fun W (hW : Below w.heap.size w W) => dsub_any A B n c m d x y W (HA.out.below hW) (HB.out.below hW) hn hmn (by omega)
        have SB := Lib.hid SB
        have HX := Lib.hid hx256
        clear hr hs hA hB hlt tx ty hz hx256
        go_enter Tryd.func35, Tryd.ntmps35
        go_wp2_with fail
        refine RA.out.mono ?_
        rintro e w' ⟨rfl, rfl⟩
        clear RA
        go_wp2_with fail
        refine RB.out.mono ?_
        rintro e w' ⟨rfl, rfl⟩
        clear RB
        go_wp2_with fail
        refine CM.out.mono ?_
        rintro e w1 ⟨rfl, hb⟩
        have HB1 := Lib.hid hb
        clear hb CM
        go_wp2_with fail
        refine (SB.out w1 HB1.out).mono ?_
        rintro e w2 ⟨A1, k1, d1, rfl, r1, l1, m1, p1, hb⟩
        have HF := Lib.hid (show _ ∧ _ from ⟨r1, kp_call HB1.out hb⟩)
        have hk : k1 ≤ 256 := by rw [← r1.len]; exact HX.out
        clear r1 hb
        go_wp2
        go_ret2
        exact ⟨A1, k1, d1, rfl, HF.out.1, m1, p1, hk, HF.out.2⟩
end Go.Proofs.YtbplchpbaonadaaDoor
