/-
  nat: Cmp.
-/
import Derived.Test.YtbplchpbaonadaaDoorNg
namespace Go.Proofs.YtbplchpbaonadaaDoor
open Go.RowKit Go
set_option linter.unusedVariables false
set_option linter.unusedSimpArgs false
set_option maxRecDepth 100000
def cmpV (u v : Nat) : Int := if u < v then -1 else if v < u then 1 else 0
def cmpZ (x y : List Nat) : Int := if rightB x && rightB y then cmpV (val x) (val y) else 0
theorem val_at (l : List Nat) (i : Nat) (h : i < l.length) : val l = val (l.take i) + l.getD i 0 * 4294967296 ^ i + 4294967296 ^ (i + 1) * val (l.drop (i + 1)) := by
  have h1 := val_append (l.take (i + 1)) (l.drop (i + 1))
  rw [List.take_append_drop, List.length_take, Nat.min_eq_left (by omega), val_take l i h] at h1
  exact h1
theorem top_lt (u v a b T : Nat) (hu : u < T) (h : a < b) : u + a * T < v + b * T := by
  have := Nat.mul_le_mul_right T (show a + 1 ≤ b from h)
  rw [Nat.add_mul] at this
  omega
theorem cmp_top (x y : List Nat) (hx : Lim x) (hy : Lim y) (i : Nat) (h1 : i < x.length) (h2 : i < y.length) (hd : x.drop (i + 1) = y.drop (i + 1)) (hne : x.getD i 0 ≠ y.getD i 0) :
    cmpV (val x) (val y) = if x.getD i 0 > y.getD i 0 then 1 else -1 := by
  have a1 := val_at x i h1
  have a2 := val_at y i h2
  rw [hd] at a1
  have l1 := val_take_lt hx i
  have l2 := val_take_lt hy i
  unfold cmpV
  rcases Nat.lt_trichotomy (x.getD i 0) (y.getD i 0) with h | h | h
  · have := top_lt (val (x.take i)) (val (y.take i)) _ _ _ l1 h
    rw [if_pos (by omega), if_neg (by omega)]
  · exact absurd h hne
  · have := top_lt (val (y.take i)) (val (x.take i)) _ _ _ l2 h
    rw [if_neg (by omega), if_pos (by omega), if_pos h]
theorem cmp_len (x y : List Nat) (hx : Lim x) (hy : Lim y) (tx : Tip x) (ty : Tip y) (hne : x.length ≠ y.length) : cmpV (val x) (val y) = if x.length > y.length then 1 else -1 := by
  have key : ∀ u v : List Nat, Lim u → Tip v → u.length < v.length → val u < val v := fun u v hu tv h => by
    have h1 := val_lt u hu
    have h2 := tip_pos v tv (by intro e; subst e; simp at h)
    have h3 : 4294967296 ^ u.length ≤ 4294967296 ^ (v.length - 1) := Nat.pow_le_pow_right (by decide) (by omega)
    omega
  unfold cmpV
  rcases Nat.lt_trichotomy x.length y.length with h | h | h
  · have := key x y hx ty h
    rw [if_pos this, if_neg (by omega)]
  · exact absurd h hne
  · have := key y x hy tx h
    rw [if_neg (by omega), if_pos this, if_pos h]
theorem cmp_same (x : List Nat) : cmpV (val x) (val x) = 0 := by
  unfold cmpV
  rw [if_neg (by omega), if_neg (by omega)]
theorem drop_step {x y : List Nat} {i : Nat} (h1 : i < x.length) (h2 : i < y.length) (he : x.getD i 0 = y.getD i 0) (hd : x.drop (i + 1) = y.drop (i + 1)) : x.drop i = y.drop i := by
  have e1 : x[i] = x.getD i 0 := by rw [List.getD_eq_getElem?_getD, List.getElem?_eq_getElem h1]; rfl
  have e2 : y[i] = y.getD i 0 := by rw [List.getD_eq_getElem?_getD, List.getElem?_eq_getElem h2]; rfl
  rw [List.drop_eq_getElem_cons h1, List.drop_eq_getElem_cons h2, hd, e1, e2, he]
theorem sign_any (b : Bool) (w : World) : Calls Tryd.prog 62 #[.bool b] w fun e w' => e = .returned (.int .i64 (if b = true then 1 else -1)) ∧ w = w' := by
  cases b with
  | true =>
    rw [if_pos rfl]
    go_enter Tryd.func62, Tryd.ntmps62
    go_wp2
    go_ret
    exact ⟨rfl, rfl⟩
  | false =>
    rw [if_neg (by decide)]
    go_enter Tryd.func62, Tryd.ntmps62
    go_wp2
    go_ret
    exact ⟨rfl, rfl⟩
theorem sign_q (b : Bool) (w : World) : Calls Tryd.prog 62 #[.bool b] w fun e w' => e = .returned (.int .i64 (if b = true then 1 else -1)) ∧ w' = w := (sign_any b w).mono fun _ _ h => ⟨h.1, h.2.symm⟩
set_option maxHeartbeats 4000000 in
theorem cmp_any (A B : Option Addr) (n c m d : Nat) (x y : List Nat) (w : World) (hA : RU w A n x) (hB : RU w B m y) (hn : n ≤ 300) (hm : m ≤ 300) :
    Calls Tryd.prog 40 #[.slice A n c, .slice B m d] w fun e w' => e = .returned (.int .i64 (cmpZ x y)) ∧ Below w.heap.size w w' := by
  have RA := Lib.hid (right_any A n c x w hA (by omega))
  have RB := Lib.hid (right_any B m d y w hB (by omega))
  have HA := Lib.hid hA
  have HB := Lib.hid hB
  cases hr : rightB x with
  | false =>
    have hz : cmpZ x y = 0 := by unfold cmpZ; rw [hr]; rfl
    rw [hz]
    rw [hr] at RA
    clear hr hA hB hz
    go_enter Tryd.func40, Tryd.ntmps40
    go_wp2_with fail
    refine RA.out.mono ?_
    rintro e w' ⟨rfl, rfl⟩
    clear RA
    go_wp2
    go_ret
    exact ⟨rfl, Below.refl _ _⟩
  | true =>
    cases hs : rightB y with
    | false =>
      have hz : cmpZ x y = 0 := by unfold cmpZ; rw [hr, hs]; rfl
      rw [hz]
      rw [hr] at RA
      rw [hs] at RB
      clear hr hs hA hB hz
      go_enter Tryd.func40, Tryd.ntmps40
      go_wp2_with fail
      refine RA.out.mono ?_
      rintro e w' ⟨rfl, rfl⟩
      clear RA
      go_wp2_with fail
      refine RB.out.mono ?_
      rintro e w' ⟨rfl, rfl⟩
      clear RB
      go_wp2
      go_ret
      exact ⟨rfl, Below.refl _ _⟩
    | true =>
      have hz : cmpZ x y = cmpV (val x) (val y) := by unfold cmpZ; rw [hr, hs]; rfl
      rw [hz]
      obtain ⟨_, tx⟩ := (rightB_iff x).1 hr
      obtain ⟨_, ty⟩ := (rightB_iff y).1 hs
      rw [hr] at RA
      rw [hs] at RB
      by_cases hnm : n = m
      · subst hnm
        have HZ := Lib.hid (show ∀ i, i < n → x.drop (i + 1) = y.drop (i + 1) → x.getD i 0 ≠ y.getD i 0 → cmpV (val x) (val y) = if x.getD i 0 > y.getD i 0 then 1 else -1 from fun i hi h1 h2 => cmp_top x y hA.lim hB.lim i (by rw [hA.len]; exact hi) (by rw [hB.len]; exact hi) h1 h2)
        have e1 : IntKind.i64.wrap ((n : Int) - 1) = (n : Int) - 1 := IntWalk.i64_in _ (by omega)
        clear hr hs hz tx ty hA hB
        go_enter Tryd.func40, Tryd.ntmps40
        go_wp2_with fail
        refine RA.out.mono ?_
        rintro e w' ⟨rfl, rfl⟩
        clear RA
        go_wp2_with fail
        refine RB.out.mono ?_
        rintro e w' ⟨rfl, rfl⟩
        clear RB
        go_wp2_with fail
        go_loopw [5] (fun vi wl => ∃ i : Nat, vi = .int .i64 ((i : Int) - 1) ∧ i ≤ n ∧ Hid (x.drop i = y.drop i ∧ Below w.heap.size w wl)) (fun vi _ => (intOf vi + 1).toNat)
        case atStart => exact ⟨n, rfl, Nat.le_refl _, by rw [List.drop_of_length_le (by rw [HA.out.len]; omega), List.drop_of_length_le (by rw [HB.out.len]; omega)], Below.refl _ _⟩
        case round =>
          obtain ⟨i, rfl, hi, HK⟩ := hrel
          rcases i with _ | j
          · have i1 : ¬ ((0 : Nat) : Int) - 1 ≥ 0 := by omega
            have HQ : Hid (cmpV (val x) (val y) = 0) := by
              have h0 := HK.out.1
              rw [List.drop_zero, List.drop_zero] at h0
              unfold Hid
              rw [h0]; exact cmp_same y
            go_wp2
            go_ret
            exact ⟨by rw [HQ.out]; rfl, HK.out.2⟩
          · have e2 : (((j + 1 : Nat) : Int) - 1) = (j : Int) := by omega
            obtain ⟨ba, oa, rfl, hba, cA⟩ := HA.out.at_ (j := j) (by omega)
            obtain ⟨bb, ob, rfl, hbb, cB⟩ := HB.out.at_ (j := j) (by omega)
            have cA' := (HK.out.2.cell (p := ⟨ba, oa + j, none⟩) hba).trans cA
            have cB' := (HK.out.2.cell (p := ⟨bb, ob + j, none⟩) hbb).trans cB
            have hq := HZ.out j (by omega) HK.out.1
            have ds := drop_step (x := x) (y := y) (i := j) (by rw [HA.out.len]; omega) (by rw [HB.out.len]; omega)
            obtain ⟨p, hp⟩ : ∃ p, x.getD j 0 = p := ⟨_, rfl⟩
            obtain ⟨q, hqq⟩ : ∃ q, y.getD j 0 = q := ⟨_, rfl⟩
            rw [hp] at cA' hq ds
            rw [hqq] at cB' hq ds
            have e3 : IntKind.i64.wrap ((j : Int) - 1) = (j : Int) - 1 := IntWalk.i64_in _ (by omega)
            have i1 : (j : Int) ≥ 0 := by omega
            have i2 : 0 ≤ (j : Int) := by omega
            have i3 : (j : Int) < (n : Int) := by omega
            rw [e2]
            clear cA cB hp hqq hba hbb e2
            by_cases hxy : p = q
            · subst hxy
              have HN : Hid (x.drop j = y.drop j ∧ Below w.heap.size w wr) := ⟨ds rfl HK.out.1, HK.out.2⟩
              have t1 : ((p : Int) != (p : Int)) = false := by simp
              clear hq ds HK
              go_wp2_with fail
              go_quiet (fail)
              go_wp2
              go_roundw
              case rel => exact ⟨j, rfl, by omega, HN.out.1, kp_drewN HN.out.2 _⟩
              case measure => simp [intOf]
            · have t1 : ((p : Int) != (q : Int)) = true := by simp; omega
              have HN : Hid (cmpV (val x) (val y) = (if decide (p > q) = true then 1 else -1) ∧ Below w.heap.size w wr) := ⟨by rw [hq hxy]; simp, HK.out.2⟩
              clear hq ds HK
              obtain ⟨bo, hbo⟩ : ∃ bo, decide (p > q) = bo := ⟨_, rfl⟩
              have t2 : decide ((q : Int) < (p : Int)) = bo := by rw [← hbo]; congr 1; apply propext; omega
              have t3 : decide (q < p) = bo := hbo
              rw [hbo] at HN
              obtain ⟨sv, hsv⟩ : ∃ sv : Int, (if bo = true then (1 : Int) else -1) = sv := ⟨_, rfl⟩
              have SG := fun w => sign_q bo w
              rw [hsv] at SG HN
              have SG := Lib.hid SG
              clear hbo hsv
              go_wp2_with fail
              go_quiet (fail)
              rename_i nq
              have cA2 : (wr.drewN nq).cell? ⟨ba, oa + j, none⟩ = some (.int .u32 (p : Int)) := cA'
              have cB2 : (wr.drewN nq).cell? ⟨bb, ob + j, none⟩ = some (.int .u32 (q : Int)) := cB'
              have HB2 : Hid (Below w.heap.size w (wr.drewN nq)) := kp_drewN HN.out.2 nq
              generalize wr.drewN nq = wq at *
              clear cA' cB'
              go_wp2_with fail
              go_quiet ((go_at_call 62; (with_reducible exact Calls.quiet_of_same (SG.out _))))
              rename_i nq2
              go_wp2
              go_ret
              exact ⟨by rw [HN.out.1]; rfl, kp_drewN HB2.out _⟩
      · have hl : cmpV (val x) (val y) = if n > m then 1 else -1 := by
          have := cmp_len x y hA.lim hB.lim tx ty (by rw [hA.len, hB.len]; exact hnm)
          rw [hA.len, hB.len] at this
          exact this
        have i1 : ((n : Int) != (m : Int)) = true := by simp; omega
        have hbo : cmpV (val x) (val y) = if decide (m < n) = true then 1 else -1 := by
          rw [hl]; simp
        obtain ⟨bo, hb⟩ : ∃ bo, decide (m < n) = bo := ⟨_, rfl⟩
        rw [hb] at hbo
        obtain ⟨sv, hsv⟩ : ∃ sv : Int, (if bo = true then (1 : Int) else -1) = sv := ⟨_, rfl⟩
        have SG := fun w => sign_any bo w
        rw [hsv] at SG hbo
        have SG := Lib.hid SG
        rw [hbo]
        clear hr hs hz tx ty hA hB hl hbo hnm hsv
        go_enter Tryd.func40, Tryd.ntmps40
        go_wp2_with fail
        refine RA.out.mono ?_
        rintro e w' ⟨rfl, rfl⟩
        clear RA
        go_wp2_with fail
        refine RB.out.mono ?_
        rintro e w' ⟨rfl, rfl⟩
        clear RB
        go_wp2_with fail
        refine (SG.out _).mono ?_
        rintro e w' ⟨rfl, rfl⟩
        go_wp2
        go_ret
        exact ⟨rfl, Below.refl _ _⟩
end Go.Proofs.YtbplchpbaonadaaDoor
