/-
  nat: Div.
-/
import Derived.Test.YtbplchpbaonadaaDoorNn
namespace Go.Proofs.YtbplchpbaonadaaDoor
open Go.RowKit Go
set_option linter.unusedVariables false
set_option linter.unusedSimpArgs false
set_option maxRecDepth 100000
def divQ (x y : List Nat) : (List Nat × List Nat) × Nat := if rightB x && rightB y && !(y.length == 0) then ((num (val x / val y), num (val x % val y)), 0) else (([], []), 1)
/-- Two numbers of the call's own and an error. -/
def NumR3 (w : World) (r : (List Nat × List Nat) × Nat) (e : Ending) (w' : World) : Prop :=
  ∃ A n c B m d, e = .returned (.tuple #[.slice A n c, .slice B m d, .int .i64 (r.2 : Int)]) ∧ NumS w' w.heap.size A n r.1.1 ∧ n ≤ c ∧ c ≤ 1000000 ∧ n ≤ 256 ∧ NumS w' w.heap.size B m r.1.2 ∧ m ≤ d ∧ d ≤ 1000000 ∧ m ≤ 256 ∧ Below w.heap.size w w'
theorem NumR3.err {w w' : World} {k : Nat} {e : Ending} (he : e = .returned (.tuple #[.slice none 0 0, .slice none 0 0, .int .i64 (k : Int)])) (hb : Below w.heap.size w w') : NumR3 w (([], []), k) e w' :=
  ⟨_, _, _, _, _, _, he, NumS.nil _ _, Nat.le_refl _, by omega, by omega, NumS.nil _ _, Nat.le_refl _, by omega, by omega, hb⟩
theorem drop_same {D E : List Nat} {m : Nat} (hl : D.length = E.length) (h : ∀ k, m ≤ k → D.getD k 0 = E.getD k 0) : D.drop m = E.drop m := by
  refine List.ext_getElem? fun i => ?_
  rw [List.getElem?_drop, List.getElem?_drop]
  rcases Nat.lt_or_ge (m + i) D.length with h1 | h1
  · rw [getD_at h1, getD_at (by omega), h _ (by omega)]
  · rw [List.getElem?_eq_none h1, List.getElem?_eq_none (by omega)]
/-- The shift that brings the highest bit to the front. -/
theorem norm_ok (y : List Nat) (ly : Lim y) (ty : Tip y) (m : Nat) (hn : y.length = m + 1) : bitsN (y.getD m 0) ≤ 32 ∧ 1 ≤ bitsN (y.getD m 0) ∧ val y * 2 ^ (32 - bitsN (y.getD m 0)) < 4294967296 ^ (m + 1) ∧ 2147483648 * 4294967296 ^ m ≤ val y * 2 ^ (32 - bitsN (y.getD m 0)) := by
  have hx : y.getD m 0 ≠ 0 := by
    rcases ty with e | e
    · rw [e] at hn; simp at hn
    · rw [hn, Nat.add_sub_cancel] at e; exact e
  have hx32 := ly.getD m
  have hb : bitsN (y.getD m 0) ≤ 32 := (bits_le _ 32).2 hx32
  have hb1 : 1 ≤ bitsN (y.getD m 0) := by unfold bitsN; rw [if_neg hx]; omega
  have h1 : y.getD m 0 < 2 ^ bitsN (y.getD m 0) := (bits_le _ _).1 (Nat.le_refl _)
  have h2 : 2 ^ (bitsN (y.getD m 0) - 1) ≤ y.getD m 0 := by
    rcases Nat.lt_or_ge (y.getD m 0) (2 ^ (bitsN (y.getD m 0) - 1)) with h | h
    · have := (bits_le _ _).2 h
      omega
    · exact h
  have hv := val_take y m (by omega)
  rw [← hn, List.take_length] at hv
  have hl := val_take_lt ly m
  generalize y.getD m 0 = a at *
  generalize bitsN a = k at *
  generalize val (y.take m) = u at *
  have e32 : 2 ^ k * 2 ^ (32 - k) = 4294967296 := by rw [← Nat.pow_add, show k + (32 - k) = 32 by omega]
  have e31 : 2 ^ (k - 1) * 2 ^ (32 - k) = 2147483648 := by rw [← Nat.pow_add, show k - 1 + (32 - k) = 31 by omega]
  refine ⟨hb, hb1, ?_, ?_⟩
  · have h3 : u + a * 4294967296 ^ m < 2 ^ k * 4294967296 ^ m := by
      have := Nat.mul_le_mul_right (4294967296 ^ m) (show a + 1 ≤ 2 ^ k from h1)
      rw [Nat.add_mul] at this
      omega
    have h4 := Nat.mul_lt_mul_of_pos_right h3 (show 0 < 2 ^ (32 - k) from Nat.pow_pos (by decide))
    rw [Nat.mul_right_comm, e32] at h4
    rw [hv, Nat.pow_succ, Nat.mul_comm (4294967296 ^ m)]
    exact h4
  · have h3 : 2 ^ (k - 1) * 4294967296 ^ m ≤ u + a * 4294967296 ^ m := by
      have := Nat.mul_le_mul_right (4294967296 ^ m) h2
      omega
    have h4 := Nat.mul_le_mul_right (2 ^ (32 - k)) h3
    rw [Nat.mul_right_comm, e31] at h4
    rw [hv]
    exact h4
/-- One digit of the quotient. -/
theorem digit_step (R D D2 : List Nat) (j n Yv : Nat) (hR : R = R.take j ++ D) (hj : (R.take j).length = j) (lD : Lim D) (lD2 : Lim D2) (hl : D2.length = D.length) (hY : Yv < 4294967296 ^ n) (hY0 : 0 < Yv) (hlt : val D < Yv * 4294967296)
    (h1 : val (D2.take (n + 1)) = val (D.take (n + 1)) % Yv) (h2 : ∀ k, n + 1 ≤ k → D2.getD k 0 = D.getD k 0) :
    val (D.take (n + 1)) = val D ∧ val D2 = val D % Yv ∧ val (R.take j ++ D2) + val D / Yv * 4294967296 ^ j * Yv = val R := by
  have hDl : val D < 4294967296 ^ (n + 1) := by
    rw [Nat.pow_succ]
    exact Nat.lt_of_lt_of_le hlt (Nat.mul_le_mul_right _ (Nat.le_of_lt hY))
  have e1 : val (D.take (n + 1)) = val D := by rw [take_digit lD, Nat.mod_eq_of_lt hDl]
  have e2 : val D2 = val D % Yv := by
    have h3 := val_append (D2.take (n + 1)) (D2.drop (n + 1))
    rw [List.take_append_drop, drop_same hl h2, drop_digit lD, Nat.div_eq_of_lt hDl, Nat.mul_zero, Nat.add_zero, h1, e1] at h3
    exact h3
  refine ⟨e1, e2, ?_⟩
  have h4 := congrArg val hR
  rw [val_append, hj] at h4
  rw [val_append, hj, h4, e2]
  obtain ⟨_, _, f3⟩ := div_facts (val D) Yv hY0
  have h5 : 4294967296 ^ j * val D = 4294967296 ^ j * (val D / Yv * Yv + val D % Yv) := by rw [f3]
  rw [h5, Nat.mul_add, Nat.mul_comm (val D / Yv) (4294967296 ^ j), Nat.mul_assoc]
  omega
structure DI (w : World) (G K Qb n2 lq Yv X : Nat) (Y : List Nat) (i : Nat) (R Q : List Nat) (wl : World) : Prop where
  r : BlkU wl G R
  rl : R.length = n2
  rm : Lim R
  q : BlkU wl Qb Q
  ql : Q.length = lq
  qm : Lim Q
  low : ∀ k, k < i → Q.getD k 0 = 0
  eq : val R + val Q * Yv = X
  lt : val (R.drop i) < Yv
  y : BlkU wl K Y
  bel : Below w.heap.size w wl
theorem DI.next {w wl w4 w5 : World} {G K Qb n2 lq Yv X : Nat} {Y : List Nat} {j m : Nat} {R Q D2 : List Nat} (h : DI w G K Qb n2 lq Yv X Y (j + 1) R Q wl) (hj : j < lq) (hjn : j + (m + 1) ≤ n2) (hY : Yv < 4294967296 ^ m) (hY0 : 0 < Yv)
    (lD2 : Lim D2) (hl : D2.length = (R.drop j).length) (h1 : val (D2.take (m + 1)) = val ((R.drop j).take (m + 1)) % Yv) (h2 : ∀ k, m + 1 ≤ k → D2.getD k 0 = (R.drop j).getD k 0)
    (hg : wl.grownBy w4 (some G)) (hb : BlkU w4 G (R.take j ++ D2)) (hw : w.heap.size ≤ G) (hGK : G ≠ K) (hGQ : G ≠ Qb) (hKQ : K ≠ Qb) (hwQ : w.heap.size ≤ Qb)
    (dg : Nat) (hdg : val ((R.drop j).take (m + 1)) / Yv = dg) (hw5 : w5 = w4.setCell ⟨Qb, j, none⟩ (.int .u32 (dg : Int))) :
    DI w G K Qb n2 lq Yv X Y j (R.take j ++ D2) (Q.set j dg) w5 ∧ dg < 4294967296 := by
  have hjl : (R.take j).length = j := by rw [List.length_take, h.rl]; omega
  have hRe : R = R.take j ++ R.drop j := (List.take_append_drop j R).symm
  have lD := h.rm.drop j
  have hlt : val (R.drop j) < Yv * 4294967296 := by
    have e : R.drop j = R.getD j 0 :: R.drop (j + 1) := by
      rw [List.drop_eq_getElem_cons (by rw [h.rl]; omega), List.getD_eq_getElem?_getD, List.getElem?_eq_getElem (by rw [h.rl]; omega)]; rfl
    rw [e, val]
    have := h.rm.getD j
    have := h.lt
    omega
  obtain ⟨s1, s2, s3⟩ := digit_step R (R.drop j) D2 j m Yv hRe hjl lD lD2 hl hY hY0 hlt h1 h2
  rw [s1] at hdg
  have hd32 : dg < 4294967296 := by rw [← hdg]; exact Nat.div_lt_of_lt_mul hlt
  rw [hdg] at s3
  have hvs := val_set Q j dg (by rw [h.ql]; exact hj)
  rw [h.low j (by omega), Nat.zero_mul, Nat.add_zero] at hvs
  refine ⟨⟨?_, ?_, ?_, ?_, ?_, h.qm.set j hd32, ?_, ?_, ?_, ?_, ?_⟩, hd32⟩
  · rw [hw5]; exact hb.far hGQ
  · rw [List.length_append, hjl, hl, List.length_drop, h.rl]; omega
  · exact (h.rm.take j).append lD2
  · rw [hw5]; exact (h.q.grown hg (fun e => hGQ e.symm)).set j dg
  · rw [List.length_set, h.ql]
  · intro k hk
    rw [getD_set_far _ _ _ _ (by omega)]
    exact h.low k (by omega)
  · rw [hvs, Nat.add_mul, ← Nat.add_assoc, Nat.add_right_comm, s3]
    exact h.eq
  · rw [List.drop_append_of_le_length (by omega), List.drop_of_length_le (by omega), List.nil_append, s2]
    exact Nat.mod_lt _ hY0
  · rw [hw5]; exact (h.y.grown hg (fun e => hGK e.symm)).far hKQ
  · rw [hw5]; exact kp_set (h.bel.grown hg h.bel.size (fun k e => by injection e with e; omega)) hwQ
set_option maxHeartbeats 16000000 in
theorem div_any (A B : Option Addr) (n c m d : Nat) (x y : List Nat) (w : World) (hA : RU w A n x) (hB : RU w B m y) (hn : n ≤ 300) (hm : m ≤ 300) :
    Calls Tryd.prog 41 #[.slice A n c, .slice B m d] w (NumR3 w (divQ x y)) := by
  have RA := Lib.hid (right_any A n c x w hA (by omega))
  have RB := Lib.hid (right_any B m d y w hB (by omega))
  have HA := Lib.hid hA
  have HB := Lib.hid hB
  cases hr : rightB x with
  | false =>
    rw [show divQ x y = (([], []), 1) by unfold divQ; rw [hr]; rfl]
    rw [hr] at RA
    clear hr hA hB
    go_enter Tryd.func41, Tryd.ntmps41
    go_wp2_with fail
    refine RA.out.mono ?_
    rintro e w' ⟨rfl, rfl⟩
    clear RA
    go_wp2
    go_ret3
    exact NumR3.err rfl (Below.refl _ _)
  | true =>
    cases hs : rightB y with
    | false =>
      rw [show divQ x y = (([], []), 1) by unfold divQ; rw [hr, hs]; rfl]
      rw [hr] at RA
      rw [hs] at RB
      clear hr hs hA hB
      go_enter Tryd.func41, Tryd.ntmps41
      go_wp2_with fail
      refine RA.out.mono ?_
      rintro e w' ⟨rfl, rfl⟩
      clear RA
      go_wp2_with fail
      refine RB.out.mono ?_
      rintro e w' ⟨rfl, rfl⟩
      clear RB
      go_wp2
      go_ret3
      exact NumR3.err rfl (Below.refl _ _)
    | true =>
      by_cases hm0 : m = 0
      · rw [show divQ x y = (([], []), 1) by unfold divQ; rw [hr, hs, hB.len, hm0]; rfl]
        rw [hr] at RA
        rw [hs] at RB
        have i1 : ((m : Int) == 0) = true := by simp; omega
        have HM := Lib.hid hm0
        clear hr hs hA hB hm0
        go_enter Tryd.func41, Tryd.ntmps41
        go_wp2_with fail
        refine RA.out.mono ?_
        rintro e w' ⟨rfl, rfl⟩
        clear RA
        go_wp2_with fail
        refine RB.out.mono ?_
        rintro e w' ⟨rfl, rfl⟩
        clear RB
        go_wp2
        go_ret3
        exact NumR3.err rfl (Below.refl _ _)
      · rw [show divQ x y = ((num (val x / val y), num (val x % val y)), 0) by unfold divQ; rw [hr, hs, hB.len, show (m == 0) = false by simp; omega]; rfl]
        obtain ⟨rx, tx⟩ := (rightB_iff x).1 hr
        obtain ⟨ry, ty⟩ := (rightB_iff y).1 hs
        obtain ⟨m1, hm1⟩ : ∃ m1, m = m1 + 1 := ⟨m - 1, by omega⟩
        obtain ⟨nb1, nb2, nb3, nb4⟩ := norm_ok y hB.lim ty m1 (by rw [hB.len]; exact hm1)
        have hyp := tip_pos y ty (by intro e; have := hB.len; rw [e] at this; simp at this; omega)
        rw [hB.len, hm1, Nat.add_sub_cancel] at hyp
        have hxl := val_lt x hA.lim
        rw [hA.len] at hxl rx
        rw [hB.len] at ry
        obtain ⟨by_, oy, hBe, hby, cy⟩ := hB.at_ (j := m1) (by omega)
        subst hBe
        have htop := hB.lim.getD m1
        obtain ⟨tp, htp⟩ : ∃ tp, y.getD m1 0 = tp := ⟨_, rfl⟩
        rw [htp] at cy htop nb1 nb2 nb3 nb4
        have LZ := Lib.hid (lead32_any tp htop w)
        obtain ⟨s, hs2⟩ : ∃ s, 32 - bitsN tp = s := ⟨_, rfl⟩
        rw [hs2] at LZ nb3 nb4
        have hs31 : s ≤ 31 := by omega
        obtain ⟨S, hS⟩ : ∃ S, 2 ^ s = S := ⟨_, rfl⟩
        have HSS := Lib.hid hS
        have hS0 : 0 < S := by rw [← hS]; exact Nat.pow_pos (by decide)
        have L1 := left_any A n c s x w hA (by omega) hs31
        have L2 := fun W (hW : Below w.heap.size w W) => left_any (some ⟨by_, oy, none⟩) m d s y W (HB.out.below hW) (by omega) hs31
        rw [hS] at L1 L2 nb3 nb4
        have L1 := Lib.hid L1
        have L2 := Lib.hid L2
        have HY := Lib.hid (show _ ∧ _ ∧ _ ∧ _ from ⟨nb3, nb4, hyp, hxl⟩)
        have e1 : IntKind.i64.wrap ((m : Int) - 1) = (m1 : Int) := by rw [show (m : Int) - 1 = m1 by omega]; exact IntWalk.i64_in _ (by omega)
        have i1 : ((m : Int) == 0) = false := by simp; omega
        have i2 : (0 : Int) ≤ (m1 : Int) := by omega
        have i3 : (m1 : Int) < (m : Int) := by omega
        have i4 : (m : Int) ≤ ((m + 1 : Nat) : Int) := by omega
        have i5 : (0 : Int) ≤ (m : Int) := by omega
        obtain ⟨lq, hlq⟩ : ∃ lq, n + 1 - m = lq := ⟨_, rfl⟩
        have e2 : IntKind.i64.wrap ((n : Int) - (m : Int)) = (n : Int) - (m : Int) := IntWalk.i64_in _ (by omega)
        have e3 : IntKind.i64.wrap ((n : Int) - (m : Int) + 1) = (n : Int) - (m : Int) + 1 := IntWalk.i64_in _ (by omega)
        have e4 : max ((n : Int) - (m : Int) + 1) 0 = (lq : Int) := by omega
        have e5 : IntKind.i64.wrap ((lq : Int) - 1) = (lq : Int) - 1 := IntWalk.i64_in _ (by omega)
        have HM := Lib.hid (show _ ∧ _ ∧ _ ∧ _ from ⟨hm1, htp, hs2, hlq⟩)
        have hlq2 : lq ≤ 301 := by omega
        rw [hr] at RA
        rw [hs] at RB
        obtain ⟨m2, hm2⟩ : ∃ m2, m + 1 = m2 := ⟨_, rfl⟩
        rw [hm2] at L2 i4
        have HM2 := Lib.hid hm2
        obtain ⟨n2, hn2⟩ : ∃ n2, n + 1 = n2 := ⟨_, rfl⟩
        rw [hn2] at L1
        have HN2 := Lib.hid hn2
        clear hr hs hA hB hm0 hm1 htp hs2 hS tx ty nb1 nb2 nb3 nb4 hyp hxl hlq hm2 hn2
        go_enter Tryd.func41, Tryd.ntmps41
        go_wp2_with fail
        refine RA.out.mono ?_
        rintro e w' ⟨rfl, rfl⟩
        clear RA
        go_wp2_with fail
        refine RB.out.mono ?_
        rintro e w' ⟨rfl, rfl⟩
        clear RB
        go_wp2_with fail
        refine LZ.out.mono ?_
        rintro e w' ⟨rfl, rfl⟩
        clear LZ cy
        go_wp2_with fail
        refine L1.out.mono ?_
        rintro e w1 ⟨R0, rfl, b1, l1, r1, v1, hb1⟩
        clear L1
        go_wp2_with fail
        refine (L2.out w1 hb1).mono ?_
        rintro e w2 ⟨Y, rfl, b2, l2, r2, v2, hb2⟩
        clear L2
        obtain ⟨G, hG⟩ : ∃ G, w.heap.size = G := ⟨_, rfl⟩
        obtain ⟨K, hK⟩ : ∃ K, w1.heap.size = K := ⟨_, rfl⟩
        have hGK : G < K := by have := b1.lt; omega
        rw [hG] at b1
        rw [hK] at b2
        rw [hG, hK]
        have HP : Hid (BlkU w2 G R0 ∧ BlkU w2 K Y ∧ Below w.heap.size w w2) := ⟨b1.below' hb2 (by omega), b2, kp_call hb1 hb2⟩
        have HR0 := Lib.hid (show _ ∧ _ ∧ _ from ⟨l1, r1, v1⟩)
        have HYY := Lib.hid (show _ ∧ _ ∧ _ from ⟨l2, r2, v2⟩)
        have hGs : w.heap.size ≤ G := by omega
        clear b1 b2 hb1 hb2 l1 r1 v1 l2 r2 v2 hG hK
        go_wp2_with (refine wpList_mkU _ _ rfl rfl _ _ _ _ lq rfl rfl rfl rfl (by omega) ?_)
        intro w3 hblk hb3
        obtain ⟨Qb, hQ⟩ : ∃ Qb, w2.heap.size = Qb := ⟨_, rfl⟩
        have hKQ : K < Qb := by have := HP.out.2.1.lt; omega
        rw [hQ] at hblk ⊢
        have H3 : Hid (BlkU w3 G R0 ∧ BlkU w3 K Y ∧ BlkU w3 Qb (List.replicate lq 0) ∧ Below w.heap.size w w3) := ⟨HP.out.1.below' hb3 (by omega), HP.out.2.1.below' hb3 (by omega), hblk, kp_call HP.out.2.2 hb3⟩
        clear hblk hb3 hQ HP
        go_wp2_with fail
        obtain ⟨yn1, yn2, yn3, yn4⟩ := HY.out
        have hm1 := HM.out.1
        have hlq9 := HM.out.2.2.2
        have hm29 := HM2.out
        have hn29 := HN2.out
        have hvY : val (Y.take m) = val y * S := by
          rw [take_digit HYY.out.2.1, HYY.out.2.2, Nat.mod_eq_of_lt (by rw [hm1]; exact yn1)]
        have htopY : 2147483648 ≤ Y.getD m1 0 := by
          rw [val_digit Y HYY.out.2.1, HYY.out.2.2]
          have h1 : 2147483648 ≤ val y * S / 4294967296 ^ m1 := (Nat.le_div_iff_mul_le (Nat.pow_pos (by decide))).2 yn2
          have h2 : val y * S / 4294967296 ^ m1 < 4294967296 := Nat.div_lt_of_lt_mul (by rw [Nat.pow_succ] at yn1; exact yn1)
          rw [Nat.mod_eq_of_lt h2]
          exact h1
        have hy0 : 0 < val y := Nat.lt_of_lt_of_le (Nat.pow_pos (by decide)) yn3
        obtain ⟨Yv, hYv⟩ : ∃ Yv, val y * S = Yv := ⟨_, rfl⟩
        have hYv0 : 0 < Yv := by rw [← hYv]; exact Nat.mul_pos hy0 hS0
        have hYvl : Yv < 4294967296 ^ m := by rw [← hYv, hm1]; exact yn1
        rw [hYv] at hvY
        have hstart : val (R0.drop lq) < Yv := by
          rw [drop_digit HR0.out.2.1, HR0.out.2.2, ← hYv, Nat.div_lt_iff_lt_mul (Nat.pow_pos (by decide)), Nat.mul_right_comm]
          refine Nat.mul_lt_mul_of_pos_right ?_ hS0
          refine Nat.lt_of_lt_of_le yn4 ?_
          refine Nat.le_trans (Nat.pow_le_pow_right (by decide) (show n ≤ m1 + lq by omega)) ?_
          rw [Nat.pow_add]
          exact Nat.mul_le_mul_right _ yn3
        have H4 : Hid (DI w G K Qb n2 lq Yv (val x * S) Y lq R0 (List.replicate lq 0) w3) :=
          ⟨H3.out.1, HR0.out.1, HR0.out.2.1, H3.out.2.2.1, by simp, Lim.rep lq, fun k hk => by rw [List.getD_eq_getElem?_getD, List.getElem?_replicate]; split <;> rfl, by rw [val_zero, Nat.zero_mul, Nat.add_zero]; exact HR0.out.2.2, hstart, H3.out.2.1, H3.out.2.2.2⟩
        have HYV := Lib.hid (show _ ∧ _ ∧ _ ∧ _ from ⟨hYv, hvY, htopY, hYvl⟩)
        have HGKQ := Lib.hid (And.intro hGK hKQ)
        clear H3 hstart hvY htopY hYv hYvl yn1 yn2 yn3 yn4 hm1 hlq9 hm29 hn29 hy0 e1 e2 e3 e4
        go_loopw [11] (fun vi wl => ∃ (i : Nat) (R Q : List Nat), vi = .int .i64 ((i : Int) - 1) ∧ i ≤ lq ∧ Hid (DI w G K Qb n2 lq Yv (val x * S) Y i R Q wl)) (fun vi _ => (intOf vi + 1).toNat)
        case atStart => exact ⟨lq, R0, _, rfl, Nat.le_refl _, H4⟩
        case round =>
          obtain ⟨i, R, Q, rfl, hi, HK⟩ := hrel
          clear H4
          rcases i with _ | j
          · as_aux_lemma =>
            have i1 : ¬ ((0 : Nat) : Int) - 1 ≥ 0 := by omega
            have hlt := HK.out.lt
            rw [List.drop_zero] at hlt
            have heq := HK.out.eq
            have hS1 := HYV.out.1
            have hvQ : val Q = val x / val y := by
              have h1 : (val R + val Q * Yv) / Yv = val Q := by rw [Nat.add_mul_div_right _ _ hYv0, Nat.div_eq_of_lt hlt, Nat.zero_add]
              rw [heq, ← hS1, Nat.mul_div_mul_right _ _ hS0] at h1
              exact h1.symm
            have hvR : val R / S = val x % val y := by
              have h1 : (val R + val Q * Yv) % Yv = val R := by rw [Nat.add_mul_mod_self_right, Nat.mod_eq_of_lt hlt]
              rw [heq, ← hS1, Nat.mul_mod_mul_right] at h1
              rw [← h1, Nat.mul_div_cancel _ hS0]
            have TQ := trim_any Qb lq Q wr HK.out.q HK.out.ql (by omega)
            obtain ⟨t1, t2⟩ := trim_blk (base := 0) HK.out.q HK.out.ql HK.out.qm
            have tle := trimN_le Q lq
            rw [t1] at TQ tle
            rw [hvQ] at TQ t2 tle
            have SR := shr_any (some ⟨G, 0, none⟩) n2 n2 s R wr (by have := HK.out.r.ru HK.out.rm 0 n2 (by rw [HK.out.rl]; omega); rw [List.drop_zero, take_all (by rw [HK.out.rl]; omega)] at this; exact this) (by have := HN2.out; omega) hs31
            rw [HSS.out] at SR
            rw [hvR] at SR
            obtain ⟨k1, hk1⟩ : ∃ k1, (num (val x / val y)).length = k1 := ⟨_, rfl⟩
            rw [hk1] at TQ t2 tle
            have TQ := Lib.hid TQ
            have SR := Lib.hid SR
            have HQ : Hid (NumS wr w.heap.size (some ⟨Qb, 0, none⟩) k1 (num (val x / val y)) ∧ Below w.heap.size w wr) := ⟨NumS.of HK.out.q (by have := HGKQ.out; omega) HK.out.qm (by rw [HK.out.ql]; exact tle) t2, HK.out.bel⟩
            have hk256 : k1 ≤ 256 := by
              rw [← hk1, num_len]
              refine Nat.lt_of_le_of_lt (Nat.div_le_self _ _) ?_
              exact Nat.lt_of_lt_of_le HY.out.2.2.2 (Nat.pow_le_pow_right (by decide) rx)
            have hr256 : (num (val x % val y)).length ≤ 256 := by
              rw [num_len]
              refine Nat.lt_of_le_of_lt (Nat.mod_le _ _) ?_
              exact Nat.lt_of_lt_of_le HY.out.2.2.2 (Nat.pow_le_pow_right (by decide) rx)
            have hn2b : n2 ≤ 301 := by have := HN2.out; omega
            have HKK := Lib.hid hk1
            clear hlt heq hS1 hvQ hvR t1 t2 hk1 HK
            go_wp2_with fail
            refine TQ.out.mono ?_
            rintro e w' ⟨rfl, rfl⟩
            clear TQ
            go_wp2_with fail
            refine SR.out.mono ?_
            rintro e w9 ⟨Z, rfl, z1, z2, z3, z4, z5⟩
            obtain ⟨ZB, hZB⟩ : ∃ ZB, wr.heap.size = ZB := ⟨_, rfl⟩
            have hZs : w.heap.size ≤ ZB := by have := HQ.out.2.size; omega
            rw [hZB] at z1
            rw [hZB]
            have TZ := trim_any ZB n2 Z w9 z1 z2 (by omega)
            obtain ⟨t1, t2⟩ := trim_blk (base := 0) z1 z2 z3
            have tle2 := trimN_le Z n2
            rw [t1] at TZ tle2
            rw [z4] at TZ t2 tle2
            obtain ⟨k2, hk2⟩ : ∃ k2, (num (val x % val y)).length = k2 := ⟨_, rfl⟩
            rw [hk2] at TZ t2 tle2 hr256
            have TZ := Lib.hid TZ
            have HF : Hid (NumS w9 w.heap.size (some ⟨Qb, 0, none⟩) k1 (num (val x / val y)) ∧ NumS w9 w.heap.size (some ⟨ZB, 0, none⟩) k2 (num (val x % val y)) ∧ Below w.heap.size w w9) :=
              ⟨HQ.out.1.below z5, NumS.of z1 hZs z3 (by rw [z2]; exact tle2) t2, kp_call HQ.out.2 z5⟩
            have HKK2 := Lib.hid hk2
            clear z1 z2 z3 z4 z5 t1 t2 hk2 SR HQ hZB
            go_wp2_with fail
            refine TZ.out.mono ?_
            rintro e w' ⟨rfl, rfl⟩
            clear TZ
            go_wp2
            go_ret3
            exact ⟨_, k1, k1, _, k2, k2, rfl, HF.out.1, Nat.le_refl _, by omega, by omega, HF.out.2.1, Nat.le_refl _, by omega, by omega, HF.out.2.2⟩
          · as_aux_lemma =>
            have e9 : (((j + 1 : Nat) : Int) - 1) = (j : Int) := by omega
            rw [e9]
            have i1 : (j : Int) ≥ 0 := by omega
            have i6 : (0 : Int) ≤ (j : Int) := by omega
            obtain ⟨s1, hs1⟩ : ∃ s1, j + m = s1 := ⟨_, rfl⟩
            have e4 : IntKind.i64.wrap ((j : Int) + (m : Int)) = (s1 : Int) := by rw [show (j : Int) + m = s1 by omega]; exact IntWalk.i64_in _ (by omega)
            obtain ⟨s2, hs2⟩ : ∃ s2, s1 + 1 = s2 := ⟨_, rfl⟩
            have e7 : IntKind.i64.wrap ((s1 : Int) + 1) = (s2 : Int) := by rw [show (s1 : Int) + 1 = s2 by omega]; exact IntWalk.i64_in _ (by omega)
            have hm29 := HM2.out
            have hn29 := HN2.out
            have hlq9 := HM.out.2.2.2
            have j1 : (j : Int) ≤ (s2 : Int) := by omega
            have j2 : (s2 : Int) ≤ (n2 : Int) := by omega
            have j3 : j ≤ s2 := by omega
            have j4 : ¬ s2 = j := by omega
            have j5 : s2 - j = m2 := by omega
            have j6 : (j : Int) < (lq : Int) := by omega
            have j7 : j + (m + 1) ≤ n2 := by omega
            have e8 : IntKind.i64.wrap ((j : Int) - 1) = (j : Int) - 1 := IntWalk.i64_in _ (by omega)
            have hjl : (R.take j).length = j := by rw [List.length_take, HK.out.rl]; omega
            have hdl : (R.drop j).length = n2 - j := by rw [List.length_drop, HK.out.rl]
            have hGK := HGKQ.out.1
            have hKQ := HGKQ.out.2
            have hlt2 : val ((R.drop j).take (m + 1)) < val (Y.take m) * 4294967296 := by
              have hlt9 := HK.out.lt
              have e : R.drop j = R.getD j 0 :: R.drop (j + 1) := by
                rw [List.drop_eq_getElem_cons (by rw [HK.out.rl]; omega), List.getD_eq_getElem?_getD, List.getElem?_eq_getElem (by rw [HK.out.rl]; omega)]; rfl
              rw [HYV.out.2.1, take_digit (HK.out.rm.drop j)]
              refine Nat.lt_of_le_of_lt (Nat.mod_le _ _) ?_
              rw [e, val]
              have := HK.out.rm.getD j
              omega
            have DV := divide_any G K (R.take j) (R.drop j) Y j m m2 m m1 wr hjl (by rw [List.take_append_drop]; exact HK.out.r) HK.out.y (by omega) HM.out.1 (by omega) (by rw [HYY.out.1]; omega) (by rw [hdl]; omega) (HK.out.rm.drop j) HYY.out.2.1 HYV.out.2.2.1 hlt2 (by omega)
            rw [HYV.out.2.1] at DV
            have DV := Lib.hid DV
            have HJ := Lib.hid (show _ ∧ _ ∧ _ ∧ _ from ⟨hs1, hs2, hjl, hdl⟩)
            clear hs1 hs2 hjl hdl hlt2 hm29 hn29 hlq9 e9
            go_wp2_with fail
            refine DV.out.mono ?_
            rintro e w4 ⟨D2, rfl, g1, g2, g3, g4, g5, g6⟩
            obtain ⟨dg, hdg⟩ : ∃ dg, val ((R.drop j).take (m + 1)) / Yv = dg := ⟨_, rfl⟩
            obtain ⟨hnx, hdg32⟩ := HK.out.next (m := m) (D2 := D2) (w4 := w4) (by omega) j7 HYV.out.2.2.2 hYv0 g3 g2 g4 g5 g6 g1 hGs (by omega) (by omega) (by omega) (by omega) dg hdg rfl
            have q9 := HK.out.q.grown g6 (by omega)
            have c1 := q9.cell (j := j) (by rw [HK.out.ql]; omega)
            have c2 := q9.free j
            rw [hdg]
            have HN := Lib.hid hnx
            clear hnx g1 g2 g3 g4 g5 g6 q9 DV HK hdg
            go_wp2
            go_roundw
            case rel => exact ⟨j, _, _, rfl, by omega, HN⟩
            case measure => simp [intOf]
end Go.Proofs.YtbplchpbaonadaaDoor
