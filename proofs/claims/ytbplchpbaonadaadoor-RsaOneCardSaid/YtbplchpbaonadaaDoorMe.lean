/-
  mont: New.
-/
import Derived.Test.YtbplchpbaonadaaDoorMd
import Derived.Test.YtbplchpbaonadaaDoorStep
namespace Go.Proofs.YtbplchpbaonadaaDoor
open Go.RowKit Go
set_option linter.unusedVariables false
set_option linter.unusedSimpArgs false
set_option maxRecDepth 100000
/-- May a list be a modulus? -/
def mayB (ms : List Nat) : Bool := rightB ms && !(ms.length == 0) && decide (ms.length ≤ 128) && !(ms.getD 0 0 % 2 == 0) && decide (3 ≤ val ms)
/-- A modulus that a call made: all of it in memory of the call's own. -/
structure MDO (w : World) (base g m : Nat) : Prop where
  ex : ∃ (M : Option Addr) (n c : Nat) (Q : Option Addr) (k d : Nat), n = limbsN m ∧ base ≤ g ∧ w.heap[g]? = some (.cells #[.slice M n c, .int .u32 ((negQ (m % 4294967296) : Nat) : Int), .slice Q k d] 71) ∧ OwnR w base 59 1 M n c ((num m).map v32) ∧ NumS w base Q k (num (4294967296 ^ n * 4294967296 ^ n % m)) ∧ k ≤ n
  is : IsMod m
theorem MDO.md {w : World} {base g m : Nat} (h : MDO w base g m) : MD w g m := by
  obtain ⟨⟨M, n, c, Q, k, d, hn, hg, h1, h2, h3, h4⟩, hi⟩ := h
  have hc := h2.cap
  exact ⟨⟨M, n, c, Q, k, d, hn, h1, ru_of_own h2 (num_lim _), hc.1, by have := hc.2; unfold maxLen at this; omega, h3.ru, h4⟩, hi⟩
/-- What New answers. -/
def NewPost (w : World) (ms : List Nat) (e : Ending) (w' : World) : Prop :=
  Below w.heap.size w w' ∧ (match mayB ms with
    | true => ∃ g, e = .returned (.tuple #[.pointer (some ⟨g, 0, none⟩), .int .i64 0]) ∧ w.heap.size ≤ g ∧ MDO w' w.heap.size g (val ms)
    | false => e = .returned (.tuple #[.pointer none, .int .i64 1]))
theorem may_is {ms : List Nat} (lm : Lim ms) (h : mayB ms = true) : rightB ms = true ∧ 0 < ms.length ∧ ms.length ≤ 128 ∧ ms.getD 0 0 % 2 = 1 ∧ 3 ≤ val ms ∧ num (val ms) = ms ∧ IsMod (val ms) ∧ limbsN (val ms) = ms.length ∧ ms.getD 0 0 = val ms % 4294967296 := by
  unfold mayB at h
  simp only [Bool.and_eq_true, decide_eq_true_iff, Bool.not_eq_true'] at h
  obtain ⟨⟨⟨⟨h1, h2⟩, h3⟩, h4⟩, h5⟩ := h
  have hn := right_num lm h1
  have h2 : 0 < ms.length := by
    rcases Nat.eq_zero_or_pos ms.length with h | h
    · rw [h] at h2; cases h2
    · exact h
  have h4 : ms.getD 0 0 % 2 = 1 := by
    have : ¬ ms.getD 0 0 % 2 = 0 := fun e => by rw [e] at h4; cases h4
    omega
  have hd := val_digit ms lm 0
  rw [Nat.pow_zero, Nat.div_one] at hd
  have hl : limbsN (val ms) = ms.length := by unfold limbsN; rw [hn]
  exact ⟨h1, h2, h3, h4, h5, hn, ⟨by rw [hd, Nat.mod_mod_of_dvd _ (show 2 ∣ 4294967296 by decide)] at h4; exact h4, h5, by rw [hl]; exact h3⟩, hl, hd⟩
theorem may_of {ms : List Nat} (h1 : rightB ms = true) (h2 : 0 < ms.length) (h3 : ms.length ≤ 128) (h4 : ms.getD 0 0 % 2 = 1) (h5 : 3 ≤ val ms) : mayB ms = true := by
  unfold mayB
  rw [h1, h4, show (ms.length == 0) = false by rw [beq_eq_false_iff_ne]; omega, decide_eq_true h3, decide_eq_true h5]
  rfl
theorem cmp_three (ms : List Nat) (hr : rightB ms = true) : cmpZ ms [3] = cmpV (val ms) 3 := by
  unfold cmpZ
  rw [hr, show rightB [3] = true by decide]
  rfl
set_option maxHeartbeats 8000000 in
theorem new_err (A : Option Addr) (n c : Nat) (ms : List Nat) (w : World) (hA : RU w A n ms) (hn : n ≤ 1000) (hm : mayB ms = false) :
    Calls Tryd.prog 24 #[.slice A n c] w (NewPost w ms) := by
  have hP : ∀ w', Below w.heap.size w w' → NewPost w ms (.returned (.tuple #[.pointer none, .int .i64 1])) w' := fun w' hb => ⟨hb, by rw [hm]⟩
  have R := right_any A n c ms w hA (by omega)
  have hl := hA.len
  have HP := Lib.hid hP
  clear hP
  cases hr : rightB ms with
  | false =>
    rw [hr] at R
    have R := Lib.hid R
    clear hr hA hm hl
    go_enter Tryd.func24, Tryd.ntmps24
    go_wp2_with fail
    refine R.out.mono ?_
    rintro e w' ⟨rfl, rfl⟩
    clear R
    go_wp2
    go_ret2
    exact HP.out _ (Below.refl _ _)
  | true =>
    rw [hr] at R
    have R := Lib.hid R
    by_cases h0 : n = 0
    · subst h0
      clear hr hA hm hl
      go_enter Tryd.func24, Tryd.ntmps24
      go_wp2_with fail
      refine R.out.mono ?_
      rintro e w' ⟨rfl, rfl⟩
      clear R
      go_wp2
      go_ret2
      exact HP.out _ (Below.refl _ _)
    · have t0 : ((n : Int) == 0) = false := by simp; omega
      by_cases h1 : 128 < n
      · have t1 : (n : Int) > 128 := by omega
        clear hr hA hm hl h0 h1
        go_enter Tryd.func24, Tryd.ntmps24
        go_wp2_with fail
        refine R.out.mono ?_
        rintro e w' ⟨rfl, rfl⟩
        clear R
        go_wp2
        go_ret2
        exact HP.out _ (Below.refl _ _)
      · have t1 : ¬ (n : Int) > 128 := by omega
        have t2 : (0 : Int) < (n : Int) := by omega
        have t3 : 0 < n := by omega
        obtain ⟨b, off, rfl, hb, c0⟩ := hA.at_ (j := 0) (by omega)
        rw [Nat.add_zero] at c0
        obtain ⟨v, hv⟩ : ∃ v, ms.getD 0 0 = v := ⟨_, rfl⟩
        rw [hv] at c0
        have HV := Lib.hid hv
        by_cases h2 : v % 2 = 0
        · have m1 : (v : Int) % 2 = 0 := by omega
          have m2 : (v : Int).tmod 2 = 0 := by rw [Int.tmod_eq_emod_of_nonneg (by omega)]; omega
          clear hr hA hm hl h0 h1 hv h2
          go_enter Tryd.func24, Tryd.ntmps24
          go_wp2_with fail
          refine R.out.mono ?_
          rintro e w' ⟨rfl, rfl⟩
          clear R
          go_wp2
          go_ret2
          exact HP.out _ (Below.refl _ _)
        · have m1 : (v : Int) % 2 = 1 := by omega
          have m2 : (v : Int).tmod 2 = 1 := by rw [Int.tmod_eq_emod_of_nonneg (by omega)]; omega
          have h5 : val ms < 3 := by
            rcases Nat.lt_or_ge (val ms) 3 with h | h
            · exact h
            · rw [may_of hr (by omega) (by omega) (by omega) h] at hm; cases hm
          have hz : cmpZ ms [3] = -1 := by rw [cmp_three ms hr]; unfold cmpV; rw [if_pos h5]
          have CM : Hid (∀ W G, Below w.heap.size w W → BlkU W G [3] → Calls Tryd.prog 40 #[.slice (some ⟨b, off, none⟩) n c, .slice (some ⟨G, 0, none⟩) 1 1] W fun e w' => e = .returned (.int .i64 (-1)) ∧ Below W.heap.size W w') := fun W G h1 h2 => by
            have h3 := cmp_any (some ⟨b, off, none⟩) (some ⟨G, 0, none⟩) n c 1 1 ms [3] W (hA.below h1) (h2.ru (Lim.cons (by decide) Lim.nil) 0 1 (by simp)) (by omega) (by omega)
            rw [hz] at h3
            exact h3
          have B1 : Hid (Below w.heap.size w (w.alloc (.cells #[.int .u32 3] 59))) := kp_alloc (Below.refl _ _) _
          have K1 : Hid (BlkU (w.alloc (.cells #[.int .u32 3] 59)) w.heap.size [3]) := has_new _ _
          clear hr hA hm hl h0 h1 hv h2 h5 hz
          go_enter Tryd.func24, Tryd.ntmps24
          go_wp2_with fail
          refine R.out.mono ?_
          rintro e w' ⟨rfl, rfl⟩
          clear R
          go_wp2_with fail
          (with_reducible refine (CM.out _ _ B1.out K1.out).mono ?_)
          rintro e w1 ⟨rfl, hb1⟩
          have HB := Lib.hid (kp_call B1.out hb1)
          clear hb1 CM B1 K1
          go_wp2
          go_ret2
          exact HP.out _ HB.out
theorem one_high (n : Nat) : val ((List.replicate (n + 1) 0).set n 1) = 4294967296 ^ n ∧ Lim ((List.replicate (n + 1) 0).set n 1) ∧ ((List.replicate (n + 1) 0).set n 1).length = n + 1 ∧ (n + 1 ≤ 256 → rightB ((List.replicate (n + 1) 0).set n 1) = true) := by
  have h1 := val_set (List.replicate (n + 1) 0) n 1 (by simp)
  rw [val_zero] at h1
  have h2 : (List.replicate (n + 1) 0).getD n 0 = 0 := by rw [List.getD_eq_getElem?_getD, List.getElem?_replicate]; split <;> rfl
  rw [h2] at h1
  refine ⟨by omega, (Lim.rep _).set _ (by decide), by simp, fun h => ?_⟩
  unfold rightB
  rw [List.length_set, List.length_replicate, decide_eq_true h, Nat.add_sub_cancel, getD_set_same _ _ _ (by simp)]
  simp
theorem neg_wrap (d : Nat) (h : d % 2 = 1) : IntKind.u32.wrap (-((invQ d : Nat) : Int)) = ((negQ d : Nat) : Int) := by
  have h1 := inv_lt d
  have h2 := (neg_right d h).2
  unfold negQ at *
  show (-((invQ d : Nat) : Int)) % 4294967296 = _
  omega
theorem ru_cells {w : World} {b off n : Nat} {l : List Nat} (h : RU w (some ⟨b, off, none⟩) n l) : ∀ (j : Nat) (u : Value), (l.map v32)[j]? = some u → w.cell? ((⟨b, off, none⟩ : Addr).add j) = some u := fun j u hu => by
  have hne : l.map v32 ≠ [] := by intro e; rw [e] at hu; simp at hu
  obtain ⟨b2, off2, e, _, hc⟩ := h.rd hne
  injection e with e
  injection e with e1 e2
  subst e1; subst e2
  rw [show (⟨b, off, none⟩ : Addr).add j = ⟨b, off + j, none⟩ by unfold Addr.add; split <;> simp_all]
  exact hc j u hu
set_option maxHeartbeats 16000000 in
theorem new_ok (A : Option Addr) (n c : Nat) (ms : List Nat) (w : World) (hA : RU w A n ms) (hm : mayB ms = true) :
    Calls Tryd.prog 24 #[.slice A n c] w (NewPost w ms) := by
  have R := right_any A n c ms w hA (by have := (may_is hA.lim hm).2.2.1; have := hA.len; omega)
  have hl := hA.len
  obtain ⟨hr, h0, h128, hodd, h3, hnum, hmod, hlim, hlow⟩ := may_is hA.lim hm
  rw [hl] at h0 h128 hlim
  rw [hr] at R
  have R := Lib.hid R
  have t0 : ((n : Int) == 0) = false := by simp; omega
  have t1 : ¬ (n : Int) > 128 := by omega
  have t2 : (0 : Int) < (n : Int) := by omega
  have HA := Lib.hid hA
  obtain ⟨b, off, rfl, hb, c0⟩ := hA.at_ (j := 0) (by omega)
  rw [Nat.add_zero] at c0
  obtain ⟨v, hv⟩ : ∃ v, ms.getD 0 0 = v := ⟨_, rfl⟩
  rw [hv] at c0 hodd hlow
  have hv32 : v < 4294967296 := by rw [← hv]; exact hA.lim.getD 0
  have m1 : (v : Int) % 2 = 1 := by omega
  have m2 : (v : Int).tmod 2 = 1 := by rw [Int.tmod_eq_emod_of_nonneg (by omega)]; omega
  obtain ⟨z, hz0⟩ : ∃ z, cmpV (val ms) 3 = z := ⟨_, rfl⟩
  have hz : cmpZ ms [3] = z := by rw [cmp_three ms hr]; exact hz0
  have hzn : ¬ z < 0 := by rw [← hz0]; unfold cmpV; rw [if_neg (by omega)]; split <;> decide
  have CM : Hid (∀ W G, Below w.heap.size w W → BlkU W G [3] → Calls Tryd.prog 40 #[.slice (some ⟨b, off, none⟩) n c, .slice (some ⟨G, 0, none⟩) 1 1] W fun e w' => e = .returned (.int .i64 z) ∧ Below W.heap.size W w') := fun W G h1 h2 => by
    have h3 := cmp_any (some ⟨b, off, none⟩) (some ⟨G, 0, none⟩) n c 1 1 ms [3] W (hA.below h1) (h2.ru (Lim.cons (by decide) Lim.nil) 0 1 (by simp)) (by omega) (by omega)
    rw [hz] at h3
    exact h3
  have B1 : Hid (Below w.heap.size w (w.alloc (.cells #[.int .u32 3] 59))) := kp_alloc (Below.refl _ _) _
  have K1 : Hid (BlkU (w.alloc (.cells #[.int .u32 3] 59)) w.heap.size [3]) := has_new _ _
  obtain ⟨m, hmv⟩ : ∃ m, val ms = m := ⟨_, rfl⟩
  rw [hmv] at h3 hnum hmod hlim hlow
  have HMV := Lib.hid hmv
  have HR := Lib.hid hr
  have HNUM := Lib.hid hnum
  have HMOD := Lib.hid hmod
  have HLIM := Lib.hid hlim
  have HLOW := Lib.hid hlow
  have HV := Lib.hid hv
  have HM := Lib.hid hm
  have HL := Lib.hid hl
  have hml : m < 4294967296 ^ 128 := by
    have h9 := lt_limbs m
    rw [hlim] at h9
    exact Nat.lt_of_lt_of_le h9 (Nat.pow_le_pow_right (by decide) h128)
  have HML := Lib.hid hml
  obtain ⟨n1, hn1⟩ : ∃ n1, n + 1 = n1 := ⟨_, rfl⟩
  have e1 : IntKind.i64.wrap ((n : Int) + 1) = (n1 : Int) := by rw [show (n : Int) + 1 = n1 by omega]; exact IntWalk.i64_in _ (by omega)
  have hn129 : n1 ≤ 129 := by omega
  have hnn1 : n < n1 := by omega
  have HN1 := Lib.hid hn1
  have INV := Lib.hid (fun W => inverse_any v W hv32)
  have hng := neg_wrap v hodd
  obtain ⟨iq, hiq⟩ : ∃ iq, invQ v = iq := ⟨_, rfl⟩
  obtain ⟨ng, hnge⟩ : ∃ ng, negQ v = ng := ⟨_, rfl⟩
  rw [hiq, hnge] at hng
  simp only [hiq] at INV
  have HNG := Lib.hid hnge
  clear hA hl hr hnum hmod hlim hlow hv hm hml hn1 hz hz0 hmv hiq hnge
  go_enter Tryd.func24, Tryd.ntmps24
  go_wp2_with fail
  refine R.out.mono ?_
  rintro e w' ⟨rfl, rfl⟩
  clear R
  go_wp2_with fail
  (with_reducible refine (CM.out _ _ B1.out K1.out).mono ?_)
  rintro e w1 ⟨rfl, hb1⟩
  have HB := Lib.hid (kp_call B1.out hb1)
  clear hb1 CM B1 K1
  go_wp2_with (refine wpList_mkU _ _ rfl rfl _ _ _ _ n1 rfl rfl rfl rfl (by omega) ?_)
  intro w2 hblk hb2
  obtain ⟨G, hG⟩ : ∃ G, w1.heap.size = G := ⟨_, rfl⟩
  rw [hG] at hblk ⊢
  have hwG : w.heap.size ≤ G := by have := HB.out.size; omega
  have c9 := hblk.cell (j := n) (by simp; omega)
  have f9 := hblk.free n
  have HR1 : Hid (BlkU (w2.setCell ⟨G, n, none⟩ (.int .u32 1)) G ((List.replicate n1 0).set n 1) ∧ Below w.heap.size w (w2.setCell ⟨G, n, none⟩ (.int .u32 1))) := ⟨hblk.set n 1, kp_set (kp_call HB.out hb2) hwG⟩
  have j1 : (0 : Int) ≤ (n : Int) := by omega
  have j2 : (n : Int) < (n1 : Int) := by omega
  have hQ := one_high n
  rw [HN1.out] at hQ
  obtain ⟨q1, q2, q3, q4⟩ := hQ
  have RR : Hid (RU (w2.setCell ⟨G, n, none⟩ (.int .u32 1)) (some ⟨G, 0, none⟩) n1 ((List.replicate n1 0).set n 1)) := by
    have h9 := HR1.out.1.ru q2 0 n1 (by omega)
    rw [List.drop_zero, take_all (by omega)] at h9
    exact h9
  have hdiv : divQ ((List.replicate n1 0).set n 1) ms = ((num (4294967296 ^ n / m), num (4294967296 ^ n % m)), 0) := by
    unfold divQ
    rw [q4 (by omega), HR.out, q1, HMV.out, show (ms.length == 0) = false by rw [HL.out, beq_eq_false_iff_ne]; omega]
    rfl
  have DV := div_any (some ⟨G, 0, none⟩) (some ⟨b, off, none⟩) n1 n1 n c _ ms _ RR.out (HA.out.below HR1.out.2) (by omega) (by omega)
  rw [hdiv] at DV
  have DV := Lib.hid DV
  have HB2 := Lib.hid HR1.out.2
  have HGG := Lib.hid hG
  clear q1 q2 q3 q4 hdiv HB hb2 hblk HR1 hG RR
  go_wp2_with fail
  refine DV.out.mono ?_
  rintro e w3 ⟨A3, k3, d3, A4, k4, d4, rfl, s3, l3, m3, p3, s4, l4, m4, p4, hb3⟩
  have HB3 := Lib.hid (kp_call HB2.out hb3)
  have hr4 := s4.ru
  have hlt4 : 4294967296 ^ n % m < m := Nat.mod_lt _ (by omega)
  have hml := HML.out
  have hmul : mulQ (num (4294967296 ^ n % m)) (num (4294967296 ^ n % m)) = (num (4294967296 ^ n % m * (4294967296 ^ n % m)), 0) := by
    have hf : fitQ (4294967296 ^ n % m * (4294967296 ^ n % m)) = (num (4294967296 ^ n % m * (4294967296 ^ n % m)), 0) := by
      unfold fitQ
      refine if_pos ?_
      have h8 : 4294967296 ^ 256 = 4294967296 ^ 128 * 4294967296 ^ 128 := by rw [← Nat.pow_add]
      rw [h8]
      exact Nat.mul_lt_mul'' (Nat.lt_trans hlt4 hml) (Nat.lt_trans hlt4 hml)
    unfold mulQ
    rw [num_right, decide_eq_true (Nat.lt_trans (Nat.lt_trans hlt4 hml) (by decide)), val_num, hf]
    rfl
  have ML := mul_any A4 A4 k4 d4 k4 d4 _ _ w3 hr4 hr4 (by omega) (by omega)
  rw [hmul] at ML
  have ML := Lib.hid ML
  clear DV s3 s4 hr4 hmul hb3 HB2
  go_wp2_with fail
  refine ML.out.mono ?_
  rintro e w4 ⟨A5, k5, d5, rfl, s5, l5, m5, p5, hb4⟩
  have HB4 := Lib.hid (kp_call HB3.out hb4)
  have hdiv : divQ (num (4294967296 ^ n % m * (4294967296 ^ n % m))) ms = ((num (4294967296 ^ n % m * (4294967296 ^ n % m) / m), num (4294967296 ^ n * 4294967296 ^ n % m)), 0) := by
    unfold divQ
    rw [HR.out, HMV.out, val_num, show (ms.length == 0) = false by rw [HL.out, beq_eq_false_iff_ne]; omega, ← Nat.mul_mod, num_right, decide_eq_true]
    rfl
    have h9 := (num_len (4294967296 ^ n % m * (4294967296 ^ n % m)) 256).1 (by rw [s5.len]; exact p5)
    exact h9
  have DV := div_any A5 (some ⟨b, off, none⟩) k5 d5 n c _ ms w4 s5.ru (HA.out.below HB4.out) (by omega) (by omega)
  rw [hdiv] at DV
  have DV := Lib.hid DV
  clear ML s5 hdiv hb4 HB3 hlt4
  go_wp2_with fail
  refine DV.out.mono ?_
  rintro e w5 ⟨A6, k6, d6, A7, k7, d7, rfl, s6, l6, m6, p6, s7, l7, m7, p7, hb5⟩
  have HB5 := Lib.hid (kp_call HB4.out hb5)
  have HS7 := Lib.hid (s7.lower (base' := w.heap.size) HB4.out.size)
  have c05 := (HB5.out.cell (p := ⟨b, off, none⟩) hb).trans c0
  clear DV s6 s7 hb5 HB4 c0
  have KEEP : Hid (∀ W, Below w.heap.size w W → (W.cell? ⟨b, off, none⟩ = some (.int .u32 (v : Int))) ∧ Below w.heap.size w W) := fun W h => ⟨(h.cell (p := ⟨b, off, none⟩) hb).trans ((HB5.out.cell (p := ⟨b, off, none⟩) hb).symm.trans c05), h⟩
  have OWN : Hid (OwnR (w5.alloc (.cells #[] 59)) w5.heap.size 59 1 (some ⟨w5.heap.size, 0, none⟩) 0 0 []) := OwnR.lit w5 59 1 #[] 0 (by decide) rfl
  have HCS := Lib.hid (ru_cells ((HA.out.below HB5.out).alloc (.cells #[] 59)))
  have H1C : Hid (∀ u ∈ ms.map v32, u.oneCell' = true) := by intro u hu; obtain ⟨q, _, rfl⟩ := List.mem_map.1 hu; rfl
  have hlm : (ms.map v32).length = n * 1 := by rw [List.length_map, HL.out, Nat.mul_one]
  have hb5' := HB5.out
  have hk7 : k7 ≤ limbsN m := by rw [← HS7.out.len]; exact limbs_le (Nat.mod_lt _ (by omega))
  have HFIN : Hid (∀ W g c3, OwnR W w5.heap.size 59 1 (some ⟨g, 0, none⟩) (0 + n) c3 ([] ++ ms.map v32) → Below w5.heap.size w5 W → NewPost w ms (.returned (.tuple #[.pointer (some ⟨W.heap.size, 0, none⟩), .int .i64 0])) (W.alloc (.cells #[.slice (some ⟨g, 0, none⟩) n c3, .int .u32 (ng : Int), .slice A7 k7 d7] 71))) := fun W g c3 ho hb6 => by
    rw [Nat.zero_add, List.nil_append] at ho
    have hcap := ho.cap
    have hbW : Below w.heap.size w W := kp_call HB5.out hb6
    refine ⟨kp_alloc hbW _, ?_⟩
    rw [HM.out]
    dsimp only
    refine ⟨W.heap.size, rfl, hbW.size, ⟨some ⟨g, 0, none⟩, n, c3, A7, k7, d7, ?_, hbW.size, ?_, ?_, ?_, ?_⟩, ?_⟩
    · rw [HMV.out, HLIM.out]
    · rw [HMV.out, ← HLOW.out, HNG.out]; exact has_new _ _
    · rw [HMV.out, HNUM.out]; exact (ho.lower HB5.out.size).alloc _
    · rw [HMV.out]; exact (HS7.out.below hb6).below (kp_alloc (Below.refl _ _) _)
    · rw [HLIM.out] at hk7; exact hk7
    · rw [HMV.out]; exact HMOD.out
  go_wp2
  go_region_held3 (fun W => (W.cell? ⟨b, off, none⟩ = some (.int .u32 (v : Int))) ∧ Below w.heap.size w W)
    ((apply KEEP.out; repeat (with_reducible (first | assumption | refine kp_drew ?_ | refine kp_alloc ?_ _))))
    (first
      | (go_at_call 43; (with_reducible refine (INV.out _).mono ?_); (rintro e X3 ⟨rfl, rfl⟩))
      | ((refine step_appR u32_row (by rfl) _ _ (by rfl) w5.heap.size (some ⟨w5.heap.size, 0, none⟩) 0 0 [] (by rfl) (OWN.out.drew) ⟨b, off, none⟩ n c (ms.map v32) (by rfl) hlm HCS.out H1C.out (by omega) (by unfold maxLen; omega) (by omega) (by simp) ?_; intro g c3 w6 ho3 hg3 hat3; have hb6 : Below w5.heap.size w5 w6 := (kp_drew (kp_alloc (Below.refl _ _) _)).grown hg3 (by simp) (fun g hg => by have h2 : some w5.heap.size = some g := hg; injection h2 with h2; omega); have hb6w : Below w.heap.size w w6 := kp_call HB5.out hb6)))
  all_goals
    go_wp2
    go_ret2
    exact HFIN.out _ _ _ ho3 hb6
end Go.Proofs.YtbplchpbaonadaaDoor
