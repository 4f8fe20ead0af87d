/-
  mont: the document's own: May, below, mul, Mul, Exp.
-/
import Derived.Test.YtcmhacecnahfoaaMl
import Derived.Test.YtcmhacecnahfoaaOh
namespace Go.Proofs.Ytcmhacecnahfoaa
open Go.RowKit Go
set_option linter.unusedVariables false
set_option linter.unusedSimpArgs false
set_option maxRecDepth 100000
theorem may_one {ms : List Nat} (lm : Lim ms) (hr : rightB ms = true) (h0 : 0 < ms.length) : (1 < ms.length ∨ 3 ≤ ms.getD 0 0) ↔ 3 ≤ val ms := by
  obtain ⟨r1, r2⟩ := (rightB_iff ms).1 hr
  constructor
  · rintro (h | h)
    · have h1 := tip_pos ms r2 (by rintro rfl; simp at h0)
      have h2 := Nat.pow_le_pow_right (show 0 < 4294967296 by decide) (show 1 ≤ ms.length - 1 by omega)
      omega
    · have hd := val_digit ms lm 0
      rw [Nat.pow_zero, Nat.div_one] at hd
      have := Nat.mod_le (val ms) 4294967296
      omega
  · intro h
    by_cases h1 : 1 < ms.length
    · exact .inl h1
    · right
      have hd := val_digit ms lm 0
      rw [Nat.pow_zero, Nat.div_one] at hd
      have h2 := val_lt ms lm
      rw [show ms.length = 1 by omega, Nat.pow_one] at h2
      omega
set_option maxHeartbeats 4000000 in
theorem dmay_any (A : Option Addr) (n c : Nat) (ms : List Nat) (w : World) (hA : RU w A n ms) (hn : n ≤ 1000) :
    Calls Try.prog 12 #[.slice A n c] w fun e w' => e = .returned (.bool (mayB ms)) ∧ w = w' := by
  have R := dright_any A n c ms w hA (by omega)
  have hl := hA.len
  cases hr : rightB ms with
  | false =>
    have hm : mayB ms = false := by unfold mayB; rw [hr]; rfl
    rw [hr] at R
    rw [hm]
    have R := Lib.hid R
    clear hr hA hm hl
    go_enter Try.func12, Try.ntmps12
    go_wp2_with fail
    refine R.out.mono ?_
    rintro e w' ⟨rfl, rfl⟩
    go_wp2
    go_ret
    exact ⟨rfl, rfl⟩
  | true =>
    rw [hr] at R
    have R := Lib.hid R
    by_cases h0 : n = 0
    · have hm : mayB ms = false := by unfold mayB; rw [hr, show (ms.length == 0) = true by rw [beq_iff_eq]; omega]; rfl
      rw [hm]
      subst h0
      clear hr hA hm hl
      go_enter Try.func12, Try.ntmps12
      go_wp2_with fail
      refine R.out.mono ?_
      rintro e w' ⟨rfl, rfl⟩
      go_wp2
      go_ret
      exact ⟨rfl, rfl⟩
    · have t0 : ((n : Int) == 0) = false := by simp; omega
      by_cases h1 : 128 < n
      · have hm : mayB ms = false := by
          unfold mayB
          rw [decide_eq_false (show ¬ ms.length ≤ 128 by omega)]
          simp
        rw [hm]
        have t1 : (n : Int) > 128 := by omega
        clear hr hA hm hl h0 h1
        go_enter Try.func12, Try.ntmps12
        go_wp2_with fail
        refine R.out.mono ?_
        rintro e w' ⟨rfl, rfl⟩
        go_wp2
        go_ret
        exact ⟨rfl, rfl⟩
      · have t1 : ¬ (n : Int) > 128 := by omega
        have t2 : (0 : Int) < (n : Int) := by omega
        have t3 : 0 < n := by omega
        have hone := may_one hA.lim hr (by omega)
        obtain ⟨b, off, rfl, hb, c0⟩ := hA.at_ (j := 0) (by omega)
        rw [Nat.add_zero] at c0
        obtain ⟨v, hv⟩ : ∃ v, ms.getD 0 0 = v := ⟨_, rfl⟩
        rw [hv, hl] at hone
        rw [hv] at c0
        by_cases h2 : v % 2 = 0
        · have hm : mayB ms = false := by unfold mayB; rw [hv, h2]; simp
          rw [hm]
          have m1 : (v : Int) % 2 = 0 := by omega
          have m2 : (v : Int).tmod 2 = 0 := by rw [Int.tmod_eq_emod_of_nonneg (by omega)]; omega
          clear hr hA hm hl h0 h1 hv h2 hone
          go_enter Try.func12, Try.ntmps12
          go_wp2_with fail
          refine R.out.mono ?_
          rintro e w' ⟨rfl, rfl⟩
          go_wp2
          go_ret
          exact ⟨rfl, rfl⟩
        · have m1 : (v : Int) % 2 = 1 := by omega
          have m2 : (v : Int).tmod 2 = 1 := by rw [Int.tmod_eq_emod_of_nonneg (by omega)]; omega
          have hm : mayB ms = decide (1 < n ∨ 3 ≤ v) := by
            by_cases h3 : 3 ≤ val ms
            · rw [decide_eq_true (hone.2 h3)]
              exact may_of hr (by omega) (by omega) (by omega) h3
            · rw [decide_eq_false (fun h => h3 (hone.1 h))]
              unfold mayB
              rw [decide_eq_false h3]
              simp
          rw [hm]
          by_cases h4 : 1 < n
          · rw [decide_eq_true (.inl h4)]
            have t4 : (n : Int) > 1 := by omega
            clear hr hA hm hl h0 h1 hv h2 hone h4
            go_enter Try.func12, Try.ntmps12
            go_wp2_with fail
            refine R.out.mono ?_
            rintro e w' ⟨rfl, rfl⟩
            go_wp2
            go_ret
            exact ⟨rfl, rfl⟩
          · have t4 : ¬ (n : Int) > 1 := by omega
            by_cases h5 : 3 ≤ v
            · rw [decide_eq_true (.inr h5)]
              have t5 : (v : Int) ≥ 3 := by omega
              clear hr hA hm hl h0 h1 hv h2 hone h4
              go_enter Try.func12, Try.ntmps12
              go_wp2_with fail
              refine R.out.mono ?_
              rintro e w' ⟨rfl, rfl⟩
              go_wp2
              go_ret
              exact ⟨by simp <;> omega, rfl⟩
            · rw [decide_eq_false (show ¬ (1 < n ∨ 3 ≤ v) by omega)]
              have t5 : ¬ (v : Int) ≥ 3 := by omega
              clear hr hA hm hl h0 h1 hv h2 hone h4
              go_enter Try.func12, Try.ntmps12
              go_wp2_with fail
              refine R.out.mono ?_
              rintro e w' ⟨rfl, rfl⟩
              go_wp2
              go_ret
              exact ⟨by simp <;> omega, rfl⟩
set_option maxHeartbeats 2000000 in
theorem dbelow_any (A B : Option Addr) (n c k d : Nat) (x ms : List Nat) (w : World) (hA : RU w A n x) (hB : RU w B k ms) (hn : n ≤ 300) (hk : k ≤ 300) (hc : n ≤ c ∧ c ≤ 9223372036854775807) (hd : k ≤ d ∧ d ≤ 9223372036854775807) (hm : rightB ms = true) (hl : limbsN (val ms) ≤ 256) :
    Calls Try.prog 30 #[.slice A n c, .slice B k d] w fun e w' => e = .returned (.bool (underB x (val ms))) ∧ Below w.heap.size w w' := by
  have R := dright_any A n c x w hA (by omega)
  cases hr : rightB x with
  | false =>
    have hu : underB x (val ms) = false := by unfold underB; rw [hr]; rfl
    rw [hr] at R
    rw [hu]
    have R := Lib.hid R
    clear hr hu hA hB hm hl
    go_enter Try.func30, Try.ntmps30
    go_wp2_with fail
    refine R.out.mono ?_
    rintro e w' ⟨rfl, rfl⟩
    clear R
    go_wp2
    go_ret
    exact ⟨rfl, Below.refl _ _⟩
  | true =>
    rw [hr] at R
    have CM := dCmp_any A B n c k d x ms w hA hB hn hk hc hd
    have hu := cmp_under x (val ms) hl hr
    rw [right_num hB.lim hm] at hu
    obtain ⟨z, hz⟩ : ∃ z, cmpZ x ms = z := ⟨_, rfl⟩
    rw [hz] at CM hu
    obtain ⟨b, hb⟩ : ∃ b, underB x (val ms) = b := ⟨_, rfl⟩
    rw [hb] at hu ⊢
    have R := Lib.hid R
    have CM := Lib.hid CM
    clear hr hA hB hm hl hz hb
    go_enter Try.func30, Try.ntmps30
    go_wp2_with fail
    refine R.out.mono ?_
    rintro e w' ⟨rfl, rfl⟩
    clear R
    go_wp2_with fail
    refine CM.out.mono ?_
    rintro e w' ⟨rfl, hbl⟩
    have HB := Lib.hid hbl
    clear CM hbl
    go_wp2
    go_ret
    exact ⟨rfl, HB.out⟩
set_option maxHeartbeats 4000000 in
/-- The rest of a product of numbers below the modulus. -/
theorem dmulm_any (A B C : Option Addr) (n c k d p q : Nat) (x y ms : List Nat) (w : World) (hA : RU w A n x) (hB : RU w B k y) (hC : RU w C p ms) (hn : n ≤ 300) (hk : k ≤ 300) (hp : p ≤ 300) (hc : n ≤ c ∧ c ≤ 9223372036854775807) (hd : k ≤ d ∧ d ≤ 9223372036854775807)
    (hx : rightB x = true) (hy : rightB y = true) (hm : rightB ms = true) (hm0 : 0 < p) (hf : val x * val y < 4294967296 ^ 256) :
    Calls Try.prog 31 #[.slice A n c, .slice B k d, .slice C p q] w (BriefPost w 1000 (val x * val y % val ms)) := by
  have MU := dMul_any A B n c k d x y w hA hB hn hk hc hd
  have hq : mulQ x y = (num (val x * val y), 0) := by unfold mulQ; rw [hx, hy]; unfold fitQ; rw [if_pos hf]; rfl
  rw [hq] at MU
  have HC := Lib.hid hC
  have HL : Hid ((num (val x * val y)).length ≤ 256) := (num_len _ _).2 hf
  have hdq : divQ (num (val x * val y)) ms = ((num (val x * val y / val ms), num (val x * val y % val ms)), 0) := by
    unfold divQ
    rw [num_right, decide_eq_true hf, hm, val_num, show (ms.length == 0) = false by rw [hC.len, beq_eq_false_iff_ne]; omega]
    rfl
  have HD := Lib.hid hdq
  have MU := Lib.hid MU
  clear hA hB hC hx hy hm hf hq hdq
  go_enter Try.func31, Try.ntmps31
  go_wp2_with fail
  refine MU.out.mono ?_
  rintro e w1 ⟨A1, k1, d1, rfl, s1, l1, m1, p1, hb⟩
  have DV := dDiv_any A1 C k1 d1 p q (num (val x * val y)) ms w1 s1 (HC.out.below hb) (by omega) hp
  rw [HD.out] at DV
  have DV := Lib.hid DV
  have HB := Lib.hid hb
  clear MU s1 hb
  go_wp2_with fail
  refine DV.out.mono ?_
  rintro e w2 ⟨A2, k2, d2, A3, k3, d3, rfl, s2, l2, m2, p2, s3, l3, m3, p3, hb⟩
  have HF : Hid (RU w2 A3 k3 (num (val x * val y % val ms)) ∧ Below w.heap.size w w2) := ⟨s3, kp_call HB.out hb⟩
  clear DV s2 s3 hb
  go_wp2
  go_ret
  exact ⟨A3, k3, d3, rfl, HF.out.1, p3, l3, m3, HF.out.2⟩
/-- A rest that is told, and an error. -/
def RestD (w : World) (r : List Nat × Nat) (e : Ending) (w' : World) : Prop :=
  ∃ A n c, e = .returned (.tuple #[.slice A n c, .int .i64 (r.2 : Int)]) ∧ RU w' A n r.1 ∧ n ≤ c ∧ c ≤ 9223372036854775807 ∧ n ≤ 1000 ∧ Below w.heap.size w w'
theorem under_sq {x y m : Nat} (hx : x < m) (hy : y < m) (hl : limbsN m ≤ 128) : x * y < 4294967296 ^ 256 := by
  have h1 : m < 4294967296 ^ 128 := Nat.lt_of_lt_of_le (lt_limbs m) (Nat.pow_le_pow_right (by decide) hl)
  rw [show (256 : Nat) = 128 + 128 by decide, Nat.pow_add]
  exact Nat.mul_lt_mul'' (Nat.lt_trans hx h1) (Nat.lt_trans hy h1)
set_option maxHeartbeats 8000000 in
theorem dMulm_any (A B C : Option Addr) (n c k d p q : Nat) (x y ms : List Nat) (w : World) (hA : RU w A n x) (hB : RU w B k y) (hC : RU w C p ms) (hn : n ≤ 300) (hk : k ≤ 300) (hc : n ≤ c ∧ c ≤ 9223372036854775807) (hd : k ≤ d ∧ d ≤ 9223372036854775807) (hq : p ≤ q ∧ q ≤ 9223372036854775807) (hmay : mayB ms = true) :
    Calls Try.prog 15 #[.slice A n c, .slice B k d, .slice C p q] w (RestD w (mmulQ x y (val ms))) := by
  obtain ⟨hr, h0, h128, hodd, h3, hnum, hmod, hlim, hlow⟩ := may_is hC.lim hmay
  have hl := hC.len
  rw [hl] at h0 h128
  have BX := Lib.hid (dbelow_any A C n c p q x ms w hA hC hn (by omega) hc hq hr (by have := hmod.len; omega))
  have BY := Lib.hid (fun W (h : Below w.heap.size w W) => dbelow_any B C k d p q y ms W (hB.below h) (hC.below h) hk (by omega) hd hq hr (by have := hmod.len; omega))
  have herr : ∀ w', Below w.heap.size w w' → (underB x (val ms) && underB y (val ms)) = false → RestD w (mmulQ x y (val ms)) (.returned (.tuple #[.slice none 0 0, .int .i64 1])) w' := fun w' hb h => by
    unfold mmulQ
    rw [h]
    exact ⟨none, 0, 0, rfl, RU.nil _, Nat.le_refl _, by decide, by decide, hb⟩
  cases hx : underB x (val ms) with
  | false =>
    have HE := Lib.hid (fun w' hb => herr w' hb (by rw [hx]; rfl))
    have BX := BX.out
    rw [hx] at BX
    have BX := Lib.hid BX
    clear hA hB hC hx herr BY hr hodd hnum hmod hlim hlow hmay h3
    go_enter Try.func15, Try.ntmps15
    go_wp2_with fail
    refine BX.out.mono ?_
    rintro e w1 ⟨rfl, hb⟩
    have HB := Lib.hid hb
    clear hb BX
    go_wp2
    go_ret2
    exact HE.out _ HB.out
  | true =>
    have BX := BX.out
    rw [hx] at BX
    have BX := Lib.hid BX
    cases hy : underB y (val ms) with
    | false =>
      have HE := Lib.hid (fun w' hb => herr w' hb (by rw [hx, hy]; rfl))
      have BY := BY.out
      rw [hy] at BY
      have BY := Lib.hid BY
      clear hA hB hC hx hy herr hr hodd hnum hmod hlim hlow hmay h3
      go_enter Try.func15, Try.ntmps15
      go_wp2_with fail
      refine BX.out.mono ?_
      rintro e w1 ⟨rfl, hb⟩
      have HB := Lib.hid hb
      clear hb BX
      go_wp2_with fail
      refine (BY.out _ HB.out).mono ?_
      rintro e w2 ⟨rfl, hb⟩
      replace HB := Lib.hid (kp_call HB.out hb)
      clear hb BY
      go_wp2
      go_ret2
      exact HE.out _ HB.out
    | true =>
      have BY := BY.out
      rw [hy] at BY
      have BY := Lib.hid BY
      obtain ⟨x1, x2, x3, x4⟩ := under_len hA hx
      obtain ⟨y1, y2, y3, y4⟩ := under_len hB hy
      have hq9 : mmulQ x y (val ms) = (num (val x * val y % val ms), 0) := by unfold mmulQ; rw [hx, hy]; rfl
      rw [hq9]
      have ML := Lib.hid (fun W (h : Below w.heap.size w W) => dmulm_any A B C n c k d p q x y ms W (hA.below h) (hB.below h) (hC.below h) hn hk (by omega) hc hd x4 y4 hr h0 (under_sq x2 y2 hmod.len))
      clear hA hB hC hx hy herr hr hodd hnum hmod hlim hlow hmay h3 x1 x2 x3 x4 y1 y2 y3 y4 hq9
      go_enter Try.func15, Try.ntmps15
      go_wp2_with fail
      refine BX.out.mono ?_
      rintro e w1 ⟨rfl, hb⟩
      have HB := Lib.hid hb
      clear hb BX
      go_wp2_with fail
      refine (BY.out _ HB.out).mono ?_
      rintro e w2 ⟨rfl, hb⟩
      replace HB := Lib.hid (kp_call HB.out hb)
      clear hb BY
      go_wp2_with fail
      refine (ML.out _ HB.out).mono ?_
      rintro e w3 ⟨A3, k3, d3, rfl, s3, l3, m3, p3, hb⟩
      have HF : Hid (RU w3 A3 k3 (num (val x * val y % val ms)) ∧ Below w.heap.size w w3) := ⟨s3, kp_call HB.out hb⟩
      clear hb s3 ML
      go_wp2
      go_ret2
      exact ⟨A3, k3, d3, rfl, HF.out.1, m3, p3, l3, HF.out.2⟩
end Go.Proofs.Ytcmhacecnahfoaa
