/-
  mont: the document's own: Exp.
-/
import Derived.Test.YtcmhacecnahfoaaMn
import Derived.Test.YtcmhacecnahfoaaMm
namespace Go.Proofs.Ytcmhacecnahfoaa
open Go.RowKit Go
set_option linter.unusedVariables false
set_option linter.unusedSimpArgs false
set_option maxRecDepth 100000
theorem RestD.move {w w0 : World} {r : List Nat × Nat} {e : Ending} {w' : World} (h : RestD w r e w') (hb : Below w0.heap.size w0 w) : RestD w0 r e w' := by
  obtain ⟨A, n, c, h1, h2, h3, h4, h5, h6⟩ := h
  exact ⟨A, n, c, h1, h2, h3, h4, h5, kp_call hb h6⟩
set_option maxHeartbeats 16000000 in
theorem dExpm_any (A B C : Option Addr) (n c k d p q : Nat) (x ex ms : List Nat) (w : World) (hA : RU w A n x) (hB : RU w B k ex) (hC : RU w C p ms) (hn : n ≤ 300) (hk : k ≤ 300) (hc : n ≤ c ∧ c ≤ 9223372036854775807) (hq : p ≤ q ∧ q ≤ 9223372036854775807) (hmay : mayB ms = true) :
    Calls Try.prog 17 #[.slice A n c, .slice B k d, .slice C p q] w (RestD w (mexpQ x ex (val ms))) := by
  obtain ⟨hr, h0, h128, hodd, h3, hnum, hmod, hlim, hlow⟩ := may_is hC.lim hmay
  have hl := hC.len
  rw [hl] at h0 h128
  have BX := Lib.hid (dbelow_any A C n c p q x ms w hA hC hn (by omega) hc hq hr (by have := hmod.len; omega))
  have RE := Lib.hid (fun W (h : Below w.heap.size w W) => dright_any B k d ex W (hB.below h) (by omega))
  have herr : ∀ w', Below w.heap.size w w' → (underB x (val ms) && rightB ex) = false → RestD w (mexpQ x ex (val ms)) (.returned (.tuple #[.slice none 0 0, .int .i64 1])) w' := fun w' hb h => by
    unfold mexpQ
    rw [h]
    exact ⟨none, 0, 0, rfl, RU.nil _, Nat.le_refl _, by decide, by decide, hb⟩
  cases hx : underB x (val ms) with
  | false =>
    have HE := Lib.hid (fun w' hb => herr w' hb (by rw [hx]; rfl))
    have BX := BX.out
    rw [hx] at BX
    have BX := Lib.hid BX
    clear hA hB hC hx herr RE hr hodd hnum hmod hlim hlow hmay h3
    go_enter Try.func17, Try.ntmps17
    go_wp2_with fail
    refine BX.out.mono ?_
    rintro e w1 ⟨rfl, hb⟩
    have HB := Lib.hid hb
    clear hb BX
    go_wp2
    go_ret2
    exact HE.out _ HB.out
  | true =>
    have BX := BX.out
    rw [hx] at BX
    have BX := Lib.hid BX
    cases hre : rightB ex with
    | false =>
      have HE := Lib.hid (fun w' hb => herr w' hb (by rw [hx, hre]; rfl))
      have RE := RE.out
      rw [hre] at RE
      have RE := Lib.hid RE
      clear hA hB hC hx hre herr hr hodd hnum hmod hlim hlow hmay h3
      go_enter Try.func17, Try.ntmps17
      go_wp2_with fail
      refine BX.out.mono ?_
      rintro e w1 ⟨rfl, hb⟩
      have HB := Lib.hid hb
      clear hb BX
      go_wp2_with fail
      refine (RE.out _ HB.out).mono ?_
      rintro e w2 ⟨rfl, rfl⟩
      clear RE
      go_wp2
      go_ret2
      exact HE.out _ HB.out
    | true =>
      have RE := RE.out
      rw [hre] at RE
      have RE := Lib.hid RE
      obtain ⟨x1, x2, x3, x4⟩ := under_len hA hx
      have hq9 : mexpQ x ex (val ms) = (num (val x ^ val ex % val ms), 0) := by unfold mexpQ; rw [hx, hre]; rfl
      rw [hq9]
      obtain ⟨m, hmv⟩ : ∃ m, val ms = m := ⟨_, rfl⟩
      rw [hmv] at h3 hmod x2 ⊢
      have hke : k ≤ 256 := by have := ((rightB_iff ex).1 hre).1; have := hB.len; omega
      have BT := fun W (h : Below w.heap.size w W) => dbits_any B k d ex W (hB.below h) (by omega)
      rw [if_pos hre] at BT
      obtain ⟨K, hK⟩ : ∃ K, bitsN (val ex) = K := ⟨_, rfl⟩
      rw [hK] at BT
      have hK32 : K ≤ 32 * k := by
        rw [← hK, bits_le, ← pow_32]
        have h2 := val_lt ex hB.lim
        rw [hB.len] at h2
        exact h2
      have hK0 : val ex / 2 ^ K = 0 := by
        refine Nat.div_eq_of_lt ?_
        rw [← bits_le, hK]
        exact Nat.le_refl _
      have e1 : IntKind.i64.wrap ((K : Int) - 1) = (K : Int) - 1 := IntWalk.i64_in _ (by omega)
      have hmb := mod_big hmod
      -- a product of a rest below m and a number below m
      have ML := Lib.hid (fun W A1 n1 c1 v1 B1 k1 d1 y (h : Below w.heap.size w W) (r1 : RU W A1 n1 (num v1)) (hv1 : v1 < m) (r2 : RU W B1 k1 y) (hy : rightB y = true) (hv2 : val y < m) (hn1 : n1 ≤ c1 ∧ c1 ≤ 9223372036854775807) (hk1 : k1 ≤ d1 ∧ d1 ≤ 9223372036854775807) (hk3 : k1 ≤ 300) (hn3 : n1 ≤ 300) => (by
        have h9 := dmulm_any A1 B1 C n1 c1 k1 d1 p q (num v1) y ms W r1 r2 (hC.below h) hn3 hk3 (by omega) hn1 hk1 (num_rightB (Nat.lt_trans hv1 hmb)) hy hr h0 (by rw [val_num]; exact under_sq hv1 hv2 hmod.len)
        rw [val_num, hmv] at h9
        exact h9 : Calls Try.prog 31 #[.slice A1 n1 c1, .slice B1 k1 d1, .slice C p q] W (BriefPost W 1000 (v1 * val y % m))))
      have HSM : Hid (∀ v (W : World) A1 n1, RU W A1 n1 (num v) → v < m → n1 ≤ 128) := fun v W A1 n1 h hv => by
        have h9 := limbs_le hv
        have := hmod.len
        rw [h.len] at h9
        omega
      have HNR : Hid (∀ v, v < m → rightB (num v) = true) := fun v hv => num_rightB (Nat.lt_trans hv hmb)
      have HA := Lib.hid hA
      have HBE := Lib.hid hB
      have BT := Lib.hid BT
      have HK0 := Lib.hid hK0
      have HX := Lib.hid (And.intro x2 x4)
      have hm0 : 0 < m := by omega
      have hm1 : 1 < m := by omega
      have hN1 : num 1 = [1] := num_small (by decide) (by decide)
      have HN1 := Lib.hid hN1
      clear hA hB hC hx hre herr hr hodd hnum hmod hlim hlow hmay h3 x1 x2 x3 x4 hq9 hmv hmb hK0 hK hN1
      go_enter Try.func17, Try.ntmps17
      go_wp2_with fail
      refine BX.out.mono ?_
      rintro e w1 ⟨rfl, hb⟩
      have HB := Lib.hid hb
      clear hb BX
      go_wp2_with fail
      refine (RE.out _ HB.out).mono ?_
      rintro e w2 ⟨rfl, rfl⟩
      clear RE
      have K1 : Hid (RU (w1.alloc (.cells #[.int .u32 1] 31)) (some ⟨w1.heap.size, 0, none⟩) 1 (num 1)) := by
        rw [HN1.out]; exact one_ru (has_new _ _) (by decide)
      have B1 := Lib.hid (kp_alloc HB.out (.cells #[.int .u32 1] 31))
      clear HB
      go_wp2_with fail
      refine (BT.out _ B1.out).mono ?_
      rintro e w3 ⟨rfl, rfl⟩
      clear BT
      go_wp2
      go_loopw [8, 9] (fun vr vi wl => ∃ (i v : Nat) (V : Option Addr) (nv cv : Nat), vr = .slice V nv cv ∧ vi = .int .i64 ((i : Int) - 1) ∧ i ≤ K ∧ v < m ∧ nv ≤ cv ∧ cv ≤ 9223372036854775807 ∧ Hid (RU wl V nv (num v) ∧ v = val x ^ (val ex / 2 ^ i) % m ∧ Below w.heap.size w wl)) (fun _ vi _ => (intOf vi + 1).toNat)
      case atStart => exact ⟨K, 1, _, 1, 1, rfl, rfl, Nat.le_refl _, hm1, Nat.le_refl _, by decide, K1.out, by rw [HK0.out, Nat.pow_zero, Nat.mod_eq_of_lt hm1], B1.out⟩
      case round =>
        obtain ⟨i, v, V, nv, cv, rfl, rfl, hi, hvm, hnc, hcc, HK⟩ := hrel
        clear K1 B1
        rcases i with _ | j
        · as_aux_lemma =>
          have j1 : ¬ ((0 : Nat) : Int) - 1 ≥ 0 := by omega
          have HF : Hid (RU wr V nv (num (val x ^ val ex % m)) ∧ nv ≤ 128 ∧ Below w.heap.size w wr) := by
            obtain ⟨f1, f2, f3⟩ := HK.out
            have h9 := HSM.out v wr V nv f1 hvm
            rw [Nat.pow_zero, Nat.div_one] at f2
            rw [f2] at f1
            exact ⟨f1, h9, f3⟩
          clear HK
          go_wp2
          go_ret2
          exact ⟨V, nv, cv, rfl, HF.out.1, hnc, hcc, by have := HF.out.2.1; omega, HF.out.2.2⟩
        · as_aux_lemma =>
          have e4 : (((j + 1 : Nat) : Int) - 1) = (j : Int) := by omega
          rw [e4]
          clear e4
          obtain ⟨f1, f2, f3⟩ := HK.out
          have hnv := HSM.out v wr V nv f1 hvm
          obtain ⟨l, hl9⟩ : ∃ l, j / 32 = l := ⟨_, rfl⟩
          obtain ⟨t, ht⟩ : ∃ t, j % 32 = t := ⟨_, rfl⟩
          have hlk : l < k := by omega
          have hbit := bit_at ex HBE.out.lim j
          rw [hl9, ht] at hbit
          obtain ⟨bx, ox, hBeq, hbx, cx⟩ := HBE.out.at_ (j := l) hlk
          subst hBeq
          have hv32 := HBE.out.lim.getD l
          obtain ⟨u9, hu9⟩ : ∃ u9, ex.getD l 0 = u9 := ⟨_, rfl⟩
          rw [hu9] at cx hbit hv32
          obtain ⟨u, hu⟩ : ∃ u, u9 / 2 ^ t = u := ⟨_, rfl⟩
          rw [hu] at hbit
          have huv : u ≤ u9 := by rw [← hu]; exact Nat.div_le_self _ _
          obtain ⟨b0, hb0⟩ : ∃ b0, u % 2 = b0 := ⟨_, rfl⟩
          rw [hb0] at hbit
          have hand : bits .and .u32 (u : Int) 1 = (b0 : Int) := by
            have h1 := u32_and_nat u 1 (by omega) (by decide)
            rw [Nat.and_one_is_mod, hb0] at h1
            exact h1
          have e6 : (j : Int) / 32 = (l : Int) := by omega
          have e5 : (j : Int).tdiv 32 = (l : Int) := by rw [Int.tdiv_eq_ediv_of_nonneg (by omega)]; omega
          have e7 : (j : Int).tmod 32 = (t : Int) := by rw [Int.tmod_eq_emod_of_nonneg (by omega)]; omega
          have e8 : (j : Int) % 32 = (t : Int) := by omega
          have e9 : IntKind.i64.wrap (l : Int) = (l : Int) := IntWalk.i64_in _ (by omega)
          have e10 : min t 32 = t := by omega
          have e11 : (u9 : Int) / 2 ^ t = (u : Int) := by
            rw [show (u9 : Int) / 2 ^ t = ((u9 / 2 ^ t : Nat) : Int) by push_cast; rfl, hu]
          have e12 : IntKind.i64.wrap ((j : Int) - 1) = (j : Int) - 1 := IntWalk.i64_in _ (by omega)
          have j0 : (j : Int) ≥ 0 := by omega
          have j1 : (0 : Int) ≤ (l : Int) := by omega
          have j2 : (l : Int) < (k : Int) := by omega
          have j3 : (0 : Int) ≤ (t : Int) := by omega
          have hst := bit_step _ _ _ hbit.symm
          have C1 := ML.out wr V nv cv v V nv cv (num v) f3 f1 hvm f1 (HNR.out v hvm) (by rw [val_num]; exact hvm) ⟨hnc, hcc⟩ ⟨hnc, hcc⟩ (by omega) (by omega)
          rw [val_num] at C1
          have hvv : v * v % m = val x ^ (2 * (val ex / 2 ^ (j + 1))) % m := by
            rw [f2, ← Nat.mul_mod, pow_twice]
          obtain ⟨v2, hv2⟩ : ∃ v2, v * v % m = v2 := ⟨_, rfl⟩
          rw [hv2] at C1 hvv
          have hv2m : v2 < m := by rw [← hv2]; exact Nat.mod_lt _ hm0
          have C1 := Lib.hid C1
          have HST := Lib.hid (And.intro hst hvv)
          have F3 := Lib.hid f3
          have CX := Lib.hid (And.intro hbx cx)
          have hb01 : b0 = 0 ∨ b0 = 1 := by omega
          clear hl9 ht hbit hu9 hu hb0 cx hbx f1 f2 f3 hst hvv hv2 HK
          go_wp2_with fail
          refine C1.out.mono ?_
          rintro e w4 ⟨A4, k4, d4, rfl, s4, l4, m4, p4, hb⟩
          have HB4 := Lib.hid (kp_call F3.out hb)
          have S4 := Lib.hid s4
          have cx1 := (HB4.out.cell (p := ⟨bx, ox + l, none⟩) CX.out.1).trans CX.out.2
          have hk4 := HSM.out v2 w4 A4 k4 s4 hv2m
          clear C1 s4 hb F3
          rcases hb01 with rfl | rfl
          · have HN : Hid (RU w4 A4 k4 (num v2) ∧ v2 = val x ^ (val ex / 2 ^ j) % m ∧ Below w.heap.size w w4) := ⟨S4.out, by rw [HST.out.1]; exact HST.out.2, HB4.out⟩
            have t1 : (((0 : Nat) : Int) == 1) = false := by simp
            clear HST S4 HB4
            go_wp2
            go_roundw
            case rel => exact ⟨j, v2, A4, k4, d4, rfl, rfl, by omega, hv2m, m4, p4, HN.out⟩
            case measure => simp [intOf]
          · have C2 := ML.out w4 A4 k4 d4 v2 A n c x HB4.out S4.out hv2m (HA.out.below HB4.out) HX.out.2 HX.out.1 ⟨m4, p4⟩ hc (by omega) (by omega)
            have hvx : v2 * val x % m = val x ^ (val ex / 2 ^ j) % m := by
              rw [HST.out.1, HST.out.2, Nat.mod_mul_mod, ← Nat.pow_succ]
            obtain ⟨v3, hv3⟩ : ∃ v3, v2 * val x % m = v3 := ⟨_, rfl⟩
            rw [hv3] at C2 hvx
            have hv3m : v3 < m := by rw [← hv3]; exact Nat.mod_lt _ hm0
            have C2 := Lib.hid C2
            have HVX := Lib.hid hvx
            have t1 : (((1 : Nat) : Int) == 1) = true := by simp
            clear hv3 hvx HST S4
            go_wp2_with fail
            refine C2.out.mono ?_
            rintro e w5 ⟨A5, k5, d5, rfl, s5, l5, m5, p5, hb⟩
            have HN : Hid (RU w5 A5 k5 (num v3) ∧ v3 = val x ^ (val ex / 2 ^ j) % m ∧ Below w.heap.size w w5) := ⟨s5, HVX.out, kp_call HB4.out hb⟩
            clear C2 s5 hb HB4
            go_wp2
            go_roundw
            case rel => exact ⟨j, v3, A5, k5, d5, rfl, rfl, by omega, hv3m, m5, p5, HN.out⟩
            case measure => simp [intOf]
end Go.Proofs.Ytcmhacecnahfoaa
