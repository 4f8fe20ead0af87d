/-
  mont: the statement MontReckons.
-/
import Derived.Test.YtcmhacecnahfoaaMo
namespace Go.Proofs.Ytcmhacecnahfoaa
open Go.RowKit Go
set_option linter.unusedVariables false
set_option linter.unusedSimpArgs false
set_option maxRecDepth 100000
theorem MDO.below {w w' : World} {base g m : Nat} (h : MDO w base g m) (hb : Below w.heap.size w w') : MDO w' base g m := by
  obtain ⟨⟨M, n, c, Q, k, d, hn, hg, h1, h2, h3, h4⟩, hi⟩ := h
  exact ⟨⟨M, n, c, Q, k, d, hn, hg, has_below h1 hb, h2.below hb (Nat.le_refl _), h3.below hb, h4⟩, hi⟩
theorem MDO.set {w : World} {base g m k j : Nat} {u : Value} (h : MDO w base g m) (hk : k < base) : MDO (w.setCell ⟨k, j, none⟩ u) base g m := by
  obtain ⟨⟨M, n, c, Q, kq, d, hn, hg, h1, h2, h3, h4⟩, hi⟩ := h
  refine ⟨⟨M, n, c, Q, kq, d, hn, hg, has_set h1 (by omega), h2.kept (grown_one w k j u) ?_, ?_, h4⟩, hi⟩
  · cases e : blk M with
    | none => exact .inl rfl
    | some b => right; intro e2; injection e2 with e2; have := (h2.blk_lt e).1; omega
  · obtain ⟨q1, q2, q3⟩ := h3
    refine ⟨q1, q2, ?_⟩
    rcases q3 with q3 | ⟨gq, L, e, q4, q5, q6⟩
    · exact .inl q3
    · exact .inr ⟨gq, L, e, q4, q5.far (by omega), q6⟩
theorem mvast_is (A B : Option Addr) (n c k d : Nat) (w : World) (hn : n ≤ 9223372036854775807) (hk : k ≤ 9223372036854775807) :
    Calls Try.prog 8 #[.slice A n c, .slice B k d] w fun e w' => e = .returned (.bool (decide (130 < n) || decide (300 < k) || decide (8192 < k * n * n))) ∧ w = w' := by
  by_cases h1 : 130 < n
  · have i1 : (n : Int) > 130 := by omega
    rw [decide_eq_true h1, Bool.true_or, Bool.true_or]
    clear h1
    go_enter Try.func8, Try.ntmps8
    go_wp2
    go_ret
    exact ⟨rfl, rfl⟩
  · have i1 : ¬ (n : Int) > 130 := by omega
    by_cases h2 : 300 < k
    · have i2 : (k : Int) > 300 := by omega
      rw [decide_eq_false h1, decide_eq_true h2, Bool.false_or, Bool.true_or]
      clear h2 h1
      go_enter Try.func8, Try.ntmps8
      go_wp2
      go_ret
      exact ⟨rfl, rfl⟩
    · have i2 : ¬ (k : Int) > 300 := by omega
      rw [decide_eq_false h1, decide_eq_false h2, Bool.false_or, Bool.false_or]
      have hpi : (k : Int) * (n : Int) = ((k * n : Nat) : Int) := by push_cast; rfl
      have hpl : k * n ≤ 300 * 130 := Nat.mul_le_mul (by omega) (by omega)
      obtain ⟨kn, hkn⟩ : ∃ kn, k * n = kn := ⟨_, rfl⟩
      rw [hkn] at hpi hpl ⊢
      have hqi : (kn : Int) * (n : Int) = ((kn * n : Nat) : Int) := by push_cast; rfl
      have hql : kn * n ≤ 39000 * 130 := Nat.mul_le_mul (by omega) (by omega)
      obtain ⟨knn, hknn⟩ : ∃ knn, kn * n = knn := ⟨_, rfl⟩
      rw [hknn] at hqi hql ⊢
      have u1 : IntKind.i64.wrap ((k : Int) * (n : Int)) = (kn : Int) := by rw [hpi]; exact IntWalk.i64_in _ (by omega)
      have u2 : IntKind.i64.wrap ((kn : Int) * (n : Int)) = (knn : Int) := by rw [hqi]; exact IntWalk.i64_in _ (by omega)
      have H := Lib.hid (show n ≤ 130 ∧ k ≤ 300 by omega)
      clear hpi hkn hqi hknn h1 h2
      by_cases h3 : 8192 < knn
      · have i3 : (knn : Int) > 8192 := by omega
        rw [decide_eq_true h3]
        clear h3
        go_enter Try.func8, Try.ntmps8
        go_wp2
        go_ret
        exact ⟨rfl, rfl⟩
      · have i3 : ¬ (knn : Int) > 8192 := by omega
        rw [decide_eq_false h3]
        clear h3
        go_enter Try.func8, Try.ntmps8
        go_wp2
        go_ret
        exact ⟨rfl, rfl⟩
set_option maxHeartbeats 8000000 in
theorem mreck_vast (A : Option Addr) (n0 c0 : Nat) (ms : List Nat) (B : Option Addr) (n1 c1 : Nat) (x : List Nat) (C : Option Addr) (n2 c2 : Nat) (y : List Nat) (D : Option Addr) (n3 c3 : Nat) (ex : List Nat) (w : World) (h0 : IsUs w A n0 c0 ms) (h1 : IsUs w B n1 c1 x) (h2 : IsUs w C n2 c2 y) (h3 : IsUs w D n3 c3 ex) (bv : Bool) (VA : Calls Try.prog 8 #[.slice A n0 c0, .slice D n3 c3] w fun e w' => e = .returned (.bool bv) ∧ w = w') (hv : bv = true ∨ 300 < n1 ∨ 300 < n2) :
    Calls Try.prog 3 #[.slice A n0 c0, .slice B n1 c1, .slice C n2 c2, .slice D n3 c3] w fun e w' => e = .returned (.bool true) ∧ Below w.heap.size w w' := by
  clear h0 h1 h2 h3
  have VB9 := Lib.hid VA
  clear VA
  cases bv with
  | true =>
    clear hv
    go_enter Try.func3, Try.ntmps3
    go_wp2_with fail
    refine VB9.out.mono ?_
    rintro e w9 ⟨rfl, rfl⟩
    clear VB9
    go_wp2_with fail
    (with_reducible refine (mworks_any w).mono ?_)
    rintro e w1 ⟨rfl, hb⟩
    have HB := Lib.hid hb
    clear hb
    go_wp2
    go_ret
    exact ⟨rfl, HB.out⟩
  | false =>
    by_cases v1 : 300 < n1
    · have i1 : (n1 : Int) > 300 := by omega
      clear hv v1
      go_enter Try.func3, Try.ntmps3
      go_wp2_with fail
      refine VB9.out.mono ?_
      rintro e w9 ⟨rfl, rfl⟩
      clear VB9
      go_wp2_with fail
      (with_reducible refine (mworks_any w).mono ?_)
      rintro e w1 ⟨rfl, hb⟩
      have HB := Lib.hid hb
      clear hb
      go_wp2
      go_ret
      exact ⟨rfl, HB.out⟩
    · have i1 : ¬ (n1 : Int) > 300 := by omega
      have i2 : (n2 : Int) > 300 := by
        rcases hv with h | h | h
        · cases h
        · omega
        · omega
      clear hv v1
      go_enter Try.func3, Try.ntmps3
      go_wp2_with fail
      refine VB9.out.mono ?_
      rintro e w9 ⟨rfl, rfl⟩
      clear VB9
      go_wp2_with fail
      (with_reducible refine (mworks_any w).mono ?_)
      rintro e w1 ⟨rfl, hb⟩
      have HB := Lib.hid hb
      clear hb
      go_wp2
      go_ret
      exact ⟨rfl, HB.out⟩
set_option maxHeartbeats 8000000 in
theorem mreck_no (A : Option Addr) (n0 c0 : Nat) (ms : List Nat) (B : Option Addr) (n1 c1 : Nat) (x : List Nat) (C : Option Addr) (n2 c2 : Nat) (y : List Nat) (D : Option Addr) (n3 c3 : Nat) (ex : List Nat) (w : World) (h0 : IsUs w A n0 c0 ms) (h1 : IsUs w B n1 c1 x) (h2 : IsUs w C n2 c2 y) (h3 : IsUs w D n3 c3 ex) (VA : Calls Try.prog 8 #[.slice A n0 c0, .slice D n3 c3] w fun e w' => e = .returned (.bool false) ∧ w = w') (v0 : n0 ≤ 130) (v1 : n1 ≤ 300) (v2 : n2 ≤ 300) (v3 : n3 ≤ 300) (hmy : mayB ms = false) :
    Calls Try.prog 3 #[.slice A n0 c0, .slice B n1 c1, .slice C n2 c2, .slice D n3 c3] w fun e w' => e = .returned (.bool true) ∧ Below w.heap.size w w' := by
  have IM := Lib.hid h0.ru
  have IX := Lib.hid h1.ru
  have IY := Lib.hid h2.ru
  have IE9 := Lib.hid h3.ru
  have le0 := h0.le
  have mx0 : c0 ≤ 9223372036854775807 := by have h := h0.max; unfold maxLen at h; exact h
  have le1 := h1.le
  have mx1 : c1 ≤ 9223372036854775807 := by have h := h1.max; unfold maxLen at h; exact h
  have le2 := h2.le
  have mx2 : c2 ≤ 9223372036854775807 := by have h := h2.max; unfold maxLen at h; exact h
  have le3 := h3.le
  have mx3 : c3 ≤ 9223372036854775807 := by have h := h3.max; unfold maxLen at h; exact h
  have i1 : ¬ (n1 : Int) > 300 := by omega
  have i2 : ¬ (n2 : Int) > 300 := by omega
  have HMY := Lib.hid hmy
  have VB9 := Lib.hid VA
  clear h0 h1 h2 h3 hmy VA
  go_enter Try.func3, Try.ntmps3
  go_wp2_with fail
  refine VB9.out.mono ?_
  rintro e w9 ⟨rfl, rfl⟩
  clear VB9
  go_wp2_with fail
  (with_reducible refine (mtwin_any A n0 c0 ms w IM.out (by omega)).mono ?_)
  rintro e w1 ⟨A1, k1, rfl, o1, hb⟩
  have HB := Lib.hid hb
  have R1 := Lib.hid (ru_of_own o1 IM.out.lim)
  clear o1
  clear hb
  go_wp2_with fail
  (with_reducible refine (new_no A1 n0 k1 ms w1 R1.out (by omega) HMY.out).mono ?_)
  rintro e w2 ⟨rfl, hb⟩
  replace R1 := Lib.hid (R1.out.below hb)
  replace HB := Lib.hid (kp_call HB.out hb)
  clear hb
  go_wp2_with fail
  (with_reducible refine ((HMY.out ▸ dmay_any A n0 c0 ms w2 (IM.out.below HB.out) (by omega)) : Calls _ _ _ w2 (fun e w' => e = .returned (.bool false) ∧ w2 = w')).mono ?_)
  rintro e w9 ⟨rfl, rfl⟩
  go_wp2_with fail
  (with_reducible refine ((HMY.out ▸ dmay_any A n0 c0 ms w2 (IM.out.below HB.out) (by omega)) : Calls _ _ _ w2 (fun e w' => e = .returned (.bool false) ∧ w2 = w')).mono ?_)
  rintro e w9 ⟨rfl, rfl⟩
  go_wp2_with fail
  (with_reducible refine (same_t A1 A n0 k1 n0 c0 _ _ w2 R1.out (IM.out.below HB.out) (by omega) (by omega) rfl).mono ?_)
  rintro e w3 ⟨rfl, hb⟩
  replace R1 := Lib.hid (R1.out.below hb)
  replace HB := Lib.hid (kp_call HB.out hb)
  clear hb
  go_wp2_with fail
  (with_reducible refine (mworks_any w3).mono ?_)
  rintro e w4 ⟨rfl, hb⟩
  replace R1 := Lib.hid (R1.out.below hb)
  replace HB := Lib.hid (kp_call HB.out hb)
  clear hb
  go_wp2
  go_ret
  exact ⟨rfl, HB.out⟩
set_option maxHeartbeats 32000000 in
theorem mreck_yes (A : Option Addr) (n0 c0 : Nat) (ms : List Nat) (B : Option Addr) (n1 c1 : Nat) (x : List Nat) (C : Option Addr) (n2 c2 : Nat) (y : List Nat) (D : Option Addr) (n3 c3 : Nat) (ex : List Nat) (w : World) (h0 : IsUs w A n0 c0 ms) (h1 : IsUs w B n1 c1 x) (h2 : IsUs w C n2 c2 y) (h3 : IsUs w D n3 c3 ex) (VA : Calls Try.prog 8 #[.slice A n0 c0, .slice D n3 c3] w fun e w' => e = .returned (.bool false) ∧ w = w') (v0 : n0 ≤ 130) (v1 : n1 ≤ 300) (v2 : n2 ≤ 300) (v3 : n3 ≤ 300) (hmy : mayB ms = true) :
    Calls Try.prog 3 #[.slice A n0 c0, .slice B n1 c1, .slice C n2 c2, .slice D n3 c3] w fun e w' => e = .returned (.bool true) ∧ Below w.heap.size w w' := by
  have IM := Lib.hid h0.ru
  have IX := Lib.hid h1.ru
  have IY := Lib.hid h2.ru
  have IE9 := Lib.hid h3.ru
  have le0 := h0.le
  have mx0 : c0 ≤ 9223372036854775807 := by have h := h0.max; unfold maxLen at h; exact h
  have le1 := h1.le
  have mx1 : c1 ≤ 9223372036854775807 := by have h := h1.max; unfold maxLen at h; exact h
  have le2 := h2.le
  have mx2 : c2 ≤ 9223372036854775807 := by have h := h2.max; unfold maxLen at h; exact h
  have le3 := h3.le
  have mx3 : c3 ≤ 9223372036854775807 := by have h := h3.max; unfold maxLen at h; exact h
  have i1 : ¬ (n1 : Int) > 300 := by omega
  have i2 : ¬ (n2 : Int) > 300 := by omega
  have HMY := Lib.hid hmy
  have VB9 := Lib.hid VA
  obtain ⟨hr, hp0, h128, hodd, h3m, hnum, hmod, hlim, hlow⟩ := may_is h0.ru.lim hmy
  have hlm := h0.ru.len
  rw [hlm] at hp0 h128
  obtain ⟨m, hmv⟩ : ∃ m, val ms = m := ⟨_, rfl⟩
  have HMV := Lib.hid hmv
  obtain ⟨⟨qm, em⟩, hq⟩ : ∃ q, mmulQ x y m = q := ⟨_, rfl⟩
  have QM := Lib.hid hq
  clear hq
  obtain ⟨⟨qe, ee⟩, hq⟩ : ∃ q, mexpQ x ex m = q := ⟨_, rfl⟩
  have QE := Lib.hid hq
  clear hq
  have t1 : ((em : Int) == (em : Int)) = true := by simp
  have t2 : ((ee : Int) == (ee : Int)) = true := by simp
  clear h0 h1 h2 h3 hmy VA hr hodd h3m hnum hmod hlim hlow hlm hmv
  go_enter Try.func3, Try.ntmps3
  go_wp2_with fail
  refine VB9.out.mono ?_
  rintro e w9 ⟨rfl, rfl⟩
  clear VB9
  go_wp2_with fail
  (with_reducible refine (mtwin_any A n0 c0 ms w IM.out (by omega)).mono ?_)
  rintro e w1 ⟨A1, k1, rfl, o1, hb⟩
  have HB := Lib.hid hb
  have O1 := Lib.hid o1
  have R1 := Lib.hid (ru_of_own o1 IM.out.lim)
  clear o1
  clear hb
  have hcap1 := O1.out.cap
  obtain ⟨gN, hA1, hgN1, hgN2⟩ := O1.out.shape (by omega)
  subst hA1
  replace O1 : Hid (OwnR w1 w.heap.size 31 1 (some ⟨gN, 0, none⟩) n0 k1 (ms.map v32)) := O1
  have HO1 := O1
  go_wp2_with fail
  (with_reducible refine (new_own (some ⟨gN, 0, none⟩) n0 k1 ms w1 R1.out HMY.out).mono ?_)
  rintro e w2 ⟨g, rfl, hg, hM, hb⟩
  replace R1 := Lib.hid (R1.out.below hb)
  replace HB := Lib.hid (kp_call HB.out hb)
  have MD1 := Lib.hid (HMV.out ▸ hM : MDO w2 w1.heap.size g m)
  replace HO1 := Lib.hid (HO1.out.below hb (Nat.le_refl _))
  clear hM
  clear hb
  go_wp2_with fail
  (with_reducible refine ((HMY.out ▸ dmay_any A n0 c0 ms w2 (IM.out.below HB.out) (by omega)) : Calls _ _ _ w2 (fun e w' => e = .returned (.bool true) ∧ w2 = w')).mono ?_)
  rintro e w9 ⟨rfl, rfl⟩
  go_wp2_with fail
  (with_reducible refine ((HMY.out ▸ dmay_any A n0 c0 ms w2 (IM.out.below HB.out) (by omega)) : Calls _ _ _ w2 (fun e w' => e = .returned (.bool true) ∧ w2 = w')).mono ?_)
  rintro e w9 ⟨rfl, rfl⟩
  go_wp2_with fail
  (with_reducible refine (same_t (some ⟨gN, 0, none⟩) A n0 k1 n0 c0 _ _ w2 R1.out (IM.out.below HB.out) (by omega) (by omega) rfl).mono ?_)
  rintro e w3 ⟨rfl, hb⟩
  replace R1 := Lib.hid (R1.out.below hb)
  replace MD1 := Lib.hid (MD1.out.below hb)
  replace HB := Lib.hid (kp_call HB.out hb)
  replace HO1 := Lib.hid (HO1.out.below hb (Nat.le_refl _))
  clear hb
  clear R1 O1
  have hP1 : Hid (w.heap.size ≤ gN ∧ gN < w1.heap.size) := ⟨hgN1, hgN2⟩
  obtain ⟨P, hPe⟩ : ∃ P, w1.heap.size = P := ⟨_, rfl⟩
  rw [hPe] at MD1 hP1
  have HPE := Lib.hid hPe
  have hlms : (ms.map v32).length = n0 := by rw [List.length_map, IM.out.len]
  have H4 : Hid (∃ vs : List Value, vs.length = n0 ∧ OwnR w3 w.heap.size 31 1 (some ⟨gN, 0, none⟩) n0 k1 vs ∧ MDO w3 P g m ∧ Below w.heap.size w w3) := ⟨_, hlms, HO1.out, MD1.out, HB.out⟩
  clear HO1 MD1 HB hPe hlms
  go_wp2
  go_loopw [12] (fun vi wl => ∃ i : Nat, vi = .int .i64 (i : Int) ∧ i ≤ n0 ∧ Hid (∃ vs : List Value, vs.length = n0 ∧ OwnR wl w.heap.size 31 1 (some ⟨gN, 0, none⟩) n0 k1 vs ∧ MDO wl P g m ∧ Below w.heap.size w wl)) (fun vi _ => n0 - (intOf vi).toNat)
  case atStart => exact ⟨0, rfl, Nat.zero_le _, H4.out⟩
  case round =>
    obtain ⟨i, rfl, hi, HK⟩ := hrel
    clear H4
    by_cases hlt : i < n0
    · as_aux_lemma =>
      have j1 : (i : Int) < (n0 : Int) := by omega
      have j2 : (0 : Int) ≤ (i : Int) := by omega
      have e3 : IntKind.i64.wrap ((i : Int) + 1) = (i : Int) + 1 := IntWalk.i64_in _ (by omega)
      obtain ⟨vs, f1, f2, f3, f4⟩ := HK.out
      obtain ⟨u, hu⟩ : ∃ u, vs[i]? = some u := ⟨_, List.getElem?_eq_getElem (by omega)⟩
      obtain ⟨b9, o9, he9, hb9, hc9⟩ := f2.reads (by rintro rfl; simp at f1; omega)
      injection he9 with he9
      injection he9 with he1 he2
      subst he1; subst he2
      have cz := hc9 i u hu
      rw [Nat.zero_add] at cz
      have fz := f2.free i
      have HN : Hid (∃ vs : List Value, vs.length = n0 ∧ OwnR (wr.setCell ⟨gN, i, none⟩ (.int .u32 4008636142)) w.heap.size 31 1 (some ⟨gN, 0, none⟩) n0 k1 vs ∧ MDO (wr.setCell ⟨gN, i, none⟩ (.int .u32 4008636142)) P g m ∧ Below w.heap.size w (wr.setCell ⟨gN, i, none⟩ (.int .u32 4008636142))) :=
        ⟨vs.set i (.int .u32 4008636142), by rw [List.length_set]; exact f1, f2.stored i _, f3.set hP1.out.2, kp_set f4 hP1.out.1⟩
      clear f1 f2 f3 f4 hu hc9 HK
      go_wp2
      go_roundw
      case rel => exact ⟨i + 1, by go_num, by omega, HN⟩
      case measure => simp [intOf]; omega
    · as_aux_lemma =>
      have j1 : ¬ (i : Int) < (n0 : Int) := by omega
      obtain ⟨vs, f1, f2, f3, f4⟩ := HK.out
      have MD2 := Lib.hid f3.md
      have HB := Lib.hid f4
      clear f1 f2 f3 f4 HK
      go_wp2_with fail
      (with_reducible refine (mtwin_any B n1 c1 x wr (IX.out.below HB.out) (by omega)).mono ?_)
      rintro e w21 ⟨A21, k21, rfl, o21, hb⟩
      replace MD2 := Lib.hid (MD2.out.below hb)
      replace HB := Lib.hid (kp_call HB.out hb)
      have R21 := Lib.hid (ru_of_own o21 IX.out.lim)
      clear o21
      clear hb
      go_wp2_with fail
      (with_reducible refine (mtwin_any C n2 c2 y w21 (IY.out.below HB.out) (by omega)).mono ?_)
      rintro e w22 ⟨A22, k22, rfl, o22, hb⟩
      replace MD2 := Lib.hid (MD2.out.below hb)
      replace R21 := Lib.hid (R21.out.below hb)
      replace HB := Lib.hid (kp_call HB.out hb)
      have R22 := Lib.hid (ru_of_own o22 IY.out.lim)
      clear o22
      clear hb
      go_wp2_with fail
      (with_reducible refine (mtwin_any D n3 c3 ex w22 (IE9.out.below HB.out) (by omega)).mono ?_)
      rintro e w23 ⟨A23, k23, rfl, o23, hb⟩
      replace MD2 := Lib.hid (MD2.out.below hb)
      replace R21 := Lib.hid (R21.out.below hb)
      replace R22 := Lib.hid (R22.out.below hb)
      replace HB := Lib.hid (kp_call HB.out hb)
      have R23 := Lib.hid (ru_of_own o23 IE9.out.lim)
      clear o23
      clear hb
      go_wp2_with fail
      (with_reducible refine ((QM.out ▸ mmul_any g m A21 A22 n1 k21 n2 k22 x y w23 MD2.out R21.out R22.out (by omega) (by omega) : Calls Try.prog _ _ _ (NumR w23 (qm, em)))).mono ?_)
      rintro e w24 ⟨A24, n24, c24, rfl, s24, l24, m24, q24, hb⟩
      replace MD2 := Lib.hid (MD2.out.below hb)
      replace R21 := Lib.hid (R21.out.below hb)
      replace R22 := Lib.hid (R22.out.below hb)
      replace R23 := Lib.hid (R23.out.below hb)
      replace HB := Lib.hid (kp_call HB.out hb)
      have R24 := Lib.hid s24.ru
      clear s24
      clear hb
      go_wp2_with fail
      (with_reducible refine ((QM.out ▸ HMV.out ▸ dMulm_any B C A n1 c1 n2 c2 n0 c0 x y ms w24 (IX.out.below HB.out) (IY.out.below HB.out) (IM.out.below HB.out) (by omega) (by omega) ⟨le1, mx1⟩ ⟨le2, mx2⟩ ⟨le0, mx0⟩ HMY.out : Calls Try.prog _ _ _ (RestD w24 (qm, em)))).mono ?_)
      rintro e w25 ⟨A25, n25, c25, rfl, s25, l25, m25, q25, hb⟩
      replace MD2 := Lib.hid (MD2.out.below hb)
      replace R21 := Lib.hid (R21.out.below hb)
      replace R22 := Lib.hid (R22.out.below hb)
      replace R23 := Lib.hid (R23.out.below hb)
      replace R24 := Lib.hid (R24.out.below hb)
      replace HB := Lib.hid (kp_call HB.out hb)
      have R25 := Lib.hid s25
      clear s25
      clear hb
      go_wp2_with fail
      (with_reducible refine ((QE.out ▸ mexp_all g m A21 A23 n1 k21 n3 k23 x ex w25 MD2.out R21.out R23.out (by omega) (by omega) : Calls Try.prog _ _ _ (NumR w25 (qe, ee)))).mono ?_)
      rintro e w26 ⟨A26, n26, c26, rfl, s26, l26, m26, q26, hb⟩
      replace MD2 := Lib.hid (MD2.out.below hb)
      replace R21 := Lib.hid (R21.out.below hb)
      replace R22 := Lib.hid (R22.out.below hb)
      replace R23 := Lib.hid (R23.out.below hb)
      replace R24 := Lib.hid (R24.out.below hb)
      replace R25 := Lib.hid (R25.out.below hb)
      replace HB := Lib.hid (kp_call HB.out hb)
      have R26 := Lib.hid s26.ru
      clear s26
      clear hb
      go_wp2_with fail
      (with_reducible refine ((QE.out ▸ HMV.out ▸ dExpm_any B D A n1 c1 n3 c3 n0 c0 x ex ms w26 (IX.out.below HB.out) (IE9.out.below HB.out) (IM.out.below HB.out) (by omega) (by omega) ⟨le1, mx1⟩ ⟨le0, mx0⟩ HMY.out : Calls Try.prog _ _ _ (RestD w26 (qe, ee)))).mono ?_)
      rintro e w27 ⟨A27, n27, c27, rfl, s27, l27, m27, q27, hb⟩
      replace MD2 := Lib.hid (MD2.out.below hb)
      replace R21 := Lib.hid (R21.out.below hb)
      replace R22 := Lib.hid (R22.out.below hb)
      replace R23 := Lib.hid (R23.out.below hb)
      replace R24 := Lib.hid (R24.out.below hb)
      replace R25 := Lib.hid (R25.out.below hb)
      replace R26 := Lib.hid (R26.out.below hb)
      replace HB := Lib.hid (kp_call HB.out hb)
      have R27 := Lib.hid s27
      clear s27
      clear hb
      go_wp2_with fail
      (with_reducible refine (same_t A24 A25 n24 c24 n25 c25 _ _ w27 R24.out R25.out (by omega) (by omega) rfl).mono ?_)
      rintro e w28 ⟨rfl, hb⟩
      replace MD2 := Lib.hid (MD2.out.below hb)
      replace R21 := Lib.hid (R21.out.below hb)
      replace R22 := Lib.hid (R22.out.below hb)
      replace R23 := Lib.hid (R23.out.below hb)
      replace R24 := Lib.hid (R24.out.below hb)
      replace R25 := Lib.hid (R25.out.below hb)
      replace R26 := Lib.hid (R26.out.below hb)
      replace R27 := Lib.hid (R27.out.below hb)
      replace HB := Lib.hid (kp_call HB.out hb)
      clear hb
      go_wp2_with fail
      (with_reducible refine (same_t A26 A27 n26 c26 n27 c27 _ _ w28 R26.out R27.out (by omega) (by omega) rfl).mono ?_)
      rintro e w29 ⟨rfl, hb⟩
      replace MD2 := Lib.hid (MD2.out.below hb)
      replace R21 := Lib.hid (R21.out.below hb)
      replace R22 := Lib.hid (R22.out.below hb)
      replace R23 := Lib.hid (R23.out.below hb)
      replace R24 := Lib.hid (R24.out.below hb)
      replace R25 := Lib.hid (R25.out.below hb)
      replace R26 := Lib.hid (R26.out.below hb)
      replace R27 := Lib.hid (R27.out.below hb)
      replace HB := Lib.hid (kp_call HB.out hb)
      clear hb
      go_wp2_with fail
      (with_reducible refine (same_t A21 B n1 k21 n1 c1 _ _ w29 R21.out (IX.out.below HB.out) (by omega) (by omega) rfl).mono ?_)
      rintro e w30 ⟨rfl, hb⟩
      replace MD2 := Lib.hid (MD2.out.below hb)
      replace R21 := Lib.hid (R21.out.below hb)
      replace R22 := Lib.hid (R22.out.below hb)
      replace R23 := Lib.hid (R23.out.below hb)
      replace R24 := Lib.hid (R24.out.below hb)
      replace R25 := Lib.hid (R25.out.below hb)
      replace R26 := Lib.hid (R26.out.below hb)
      replace R27 := Lib.hid (R27.out.below hb)
      replace HB := Lib.hid (kp_call HB.out hb)
      clear hb
      go_wp2_with fail
      (with_reducible refine (same_t A22 C n2 k22 n2 c2 _ _ w30 R22.out (IY.out.below HB.out) (by omega) (by omega) rfl).mono ?_)
      rintro e w31 ⟨rfl, hb⟩
      replace MD2 := Lib.hid (MD2.out.below hb)
      replace R21 := Lib.hid (R21.out.below hb)
      replace R22 := Lib.hid (R22.out.below hb)
      replace R23 := Lib.hid (R23.out.below hb)
      replace R24 := Lib.hid (R24.out.below hb)
      replace R25 := Lib.hid (R25.out.below hb)
      replace R26 := Lib.hid (R26.out.below hb)
      replace R27 := Lib.hid (R27.out.below hb)
      replace HB := Lib.hid (kp_call HB.out hb)
      clear hb
      go_wp2_with fail
      (with_reducible refine (same_t A23 D n3 k23 n3 c3 _ _ w31 R23.out (IE9.out.below HB.out) (by omega) (by omega) rfl).mono ?_)
      rintro e w32 ⟨rfl, hb⟩
      replace MD2 := Lib.hid (MD2.out.below hb)
      replace R21 := Lib.hid (R21.out.below hb)
      replace R22 := Lib.hid (R22.out.below hb)
      replace R23 := Lib.hid (R23.out.below hb)
      replace R24 := Lib.hid (R24.out.below hb)
      replace R25 := Lib.hid (R25.out.below hb)
      replace R26 := Lib.hid (R26.out.below hb)
      replace R27 := Lib.hid (R27.out.below hb)
      replace HB := Lib.hid (kp_call HB.out hb)
      clear hb
      go_wp2_with fail
      (with_reducible refine (mworks_any w32).mono ?_)
      rintro e w33 ⟨rfl, hb⟩
      replace MD2 := Lib.hid (MD2.out.below hb)
      replace R21 := Lib.hid (R21.out.below hb)
      replace R22 := Lib.hid (R22.out.below hb)
      replace R23 := Lib.hid (R23.out.below hb)
      replace R24 := Lib.hid (R24.out.below hb)
      replace R25 := Lib.hid (R25.out.below hb)
      replace R26 := Lib.hid (R26.out.below hb)
      replace R27 := Lib.hid (R27.out.below hb)
      replace HB := Lib.hid (kp_call HB.out hb)
      clear hb
      go_wp2
      go_ret
      exact ⟨rfl, HB.out⟩
theorem mreck_walk (A : Option Addr) (n0 c0 : Nat) (ms : List Nat) (B : Option Addr) (n1 c1 : Nat) (x : List Nat) (C : Option Addr) (n2 c2 : Nat) (y : List Nat) (D : Option Addr) (n3 c3 : Nat) (ex : List Nat) (w : World) (h0 : IsUs w A n0 c0 ms) (h1 : IsUs w B n1 c1 x) (h2 : IsUs w C n2 c2 y) (h3 : IsUs w D n3 c3 ex) :
    Calls Try.prog 3 #[.slice A n0 c0, .slice B n1 c1, .slice C n2 c2, .slice D n3 c3] w fun e w' => e = .returned (.bool true) ∧ Below w.heap.size w w' := by
  have b0 : n0 ≤ 9223372036854775807 := by have := h0.le; have h := h0.max; unfold maxLen at h; omega
  have b3 : n3 ≤ 9223372036854775807 := by have := h3.le; have h := h3.max; unfold maxLen at h; omega
  obtain ⟨bv, hbv⟩ : ∃ bv, (decide (130 < n0) || decide (300 < n3) || decide (8192 < n3 * n0 * n0)) = bv := ⟨_, rfl⟩
  have VA2 : Calls Try.prog 8 #[.slice A n0 c0, .slice D n3 c3] w fun e w' => e = .returned (.bool bv) ∧ w = w' := by
    rw [← hbv]
    exact mvast_is A D n0 c0 n3 c3 w b0 b3
  by_cases hv : bv = true ∨ 300 < n1 ∨ 300 < n2
  · exact mreck_vast A n0 c0 ms B n1 c1 x C n2 c2 y D n3 c3 ex w h0 h1 h2 h3 bv VA2 hv
  · have hbf : bv = false := by cases bv <;> simp_all
    subst hbf
    have hh : n0 ≤ 130 ∧ n3 ≤ 300 := by
      simp only [Bool.or_eq_false_iff, decide_eq_false_iff_not] at hbv
      omega
    cases hmy : mayB ms with
    | false => exact mreck_no A n0 c0 ms B n1 c1 x C n2 c2 y D n3 c3 ex w h0 h1 h2 h3 VA2 (by omega) (by omega) (by omega) (by omega) hmy
    | true => exact mreck_yes A n0 c0 ms B n1 c1 x C n2 c2 y D n3 c3 ex w h0 h1 h2 h3 VA2 (by omega) (by omega) (by omega) (by omega) hmy
end Go.Proofs.Ytcmhacecnahfoaa
