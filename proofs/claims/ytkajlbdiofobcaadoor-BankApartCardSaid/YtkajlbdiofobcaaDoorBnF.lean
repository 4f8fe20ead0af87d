/-
  bank: the record that stands at a place.
-/
import Derived.Test.YtkajlbdiofobcaaDoorBnE
namespace Go.Proofs.YtkajlbdiofobcaaDoor
open Go.RowKit Go
set_option linter.unusedVariables false
set_option linter.unusedSimpArgs false
set_option maxRecDepth 100000
/-- What recordAt answers. -/
def RecPost (w : World) (at_ : Nat) (q : Option RD) (e : Ending) (w' : World) : Prop :=
  (match q with
    | none => e = .returned (.tuple #[.agg #[.int .i64 0, .int .i64 0, .slice none 0 0, .bool false], .bool false])
    | some r => ∃ A n c, e = .returned (.tuple #[.agg #[.int .i64 (at_ : Int), .int .i64 (r.key : Int), .slice A n c, .bool r.lives], .bool true]) ∧ OwnB w' w.heap.size A n c r.body) ∧ Below w.heap.size w w'
theorem getD_of {L : List UInt8} {i : Nat} {q : UInt8} (h : L[i]? = some q) : L.getD i 0 = q := by rw [List.getD_eq_getElem?_getD, h]; rfl
section
variable {w : World} {base b g a c F C : Nat} {S : FS}
set_option maxHeartbeats 4000000 in
theorem recordAt_any (h : BK w base b g a c S F C) (hS : S.off = false) (ht : Tabs w) (at_ : Nat) (hat : at_ ≤ C * S.s) :
    Calls Tryd.prog 60 #[.pointer (some ⟨b, 0, none⟩), .int .i64 (at_ : Int)] w (RecPost w at_ (recQ ((S.bank F C).drop at_))) := by
  have hbig := h.fl.big
  have hin := h.in_
  have hXl := bank_len h
  obtain ⟨M, hM⟩ : ∃ M, C * S.s = M := ⟨_, rfl⟩
  obtain ⟨L, hL⟩ : ∃ L, (S.bank F C).drop at_ = L := ⟨_, rfl⟩
  have hLl : L.length = M - at_ := by rw [← hL, List.length_drop, hXl, hM]
  have hcut : ∀ o k, cut (S.bank F C) (at_ + o) k = cut L o k := fun o k => by rw [← hL, cut_drop]
  have YES : Hid (∀ W (o n : Nat), Below w.heap.size w W → at_ + o + n ≤ M → Calls Tryd.prog 51 #[.pointer (some ⟨b, 0, none⟩), .int .i64 ((at_ + o : Nat) : Int), .int .i64 (n : Int)] W fun e w' => ∃ A c', e = .returned (.tuple #[.slice A n c', .bool true]) ∧ OwnB w' W.heap.size A n c' (cut L o n) ∧ Below W.heap.size W w') := fun W o n hb hn => by
    have := bytes_yes (h.below hb) hS (at_ + o) n (by omega)
    rw [hcut] at this
    exact this
  have NAY : Hid (∀ W (o n : Nat), Below w.heap.size w W → at_ + o ≤ M → n ≤ 1000000000 → M < at_ + o + n → Calls Tryd.prog 51 #[.pointer (some ⟨b, 0, none⟩), .int .i64 ((at_ + o : Nat) : Int), .int .i64 (n : Int)] W fun e w' => e = .returned (.tuple #[.slice none 0 0, .bool false]) ∧ Below W.heap.size W w') := fun W o n hb ho hn9 hn =>
    bytes_no (h.below hb) (at_ + o) n (by omega) hn9 (by omega)
  rw [hL]
  have HT := Lib.hid ht
  rw [hM] at hat hin
  clear ht h hcut hL hXl hM
  by_cases h12 : M < at_ + 12
  · have NO : Hid (recQ L = none) := by
      show recQ L = none
      unfold recQ
      rw [if_pos (by omega)]
    clear YES
    go_enter Tryd.func60, Tryd.ntmps60
    go_wp2_with fail
    refine calls_nm fun W hW => ?_
    have hk : W.heap[w.heap.size]? = some (.cells #[.int .i64 0, .int .i64 0, .slice none 0 0, .bool false] 85) := by rw [← hW]; exact has_new _ _
    have hbW : Below w.heap.size w W := by rw [← hW]; exact kp_alloc (Below.refl _ _) _
    clear hW
    refine (NAY.out W 0 12 hbW (by omega) (by omega) (by omega)).mono ?_
    rintro e w1 ⟨rfl, hb1⟩
    have k4 := has_below hk hb1
    have HB4 := Lib.hid (kp_call hbW hb1)
    obtain ⟨f0, f1, f2, f3⟩ := free_4 k4
    obtain ⟨e0, e1, e2, e3⟩ := cells_4 k4
    clear hk hbW hb1 NAY
    go_wp2
    refine bodyPost_ret (results_ct Tryd.results60 _ (LV.agg (set_4 k4) Tryd.underlying85 rfl (by kernel_rfl))) rfl ?_
    unfold RecPost
    rw [NO.out]
    exact ⟨rfl, below_4 HB4.out (Nat.le_refl _)⟩
  have hd2 : ∃ q0 q1, L[0]? = some q0 ∧ L[1]? = some q1 := ⟨_, _, List.getElem?_eq_getElem (by omega), List.getElem?_eq_getElem (by omega)⟩
  obtain ⟨q0, q1, hq0, hq1⟩ := hd2
  have g0 := getD_of hq0
  have g1 := getD_of hq1
  obtain ⟨hd, hhd⟩ : ∃ hd, cut L 0 12 = hd := ⟨_, rfl⟩
  have hhd2 : hd = L.take 12 := by rw [← hhd]; unfold cut; rw [List.drop_zero]
  have hc : ∀ o k, o + k ≤ 12 → cut hd o k = cut L o k := fun o k hk => by rw [hhd2, cut_take _ _ _ _ hk]
  have hsum : ∀ B, sumR hd B = sumR L B := fun B => by unfold sumR; rw [hc 1 7 (by omega)]
  have hk2 : leN (cut L 2 2) < 65536 := by have := leN_lt (cut L 2 2); rw [cut_len _ _ _ (by omega)] at this; simpa using this
  have hk4 : leN (cut L 4 4) < 4294967296 := by have := leN_lt (cut L 4 4); rw [cut_len _ _ _ (by omega)] at this; simpa using this
  have hk8 : leN (cut L 8 4) < 4294967296 := by have := leN_lt (cut L 8 4); rw [cut_len _ _ _ (by omega)] at this; simpa using this
  have hh0 : hd[0]? = some q0 := by rw [hhd2, List.getElem?_take, if_pos (by omega)]; exact hq0
  have hh1 : hd[1]? = some q1 := by rw [hhd2, List.getElem?_take, if_pos (by omega)]; exact hq1
  have RQ := recQ.eq_1 L
  rw [if_neg (by omega), g0, g1] at RQ
  have GETS : Hid (∀ W A c1 (o k : Nat), Below w.heap.size w W → RB W A 12 hd → isSz (k : Int) = true → o + k ≤ 12 → Calls Tryd.prog 45 #[.slice A 12 c1, .int .i64 (o : Int), .int .i64 (k : Int)] W fun e w' => e = .returned (.tuple #[.int .u64 (leN (cut L o k) : Nat), .int .i64 0]) ∧ W = w') := fun W A c1 o k hb hR hk ho => by
    have := get_ok A 12 c1 hd o k W hR (HT.out.below hb).oct (by omega) hk ho
    rw [hc o k ho] at this
    exact this
  obtain ⟨kk, hkk⟩ : ∃ kk, leN (cut L 2 2) = kk := ⟨_, rfl⟩
  obtain ⟨vv, hvv⟩ : ∃ vv, leN (cut L 4 4) = vv := ⟨_, rfl⟩
  obtain ⟨ss, hss⟩ : ∃ ss, leN (cut L 8 4) = ss := ⟨_, rfl⟩
  rw [hkk] at hk2 RQ
  rw [hvv] at hk4 RQ
  rw [hss] at hk8 RQ
  have GK : Hid (∀ W A c1, Below w.heap.size w W → RB W A 12 hd → Calls Tryd.prog 45 #[.slice A 12 c1, .int .i64 2, .int .i64 2] W fun e w' => e = .returned (.tuple #[.int .u64 (kk : Int), .int .i64 0]) ∧ W = w') := fun W A c1 hb hR => by rw [← hkk]; exact GETS.out W A c1 2 2 hb hR (by decide) (by omega)
  have GV : Hid (∀ W A c1, Below w.heap.size w W → RB W A 12 hd → Calls Tryd.prog 45 #[.slice A 12 c1, .int .i64 4, .int .i64 4] W fun e w' => e = .returned (.tuple #[.int .u64 (vv : Int), .int .i64 0]) ∧ W = w') := fun W A c1 hb hR => by rw [← hvv]; exact GETS.out W A c1 4 4 hb hR (by decide) (by omega)
  have GS : Hid (∀ W A c1, Below w.heap.size w W → RB W A 12 hd → Calls Tryd.prog 45 #[.slice A 12 c1, .int .i64 8, .int .i64 4] W fun e w' => e = .returned (.tuple #[.int .u64 (ss : Int), .int .i64 0]) ∧ W = w') := fun W A c1 hb hR => by rw [← hss]; exact GETS.out W A c1 8 4 hb hR (by decide) (by omega)
  have HRQ := Lib.hid RQ
  have HSM := Lib.hid hsum
  have HHD := Lib.hid hhd
  clear hkk hvv hss GETS hc hhd2 hq0 hq1 g0 g1 RQ hsum hhd
  go_enter Tryd.func60, Tryd.ntmps60
  go_wp2_with fail
  refine calls_nm fun W hW => ?_
  have hk : W.heap[w.heap.size]? = some (.cells #[.int .i64 0, .int .i64 0, .slice none 0 0, .bool false] 85) := by rw [← hW]; exact has_new _ _
  have hbW : Below w.heap.size w W := by rw [← hW]; exact kp_alloc (Below.refl _ _) _
  have hsW : W.heap.size = w.heap.size + 1 := by rw [← hW]; simp
  clear hW
  have Y1 := YES.out W 0 12 hbW (by omega)
  rw [HHD.out] at Y1
  refine Y1.mono ?_
  clear Y1 HHD
  rintro e w1 ⟨A1, c1, rfl, ho1, hb1⟩
  have k4 := has_below hk hb1
  have HB4 := Lib.hid (kp_call hbW hb1)
  obtain ⟨f0, f1, f2, f3⟩ := free_4 k4
  obtain ⟨e0, e1, e2, e3⟩ := cells_4 k4
  obtain ⟨g1, hg1, hgl, hgu⟩ := ho1.shape (by have := ho1.cap.1; omega)
  subst hg1
  have x0 := ho1.cellAt 0 q0 hh0
  have x1 := ho1.cellAt 1 q1 hh1
  have hcap1 : c1 ≤ 9223372036854775807 := by have := ho1.cap.2; unfold maxLen at this; omega
  have hcap0 := ho1.cap.1
  have HO1 := Lib.hid ho1
  have HSW := Lib.hid hsW
  clear hk hbW hb1 ho1 hh0 hh1 hsW
  by_cases hst : q0 = 252 ∨ q0 = 248
  rotate_left
  · have NO : Hid (recQ L = none) := by
      show recQ L = none
      rw [HRQ.out, if_pos (fun hx => hst hx.1)]
    have n1 : ¬ q0.toNat = 252 := fun e => hst (.inl (UInt8.toNat_inj.1 e))
    have n2 : ¬ q0.toNat = 248 := fun e => hst (.inr (UInt8.toNat_inj.1 e))
    have m1 : ((q0.toNat : Int) != 252) = true := by simp; omega
    have m2 : ((q0.toNat : Int) != 248) = true := by simp; omega
    clear hst HRQ
    go_wp2
    refine bodyPost_ret (results_ct Tryd.results60 _ (LV.agg (set_4 k4) Tryd.underlying85 rfl (by kernel_rfl))) rfl ?_
    unfold RecPost
    rw [NO.out]
    exact ⟨rfl, below_4 HB4.out (Nat.le_refl _)⟩
  by_cases hq : q1 = 165
  rotate_left
  · have NO : Hid (recQ L = none) := by
      show recQ L = none
      rw [HRQ.out, if_pos (fun hx => hq hx.2)]
    have n1 : ¬ q1.toNat = 165 := fun e => hq (UInt8.toNat_inj.1 e)
    have m1 : ((q1.toNat : Int) != 165) = true := by simp; omega
    clear hq HRQ
    rcases hst with rfl | rfl
    all_goals
      go_wp2
      refine bodyPost_ret (results_ct Tryd.results60 _ (LV.agg (set_4 k4) Tryd.underlying85 rfl (by kernel_rfl))) rfl ?_
      unfold RecPost
      rw [NO.out]
      exact ⟨rfl, below_4 HB4.out (Nat.le_refl _)⟩
  subst hq
  have RQ := HRQ.out
  rw [if_neg (by simp [hst])] at RQ
  have HRQ := Lib.hid RQ
  clear RQ
  have LF := Lib.hid (fun W => lfit_any (kk : Int) (vv : Int) W)
  have u1 : IntKind.i64.wrap (kk : Int) = (kk : Int) := IntWalk.i64_in _ (by omega)
  have u2 : IntKind.i64.wrap (vv : Int) = (vv : Int) := IntWalk.i64_in _ (by omega)
  by_cases hfit : 1 ≤ kk ∧ kk ≤ 255 ∧ vv ≤ 65536
  rotate_left
  · have NO : Hid (recQ L = none) := by
      show recQ L = none
      rw [HRQ.out, if_pos hfit]
    have hf : decide (1 ≤ (kk : Int) ∧ (kk : Int) ≤ 255 ∧ (vv : Int) ≤ 65536) = false := decide_eq_false (fun hx => hfit (by omega))
    rw [hf] at LF
    clear HRQ hfit hf
    rcases hst with rfl | rfl
    all_goals
      go_wp2_with fail
      refine (GK.out _ _ c1 HB4.out HO1.out.rb).mono ?_
      rintro e w2 ⟨rfl, rfl⟩
      go_wp2_with fail
      refine (GV.out _ _ c1 HB4.out HO1.out.rb).mono ?_
      rintro e w2 ⟨rfl, rfl⟩
      go_wp2_with fail
      refine (GS.out _ _ c1 HB4.out HO1.out.rb).mono ?_
      rintro e w2 ⟨rfl, rfl⟩
      go_wp2_with fail
      refine (LF.out _).mono ?_
      rintro e w2 ⟨rfl, rfl⟩
      go_wp2
      refine bodyPost_ret (results_ct Tryd.results60 _ (LV.agg (set_4 k4) Tryd.underlying85 rfl (by kernel_rfl))) rfl ?_
      unfold RecPost
      rw [NO.out]
      exact ⟨rfl, below_4 HB4.out (Nat.le_refl _)⟩
  have RQ := HRQ.out
  rw [if_neg (by simp [hfit])] at RQ
  have hf : decide (1 ≤ (kk : Int) ∧ (kk : Int) ≤ 255 ∧ (vv : Int) ≤ 65536) = true := decide_eq_true (by omega)
  rw [hf] at LF
  obtain ⟨nn, hnn⟩ : ∃ nn, kk + vv = nn := ⟨_, rfl⟩
  have u3 : IntKind.u64.wrap ((kk : Int) + (vv : Int)) = (nn : Int) := by rw [IntKind.wrap_u64]; omega
  have u4 : IntKind.i64.wrap (nn : Int) = (nn : Int) := IntWalk.i64_in _ (by omega)
  have u5 : IntKind.i64.wrap ((at_ : Int) + 12) = ((at_ + 12 : Nat) : Int) := by rw [IntWalk.i64_in _ (by omega)]; omega
  rw [hnn] at RQ
  have HRQ := Lib.hid RQ
  clear hf RQ
  by_cases hlong : M < at_ + 12 + nn
  · have NO : Hid (recQ L = none) := by
      show recQ L = none
      rw [HRQ.out, if_pos (by omega)]
    have NY := Lib.hid (NAY.out w1 12 nn HB4.out (by omega) (by omega) hlong)
    clear HRQ hfit NAY YES hnn hlong
    rcases hst with rfl | rfl
    all_goals
      go_wp2_with fail
      refine (GK.out _ _ c1 HB4.out HO1.out.rb).mono ?_
      rintro e w2 ⟨rfl, rfl⟩
      go_wp2_with fail
      refine (GV.out _ _ c1 HB4.out HO1.out.rb).mono ?_
      rintro e w2 ⟨rfl, rfl⟩
      go_wp2_with fail
      refine (GS.out _ _ c1 HB4.out HO1.out.rb).mono ?_
      rintro e w2 ⟨rfl, rfl⟩
      go_wp2_with fail
      refine (LF.out _).mono ?_
      rintro e w2 ⟨rfl, rfl⟩
      clear f0 f1 f2 f3 e0 e1 e2 e3
      go_wp2_with fail
      refine NY.out.mono ?_
      rintro e w3 ⟨rfl, hb3⟩
      replace k4 := has_below k4 hb3
      replace HB4 := Lib.hid (kp_call HB4.out hb3)
      obtain ⟨f0, f1, f2, f3⟩ := free_4 k4
      obtain ⟨e0, e1, e2, e3⟩ := cells_4 k4
      clear hb3
      go_wp2
      refine bodyPost_ret (results_ct Tryd.results60 _ (LV.agg (set_4 k4) Tryd.underlying85 rfl (by kernel_rfl))) rfl ?_
      unfold RecPost
      rw [NO.out]
      exact ⟨rfl, below_4 HB4.out (Nat.le_refl _)⟩
  have RQ := HRQ.out
  rw [if_neg (by omega)] at RQ
  have YS := Lib.hid (YES.out w1 12 nn HB4.out (by omega))
  obtain ⟨body, hbody⟩ : ∃ body, cut L 12 nn = body := ⟨_, rfl⟩
  have BS : Hid (∀ W B m d, Below w.heap.size w W → RB W (some ⟨g1, 0, none⟩) 12 hd → RB W B m body → m ≤ 1000000000 → Calls Tryd.prog 53 #[.slice (some ⟨g1, 0, none⟩) 12 c1, .slice B m d] W fun e w' => e = .returned (wv (sumR L body)) ∧ w' = W) := fun W B m d hb h1 h2 hm => by
    have := bsum_any g1 0 12 c1 hd B m d body W (HT.out.below hb) h1 h2 (by omega) hcap0 hcap1 (by omega)
    rw [HSM.out] at this
    exact this
  rw [hbody] at YS RQ
  obtain ⟨sm, hsm⟩ : ∃ sm, sumR L body = sm := ⟨_, rfl⟩
  rw [hsm] at BS RQ
  have u6 := wrap_tn sm
  have HRQ := Lib.hid RQ
  clear hbody hsm NAY YES HSM RQ
  by_cases hsame : sm.toNat = ss
  rotate_left
  · have NO : Hid (recQ L = none) := by
      show recQ L = none
      rw [HRQ.out, if_neg hsame]
    have m1 : ((sm.toNat : Int) != (ss : Int)) = true := by simp; omega
    clear HRQ hfit
    rcases hst with rfl | rfl
    all_goals
      go_wp2_with fail
      refine (GK.out _ _ c1 HB4.out HO1.out.rb).mono ?_
      rintro e w2 ⟨rfl, rfl⟩
      go_wp2_with fail
      refine (GV.out _ _ c1 HB4.out HO1.out.rb).mono ?_
      rintro e w2 ⟨rfl, rfl⟩
      go_wp2_with fail
      refine (GS.out _ _ c1 HB4.out HO1.out.rb).mono ?_
      rintro e w2 ⟨rfl, rfl⟩
      go_wp2_with fail
      refine (LF.out _).mono ?_
      rintro e w2 ⟨rfl, rfl⟩
      clear f0 f1 f2 f3 e0 e1 e2 e3
      go_wp2_with fail
      refine YS.out.mono ?_
      rintro e w3 ⟨A3, c3, rfl, ho3, hb3⟩
      replace k4 := has_below k4 hb3
      replace HB4 := Lib.hid (kp_call HB4.out hb3)
      have HR1 := Lib.hid (HO1.out.rb.below hb3)
      have HO3 := Lib.hid ho3
      obtain ⟨f0, f1, f2, f3⟩ := free_4 k4
      obtain ⟨e0, e1, e2, e3⟩ := cells_4 k4
      clear hb3 ho3
      go_wp2_with fail
      refine (BS.out _ _ _ c3 HB4.out HR1.out HO3.out.rb (by omega)).mono ?_
      rintro e w4 ⟨rfl, rfl⟩
      go_wp2
      refine bodyPost_ret (results_ct Tryd.results60 _ (LV.agg (set_4 k4) Tryd.underlying85 rfl (by kernel_rfl))) rfl ?_
      unfold RecPost
      rw [NO.out]
      exact ⟨rfl, below_4 HB4.out (Nat.le_refl _)⟩
  have m1 : ((sm.toNat : Int) != (ss : Int)) = false := by simp; omega
  have m2 : sm.toNat = ss := hsame
  have RQ := HRQ.out
  rw [if_pos hsame] at RQ
  have HRQ := Lib.hid RQ
  clear RQ
  rcases hst with rfl | rfl
  · have YE : Hid (recQ L = some ⟨kk, body, true⟩) := by
      show recQ L = _
      rw [HRQ.out]
      rfl
    clear HRQ hfit
    go_wp2_with fail
    refine (GK.out _ _ c1 HB4.out HO1.out.rb).mono ?_
    rintro e w2 ⟨rfl, rfl⟩
    go_wp2_with fail
    refine (GV.out _ _ c1 HB4.out HO1.out.rb).mono ?_
    rintro e w2 ⟨rfl, rfl⟩
    go_wp2_with fail
    refine (GS.out _ _ c1 HB4.out HO1.out.rb).mono ?_
    rintro e w2 ⟨rfl, rfl⟩
    go_wp2_with fail
    refine (LF.out _).mono ?_
    rintro e w2 ⟨rfl, rfl⟩
    clear f0 f1 f2 f3 e0 e1 e2 e3
    go_wp2_with fail
    refine YS.out.mono ?_
    rintro e w3 ⟨A3, c3, rfl, ho3, hb3⟩
    have hw1 := block_lt k4
    replace k4 := has_below k4 hb3
    have hwz := HB4.out.size
    replace HB4 := Lib.hid (kp_call HB4.out hb3)
    have HR1 := Lib.hid (HO1.out.rb.below hb3)
    have HO3 := Lib.hid (ho3.lower (show w.heap.size + 1 ≤ _ from hw1))
    obtain ⟨f0, f1, f2, f3⟩ := free_4 k4
    obtain ⟨e0, e1, e2, e3⟩ := cells_4 k4
    replace x0 := kp_cell hb3 x0
    clear hb3 ho3 x1
    go_wp2_with fail
    refine (BS.out _ _ _ c3 HB4.out HR1.out HO3.out.rb (by omega)).mono ?_
    rintro e w4 ⟨rfl, rfl⟩
    go_wp2
    refine bodyPost_ret (results_ct Tryd.results60 _ (LV.agg (set_4 k4) Tryd.underlying85 rfl (by kernel_rfl))) rfl ?_
    unfold RecPost
    rw [YE.out]
    exact ⟨⟨A3, nn, c3, rfl, (HO3.out.kept (grown_4 _ _) (.inr (fun e => by have := (HO3.out.blk_lt e).1; omega))).lower (by omega)⟩, below_4 HB4.out (Nat.le_refl _)⟩
  · have YE : Hid (recQ L = some ⟨kk, body, false⟩) := by
      show recQ L = _
      rw [HRQ.out]
      rfl
    clear HRQ hfit
    go_wp2_with fail
    refine (GK.out _ _ c1 HB4.out HO1.out.rb).mono ?_
    rintro e w2 ⟨rfl, rfl⟩
    go_wp2_with fail
    refine (GV.out _ _ c1 HB4.out HO1.out.rb).mono ?_
    rintro e w2 ⟨rfl, rfl⟩
    go_wp2_with fail
    refine (GS.out _ _ c1 HB4.out HO1.out.rb).mono ?_
    rintro e w2 ⟨rfl, rfl⟩
    go_wp2_with fail
    refine (LF.out _).mono ?_
    rintro e w2 ⟨rfl, rfl⟩
    clear f0 f1 f2 f3 e0 e1 e2 e3
    go_wp2_with fail
    refine YS.out.mono ?_
    rintro e w3 ⟨A3, c3, rfl, ho3, hb3⟩
    have hw1 := block_lt k4
    replace k4 := has_below k4 hb3
    have hwz := HB4.out.size
    replace HB4 := Lib.hid (kp_call HB4.out hb3)
    have HR1 := Lib.hid (HO1.out.rb.below hb3)
    have HO3 := Lib.hid (ho3.lower (show w.heap.size + 1 ≤ _ from hw1))
    obtain ⟨f0, f1, f2, f3⟩ := free_4 k4
    obtain ⟨e0, e1, e2, e3⟩ := cells_4 k4
    replace x0 := kp_cell hb3 x0
    clear hb3 ho3 x1
    go_wp2_with fail
    refine (BS.out _ _ _ c3 HB4.out HR1.out HO3.out.rb (by omega)).mono ?_
    rintro e w4 ⟨rfl, rfl⟩
    go_wp2
    refine bodyPost_ret (results_ct Tryd.results60 _ (LV.agg (set_4 k4) Tryd.underlying85 rfl (by kernel_rfl))) rfl ?_
    unfold RecPost
    rw [YE.out]
    exact ⟨⟨A3, nn, c3, rfl, (HO3.out.kept (grown_4 _ _) (.inr (fun e => by have := (HO3.out.blk_lt e).1; omega))).lower (by omega)⟩, below_4 HB4.out (Nat.le_refl _)⟩
end
end Go.Proofs.YtkajlbdiofobcaaDoor
