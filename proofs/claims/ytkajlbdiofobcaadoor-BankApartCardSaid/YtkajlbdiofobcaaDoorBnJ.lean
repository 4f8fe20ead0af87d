/-
  bank: Add.
-/
import Derived.Test.YtkajlbdiofobcaaDoorBnI
namespace Go.Proofs.YtkajlbdiofobcaaDoor
open Go.RowKit Go
set_option linter.unusedVariables false
set_option linter.unusedSimpArgs false
set_option maxRecDepth 100000
/-- What Add makes of a flash with power, and what it answers. -/
def AddIs (S : FS) (F C : Nat) (key val : List UInt8) (T : FS) (r : Int) : Prop :=
  if 1 ≤ key.length ∧ key.length ≤ 255 ∧ val.length ≤ 65536 then
    ∃ l q, Scan (S.bank F C) l q ∧ (if wholeB (S.bank F C) q = false then T = S ∧ r = 12 else if C * S.s < q + (12 + key.length + val.length) then T = S ∧ r = 5 else T = (addQ key val (F * S.s + q) S).1 ∧ r = (addQ key val (F * S.s + q) S).2)
  else T = S ∧ r = 1
def AddPost (w : World) (base b g a c : Nat) (S : FS) (F C : Nat) (key val : List UInt8) (e : Ending) (w' : World) : Prop :=
  ∃ T r, e = .returned (.int .i64 r) ∧ AddIs S F C key val T r ∧ BK w' base b g a c T F C ∧ Far g a w w'
section
variable {base b g a c F C : Nat} {S : FS} {w : World}
theorem rb_tl {W : World} {G n : Nat} {z : UInt8} {l : List UInt8} (h : RB W (some ⟨G, 0, none⟩) n (z :: l)) : RB W (some ⟨G, 1, none⟩) (n - 1) l := by
  have hn : n = l.length + 1 := by have := h.1; simp at this; omega
  have h1 := rb_sub h 1 l.length (by omega)
  have h2 : cut (z :: l) 1 l.length = l := by unfold cut; simp
  rw [h2] at h1
  rw [show n - 1 = l.length by omega]
  simpa using h1
theorem addfit_no (hK : BK w base b g a c S F C) (A B : Option Addr) (n ca m cb : Nat) (key val : List UInt8) (hA : key.length = n) (hB : val.length = m) (hno : ¬ (1 ≤ n ∧ n ≤ 255 ∧ m ≤ 65536)) :
    Calls Tryd.prog 17 #[.pointer (some ⟨b, 0, none⟩), .slice A n ca, .slice B m cb] w (AddPost w base b g a c S F C key val) := by
  have FIN : Hid (AddPost w base b g a c S F C key val (.returned (.int .i64 1)) w) := ⟨S, 1, rfl, by unfold AddIs; rw [hA, hB, if_neg hno]; exact ⟨rfl, rfl⟩, hK, .refl _ _ _⟩
  have LF := Lib.hid (fun W => lfit_any (n : Int) (m : Int) W)
  have hd : decide (1 ≤ (n : Int) ∧ (n : Int) ≤ 255 ∧ (m : Int) ≤ 65536) = false := decide_eq_false (by omega)
  rw [hd] at LF
  clear hK hno hd hA hB
  go_enter Tryd.func17, Tryd.ntmps17
  go_wp2_with fail
  refine (LF.out _).mono ?_
  rintro e w1 ⟨rfl, rfl⟩
  go_wp2
  go_ret
  exact FIN.out
set_option maxHeartbeats 4000000 in
theorem addfit_yes {v : World} (hv : Tabs v) (hvb : v.heap.size ≤ base) (hvw : Below v.heap.size v w) (hK : BK w base b g a c S F C) (hS : S.off = false) (A B : Option Addr) (n ca m cb : Nat) (key val : List UInt8) (hA : RB w A n key) (hB : RB w B m val)
    (hAn : key ≠ [] → ∀ d, A = some d → d.block ≠ g ∧ d.block ≠ a) (hBn : val ≠ [] → ∀ d, B = some d → d.block ≠ g ∧ d.block ≠ a) (hw : S.wr < 4611686018426387904) (hfit : 1 ≤ n ∧ n ≤ 255 ∧ m ≤ 65536) :
    Calls Tryd.prog 17 #[.pointer (some ⟨b, 0, none⟩), .slice A n ca, .slice B m cb] w (AddPost w base b g a c S F C key val) := by
  have hin := hK.in_
  have h64 := hK.cs
  have hbig := hK.fl.big
  have LF := Lib.hid (fun W => lfit_any (n : Int) (m : Int) W)
  have hd : decide (1 ≤ (n : Int) ∧ (n : Int) ≤ 255 ∧ (m : Int) ≤ 65536) = true := decide_eq_true (by omega)
  rw [hd] at LF
  have ht : Tabs w := hv.below hvw
  have RD := Lib.hid (read_any hK hS ht)
  have hbs : base ≤ w.heap.size := by have := hK.fl.gb; have := hK.fl.alt; omega
  have hglt := hK.fl.alt
  have halt : a < w.heap.size := (hK.fl.own.blk_lt rfl).2
  have RO : Hid (∀ W, Far g a w W → Calls Tryd.prog 40 #[.slice A n ca, .slice B m cb] W (Fresh W (254 :: tailL key val))) := fun W hf =>
    recordOf_any A B n ca m cb key val W (hv.below (hvw.trans ((hf.below hK.fl.gb (hK.fl.own.blk_lt rfl).1 hbs).mono hvb))) (rb_far hA hf hAn) (rb_far hB hf hBn) hfit.2.1 hfit.2.2
  have H := Lib.hid hK
  have HA := Lib.hid hA
  have HB := Lib.hid hB
  have NE := Lib.hid (fun W => need_any n m (by omega) (by omega) W)
  have SZ := Lib.hid (fun W (hb : Below w.heap.size w W) => bsize_any (hK.below hb))
  have ST := Lib.hid (fun W (hb : Below w.heap.size w W) => start_any (hK.below hb))
  have HHA := Lib.hid hAn
  have HHB := Lib.hid hBn
  have HS := Lib.hid hS
  have HT := Lib.hid ht
  have hlen := bank_len hK
  have HL := Lib.hid hlen
  have HI := Lib.hid hin
  have HFIT := Lib.hid hfit
  clear hK hS ht hA hB hAn hBn hd hlen hin hfit
  obtain ⟨M, hM⟩ : ∃ M, C * S.s = M := ⟨_, rfl⟩
  obtain ⟨N0, hN⟩ : ∃ N0, F * S.s = N0 := ⟨_, rfl⟩
  rw [hM] at SZ HL HI h64
  rw [hN] at ST HI
  have HM := Lib.hid hM
  have HN := Lib.hid hN
  clear hM hN
  go_enter Tryd.func17, Tryd.ntmps17
  go_wp2_with fail
  refine (LF.out _).mono ?_
  rintro e v1 ⟨rfl, hv1⟩
  subst v1
  go_wp2_with fail
  refine RD.out.mono ?_
  rintro e w1 ⟨A1, n1, c1, xs, q, rfl, hSc, hO1, hB1, hb1⟩
  have hqM : q ≤ M := by have := (hSc.got.le (by have := HL.out; omega)).1; have := HL.out; omega
  have HSC := Lib.hid hSc
  have BL1 := Lib.hid hb1
  have ew : IntKind.i64.wrap ((M : Int) - (q : Int)) = ((M - q : Nat) : Int) := by rw [IntWalk.i64_in _ (by have := HI.out; omega)]; omega
  have HAI : Hid (∀ T r, (if wholeB (S.bank F C) q = false then T = S ∧ r = 12 else if M < q + (12 + n + m) then T = S ∧ r = 5 else T = (addQ key val (N0 + q) S).1 ∧ r = (addQ key val (N0 + q) S).2) → AddIs S F C key val T r) := fun T r h => by
    unfold AddIs
    rw [HA.out.1, HB.out.1, HM.out, HN.out, if_pos HFIT.out]
    exact ⟨_, q, HSC.out, h⟩
  clear RD hO1 hB1 hSc hb1
  rcases hwh : wholeB (S.bank F C) q with _ | _
  · have FIN : Hid (AddPost w base b g a c S F C key val (.returned (.int .i64 12)) w1) := ⟨S, 12, rfl, HAI.out _ _ (by rw [if_pos hwh]; exact ⟨rfl, rfl⟩), H.out.below BL1.out, .of_below BL1.out⟩
    clear hwh HAI
    go_wp2
    go_ret
    exact FIN.out
  · rw [hwh] at HAI
    clear hwh
    go_wp2_with fail
    refine (NE.out _).mono ?_
    rintro e v2 ⟨rfl, hv2⟩
    subst v2
    go_wp2_with fail
    refine (SZ.out _ BL1.out).mono ?_
    rintro e w2 ⟨rfl, hb2⟩
    have BL2 := Lib.hid (kp_call BL1.out hb2)
    clear hb2 BL1
    by_cases hrm : M < q + (12 + n + m)
    · have t1 : ((M - q : Nat) : Int) < 12 + (n : Int) + (m : Int) := by omega
      have t2 : decide (12 + (n : Int) + (m : Int) > ((M - q : Nat) : Int)) = true := decide_eq_true t1
      have FIN : Hid (AddPost w base b g a c S F C key val (.returned (.int .i64 5)) w2) := ⟨S, 5, rfl, HAI.out _ _ (by rw [if_neg (by decide), if_pos hrm]; exact ⟨rfl, rfl⟩), H.out.below BL2.out, .of_below BL2.out⟩
      clear hrm HAI
      go_wp2
      go_ret
      exact FIN.out
    · have t1 : ¬ ((M - q : Nat) : Int) < 12 + (n : Int) + (m : Int) := by omega
      have t2 : decide (12 + (n : Int) + (m : Int) > ((M - q : Nat) : Int)) = false := decide_eq_false t1
      have HAJ : Hid (∀ T r, T = (addQ key val (N0 + q) S).1 ∧ r = (addQ key val (N0 + q) S).2 → AddIs S F C key val T r) := fun T r h => HAI.out T r (by rw [if_neg (by decide), if_neg hrm]; exact h)
      clear HAI
      go_wp2_with fail
      refine (ST.out _ BL2.out).mono ?_
      rintro e w3 ⟨rfl, hb3⟩
      have BL3 := Lib.hid (kp_call BL2.out hb3)
      have ea : IntKind.i64.wrap ((N0 : Int) + (q : Int)) = ((N0 + q : Nat) : Int) := by rw [IntWalk.i64_in _ (by have := HI.out; omega)]; omega
      obtain ⟨k0, k1, k2⟩ := cells_3 (has_below H.out.bk BL3.out)
      go_wp2_with fail
      refine calls_nm fun W hW => ?_
      have hbW : Below w3.heap.size w3 W := by rw [← hW]; exact kp_alloc (Below.refl _ _) _
      have hG : W.heap[w3.heap.size]? = some (.cells #[.int .u8 254] 5) := by rw [← hW]; exact has_new _ _
      have BLW := Lib.hid (kp_call BL3.out hbW)
      have hsz3 := BL3.out.size
      have P := fprogram_any (H.out.below BLW.out).fl HS.out (N0 + q) 1 1 _ [254] (rb_one hG) (fun _ d hd => by injection hd with hd; subst hd; exact ⟨by simp only; omega, by simp only; omega⟩) (.inr (by have := HI.out; omega)) (by omega) (by omega)
      obtain ⟨T1, r1, hp1⟩ : ∃ T r, progQ [254] (N0 + q) S = (T, r) := ⟨_, _, rfl⟩
      obtain ⟨q1, q2, q3⟩ := progQ_kept [254] (N0 + q) S
      have q4 := progQ_ret [254] (N0 + q) S
      have q5 := progQ_off [254] (N0 + q) S
      rw [hp1] at P q1 q2 q3 q4 q5
      simp only at P q1 q2 q3 q4 q5
      rw [show ((N0 + q : Nat) : Int) = (N0 : Int) + (q : Int) from by push_cast; rfl] at P
      refine P.mono ?_
      clear P hW
      rintro e w4 ⟨rfl, hF4, hfar4⟩
      have FR4 : Hid (Far g a w w4) := (Far.of_below BLW.out).trans hfar4
      have K4 : Hid (BK w4 base b g a c T1 F C) := H.out.next hF4 q1 q2 FR4.out
      clear hF4 hfar4 hbW hG k0 k1 k2
      rcases q4.symm with rfl | rfl
      · have FIN : Hid (AddPost w base b g a c S F C key val (.returned (.int .i64 6)) w4) := ⟨T1, 6, rfl, HAJ.out _ _ (by unfold addQ; rw [hp1]; simp), K4.out, FR4.out⟩
        clear HAJ hp1 q5
        go_wp2
        go_ret
        exact FIN.out
      · have O4 := Lib.hid ((q5 rfl).trans HS.out)
        have HP1 := Lib.hid hp1
        have HQ1 := Lib.hid (And.intro q1 (And.intro q2 q3))
        have ea1 : IntKind.i64.wrap ((N0 : Int) + (q : Int) + 1) = ((N0 + q + 1 : Nat) : Int) := by rw [IntWalk.i64_in _ (by have := HI.out; omega)]; omega
        have ea2 : IntKind.i64.wrap (((N0 + q : Nat) : Int) + 1) = ((N0 + q + 1 : Nat) : Int) := by rw [IntWalk.i64_in _ (by have := HI.out; omega)]; omega
        obtain ⟨k0, k1, k2⟩ := cells_3 K4.out.bk
        have KEEP : Hid (∀ V, Far g a w4 V → V.cell? ⟨b, 0, none⟩ = some (.pointer (some ⟨g, 0, none⟩)) ∧ Far g a w4 V) := fun V hV => ⟨(cells_3 (hV.has K4.out.bk K4.out.bg K4.out.ba)).1, hV⟩
        have F0 := Lib.hid (Far.refl g a w4)
        clear q5 hp1 k1 k2 q1 q2 q3
        have PR2 : Hid (∀ (V : World) (G k c' : Nat), FL V base g a c T1 → RB V (some ⟨G, 1, none⟩) k (tailL key val) → w4.heap.size ≤ G → Calls Tryd.prog 34 #[.pointer (some ⟨g, 0, none⟩), .int .i64 ((N0 : Int) + (q : Int) + 1), .slice (some ⟨G, 1, none⟩) k c'] V
            fun e w' => e = .returned (.int .i64 (progQ (tailL key val) (N0 + q + 1) T1).2) ∧ FL w' base g a c (progQ (tailL key val) (N0 + q + 1) T1).1 ∧ Far g a V w') := fun V G k c' hF hR hlt => by
          have hk : k = 11 + n + m := by have h1 := hR.1; rw [tailL_len, HA.out.1, HB.out.1] at h1; omega
          have hi := HI.out
          have hf := HFIT.out
          have hq := HQ1.out.2.2
          simp at hq
          have h := fprogram_any hF O4.out (N0 + q + 1) k c' _ (tailL key val) hR (fun _ d hd => by injection hd with hd; subst hd; have := FR4.out.size; exact ⟨by simp only; omega, by simp only; omega⟩) (.inr (by rw [HQ1.out.1, HQ1.out.2.1]; omega)) (by omega) (by omega)
          rw [show ((N0 + q + 1 : Nat) : Int) = (N0 : Int) + (q : Int) + 1 from by push_cast; rfl] at h
          exact h
        go_wp2_with fail
        go_region_held3 (fun V => V.cell? ⟨b, 0, none⟩ = some (.pointer (some ⟨g, 0, none⟩)) ∧ Far g a w4 V)
          ((apply KEEP.out; repeat (with_reducible (first | assumption | exact F0.out | refine Far.drew ?_ | refine Far.alloc ?_ _))))
          (first
            | (go_at_call 40; (with_reducible refine (RO.out _ (by first | exact FR4.out.drew | exact FR4.out)).mono ?_); (rintro e X1 ⟨A6, n6, c6, rfl, ho6, hb6⟩; obtain ⟨G6, rfl, hg6, hgl6⟩ := ho6.shape (by have h1 := ho6.cap.1; have h2 := ho6.len; simp at h2; omega); have f6 : Far g a w4 X1 := (F0.out.drew).trans (.of_below hb6); have i1 : (1 : Int) ≤ (n6 : Int) := (by have h2 := ho6.len; simp at h2; omega); have hc61 : ¬ c6 = 1 := (by have h1 := ho6.cap.1; have h2 := ho6.len; rw [List.length_cons, tailL_len] at h2; omega); have i2 : (n6 : Int) ≤ (c6 : Int) := (by have h1 := ho6.cap.1; omega); have R6 : Hid (RB X1 (some ⟨G6, 1, none⟩) (n6 - 1) (tailL key val)) := rb_tl ho6.rb; have HG6 : Hid (w4.heap.size ≤ G6) := hg6; have HF6 := Lib.hid ((K4.out.fl.drew).below hb6)))
            | (go_at_call 34; (with_reducible refine (PR2.out _ _ _ _ HF6.out R6.out HG6.out).mono ?_); (rintro e X2 ⟨rfl, hF7, hb7⟩; have f7 : Far g a w4 X2 := f6.trans hb7)))
        all_goals
          clear PR2 R6 HF6 HG6 hb7 hb6 RO
          obtain ⟨T2, r2, hp2⟩ : ∃ T r, progQ (tailL key val) (N0 + q + 1) T1 = (T, r) := ⟨_, _, rfl⟩
          obtain ⟨q1, q2, q3⟩ := progQ_kept (tailL key val) (N0 + q + 1) T1
          have q4 := progQ_ret (tailL key val) (N0 + q + 1) T1
          have q5 := progQ_off (tailL key val) (N0 + q + 1) T1
          rw [hp2] at hF7 q1 q2 q3 q4 q5
          rw [hp2]
          simp only at hF7 q1 q2 q3 q4 q5 ⊢
          have K7 : Hid (BK X2 base b g a c T2 F C) := K4.out.next hF7 q1 q2 f7
          have FR7 : Hid (Far g a w X2) := FR4.out.trans f7
          clear hF7 f7 f6 hg6 hgl6 ho6 KEEP F0 K4
          rcases q4.symm with rfl | rfl
          · have FIN : Hid (AddPost w base b g a c S F C key val (.returned (.int .i64 6)) X2) := ⟨T2, 6, rfl, HAJ.out _ _ (by unfold addQ; rw [HP1.out, if_pos rfl]; simp only; rw [hp2]; simp), K7.out, FR7.out⟩
            clear HAJ hp2 q5
            go_wp2
            go_ret
            exact FIN.out
          · have O7 := Lib.hid ((q5 rfl).trans O4.out)
            obtain ⟨k0, k1, k2⟩ := cells_3 K7.out.bk
            have HP2 := Lib.hid hp2
            have q3' := Lib.hid q3
            have q1' := Lib.hid q1
            have q2' := Lib.hid q2
            clear q5 hp2 k1 k2 q1 q2 q3
            go_wp2_with fail
            refine calls_nm fun W hW => ?_
            have hbW : Below X2.heap.size X2 W := by rw [← hW]; exact kp_alloc (Below.refl _ _) _
            have hG : W.heap[X2.heap.size]? = some (.cells #[.int .u8 252] 5) := by rw [← hW]; exact has_new _ _
            have KW := K7.out.below hbW
            have hsz7 := FR7.out.size
            have hi := HI.out
            have hq1 := HQ1.out.2.2
            simp at hq1
            have hq3 := q3'.out
            rw [tailL_len, HA.out.1, HB.out.1] at hq3
            have hf := HFIT.out
            have P := fprogram_any KW.fl O7.out (N0 + q) 1 1 _ [252] (rb_one hG) (fun _ d hd => by injection hd with hd; subst hd; exact ⟨by simp only; omega, by simp only; omega⟩) (.inr (by rw [q1'.out, q2'.out, HQ1.out.1, HQ1.out.2.1]; omega)) (by omega) (by omega)
            rw [show ((N0 + q : Nat) : Int) = (N0 : Int) + (q : Int) from by push_cast; rfl] at P
            refine P.mono ?_
            clear P hW
            rintro e w8 ⟨rfl, hF8, hfar8⟩
            obtain ⟨q6, q7, _⟩ := progQ_kept [252] (N0 + q) T2
            have FR8 := (FR7.out.trans (.of_below hbW)).trans hfar8
            have hadd : addQ key val (N0 + q) S = progQ [252] (N0 + q) T2 := by
              unfold addQ
              rw [HP1.out, if_pos rfl]
              simp only
              rw [HP2.out, if_pos rfl]
            have FIN : Hid (AddPost w base b g a c S F C key val (.returned (.int .i64 (progQ [252] (N0 + q) T2).2)) w8) := ⟨_, _, rfl, HAJ.out _ _ (by rw [hadd]; exact ⟨rfl, rfl⟩), KW.next hF8 q6 q7 hfar8, FR8⟩
            clear HAJ hF8 hfar8 FR8 KW hbW hG q6 q7 hadd hi hq1 hq3 hf hsz7
            go_wp2
            go_ret
            exact FIN.out
end
end Go.Proofs.YtkajlbdiofobcaaDoor
