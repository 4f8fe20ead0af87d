/-
  bank: Format.
-/
import Derived.Test.YtkajlbdiofobcaaDoorBnJ
namespace Go.Proofs.YtkajlbdiofobcaaDoor
open Go.RowKit Go
set_option linter.unusedVariables false
set_option linter.unusedSimpArgs false
set_option maxRecDepth 100000
/-- Erase of a sector that there is, with power or without. -/
def erR (k : Nat) (S : FS) : FS × Int := if S.off then (S, 6) else (S.er (k * S.s), if S.left = 1 then 6 else 0)
def erAll : Nat → Nat → FS → FS × Int
  | 0, _, S => (S, 0)
  | n + 1, k, S => if (erR k S).2 = 0 then erAll n (k + 1) (erR k S).1 else erR k S
def fmtQ (gen F C : Nat) (S : FS) : FS × Int := if (erAll C F S).2 = 0 then progR (headG gen) (F * S.s) (erAll C F S).1 else erAll C F S
theorem erR_kept (k : Nat) (S : FS) : (erR k S).1.n = S.n ∧ (erR k S).1.s = S.s ∧ (erR k S).1.wr ≤ S.wr + 1 ∧ ((erR k S).2 = 0 ∨ (erR k S).2 = 6) := by
  unfold erR
  split
  · exact ⟨rfl, rfl, Nat.le_add_right _ _, .inr rfl⟩
  · obtain ⟨h1, h2, h3⟩ := er_kept S (k * S.s)
    refine ⟨h1, h2, h3, ?_⟩
    by_cases h : S.left = 1
    · exact .inr (if_pos h)
    · exact .inl (if_neg h)
section
variable {base b g a c F C : Nat} {S : FS} {w : World}
theorem er_in (h : FL w base g a c S) (k : Nat) (hk : k < S.n) (hw : S.wr < 4611686018427387904) :
    Calls Tryd.prog 42 #[.pointer (some ⟨g, 0, none⟩), .int .i64 (k : Int)] w
      fun e w' => e = .returned (.int .i64 (erR k S).2) ∧ FL w' base g a c (erR k S).1 ∧ Far g a w w' := by
  rcases hS : S.off with _ | _
  · have e1 : erR k S = (S.er (k * S.s), if S.left = 1 then 6 else 0) := by unfold erR; rw [hS]; rfl
    rw [e1]
    exact ferase_any h hS k hk hw
  · have e1 : erR k S = (S, 6) := by unfold erR; rw [hS]; rfl
    rw [e1]
    refine (ferase_no h k (.inl hS)).mono ?_
    rintro e w' ⟨rfl, hb⟩
    exact ⟨by rw [hS]; rfl, h.below hb, .of_below hb⟩
set_option maxHeartbeats 4000000 in
theorem format_any {v : World} (hv : Tabs v) (hvb : v.heap.size ≤ base) (hvw : Below v.heap.size v w) (hK : BK w base b g a c S F C) (hw : S.wr < 4611686018427386904) (gen : Nat) (hg : gen < 4294967296) :
    Calls Tryd.prog 23 #[.pointer (some ⟨b, 0, none⟩), .int .u32 (gen : Int)] w
      fun e w' => e = .returned (.int .i64 (fmtQ gen F C S).2) ∧ BK w' base b g a c (fmtQ gen F C S).1 F C ∧ Far g a w w' := by
  have hbs : base ≤ w.heap.size := by have := hK.fl.gb; have := hK.fl.alt; omega
  have hfc := hK.fc
  have hn2 := hK.fl.n2
  have HO : Hid (∀ V, Far g a w V → Calls Tryd.prog 43 #[.int .u32 (gen : Int)] V (Fresh V (headG gen))) := fun V hf =>
    headOf_any gen hg V (hv.below (hvw.trans ((hf.below hK.fl.gb (hK.fl.own.blk_lt rfl).1 hbs).mono hvb)))
  have H := Lib.hid hK
  have HW := Lib.hid hw
  obtain ⟨k0, k1, k2⟩ := cells_3 hK.bk
  clear hK hw hvw hvb hv hbs
  go_enter Tryd.func23, Tryd.ntmps23
  go_wp2_with fail
  go_loopw [13] (fun vi wl => ∃ (i : Nat) (T : FS), vi = .int .i64 (i : Int) ∧ i ≤ C ∧ Hid (BK wl base b g a c T F C ∧ erAll C F S = erAll (C - i) (F + i) T ∧ T.n = S.n ∧ T.s = S.s ∧ T.wr ≤ S.wr + i ∧ Far g a w wl)) (fun vi _ => C - (intOf vi).toNat)
  case atStart => exact ⟨0, S, rfl, Nat.zero_le _, H.out, rfl, rfl, rfl, Nat.le_refl _, Far.refl _ _ _⟩
  case round =>
    obtain ⟨i, T, rfl, hi, HT⟩ := hrel
    clear k0 k1 k2
    obtain ⟨k0, k1, k2⟩ := cells_3 HT.out.1.bk
    have F0 := Lib.hid (Far.refl g a wr)
    by_cases hlt : i < C
    · have i1 : (i : Int) < (C : Int) := by omega
      have e3 : IntKind.i64.wrap ((i : Int) + 1) = (i : Int) + 1 := IntWalk.i64_in _ (by omega)
      have e4 : IntKind.i64.wrap ((F : Int) + (i : Int)) = ((F + i : Nat) : Int) := by rw [IntWalk.i64_in _ (by omega)]; omega
      have KEEP : Hid (∀ V, Far g a wr V → (V.cell? ⟨b, 0, none⟩ = some (.pointer (some ⟨g, 0, none⟩)) ∧ V.cell? ⟨b, 1, none⟩ = some (.int .i64 (F : Int))) ∧ Far g a wr V) := fun V hV => by
        obtain ⟨a1, a2, a3⟩ := cells_3 (hV.has HT.out.1.bk HT.out.1.bg HT.out.1.ba)
        exact ⟨⟨a1, a2⟩, hV⟩
      have ER : Hid (Calls Tryd.prog 42 #[.pointer (some ⟨g, 0, none⟩), .int .i64 ((F : Int) + (i : Int))] wr.drew
        fun e w' => e = .returned (.int .i64 (erR (F + i) T).2) ∧ FL w' base g a c (erR (F + i) T).1 ∧ Far g a wr w') := by
        have h := er_in HT.out.1.fl.drew (F + i) (by rw [HT.out.2.2.1]; omega) (by have := HT.out.2.2.2.2.1; have := HW.out; omega)
        rw [show ((F + i : Nat) : Int) = (F : Int) + (i : Int) from by push_cast; rfl] at h
        exact h.mono fun e w' ⟨h1, h2, h3⟩ => ⟨h1, h2, (Far.drew (Far.refl _ _ _)).trans h3⟩
      go_wp2_with fail
      go_region_held3 (fun V => (V.cell? ⟨b, 0, none⟩ = some (.pointer (some ⟨g, 0, none⟩)) ∧ V.cell? ⟨b, 1, none⟩ = some (.int .i64 (F : Int))) ∧ Far g a wr V)
        ((apply KEEP.out; repeat (with_reducible (first | assumption | exact F0.out | refine Far.drew ?_ | refine Far.alloc ?_ _))))
        (first
          | (go_at_call 42; (with_reducible refine ER.out.mono ?_); (rintro e X2 ⟨rfl, hF7, f7⟩)))
      all_goals
        obtain ⟨T2, r2, hp2⟩ : ∃ T' r, erR (F + i) T = (T', r) := ⟨_, _, rfl⟩
        obtain ⟨q1, q2, q3, q4⟩ := erR_kept (F + i) T
        rw [hp2] at hF7 q1 q2 q3 q4
        rw [hp2]
        simp only at hF7 q1 q2 q3 q4 ⊢
        have hstep : erAll C F S = if r2 = 0 then erAll (C - (i + 1)) (F + (i + 1)) T2 else (T2, r2) := by
          rw [HT.out.2.1, show C - i = (C - (i + 1)) + 1 by omega, erAll, hp2]
          rfl
        have K7 : Hid (BK X2 base b g a c T2 F C) := HT.out.1.next hF7 q1 q2 f7
        have FR7 : Hid (Far g a w X2) := HT.out.2.2.2.2.2.trans f7
        have HN : Hid (T2.n = S.n ∧ T2.s = S.s ∧ T2.wr ≤ S.wr + (i + 1)) := ⟨q1.trans HT.out.2.2.1, q2.trans HT.out.2.2.2.1, by have := HT.out.2.2.2.2.1; omega⟩
        have HST := Lib.hid hstep
        clear hF7 f7 KEEP ER F0 q1 q2 q3 hstep hp2 HT
        rcases q4 with rfl | rfl
        · go_wp2
          go_roundw
          case rel => exact ⟨i + 1, T2, by go_num, by omega, K7.out, by have := HST.out; rw [if_pos rfl] at this; exact this, HN.out.1, HN.out.2.1, HN.out.2.2, FR7.out⟩
          case measure => simp [intOf]; omega
        · have FIN : Hid (fmtQ gen F C S = (T2, 6)) := by
            have h := HST.out
            rw [if_neg (show ¬ (6 : Int) = 0 by decide)] at h
            unfold fmtQ
            rw [h, if_neg (show ¬ (6 : Int) = 0 by decide)]
            exact rfl
          go_wp2
          go_ret
          rw [FIN.out]
          exact ⟨rfl, K7.out, FR7.out⟩
    · have i1 : ¬ (i : Int) < (C : Int) := by omega
      have hiC : i = C := by omega
      subst hiC
      have FM : Hid (fmtQ gen F i S = progR (headG gen) (F * S.s) T) := by
        have h := HT.out.2.1
        rw [Nat.sub_self, erAll] at h
        unfold fmtQ
        rw [h, if_pos rfl]
        exact rfl
      have KEEP : Hid (∀ V, Far g a wr V → V.cell? ⟨b, 0, none⟩ = some (.pointer (some ⟨g, 0, none⟩)) ∧ Far g a wr V) := fun V hV => by
        obtain ⟨a1, a2, a3⟩ := cells_3 (hV.has HT.out.1.bk HT.out.1.bg HT.out.1.ba)
        exact ⟨a1, hV⟩
      have ST := Lib.hid (start_any HT.out.1.drew)
      have hin := HT.out.1.in_
      have h64 := HT.out.1.cs
      have hTs := HT.out.2.2.2.1
      have hTw := HT.out.2.2.2.2.1
      have hww := HW.out
      rw [hTs] at ST hin h64
      have hgl := HT.out.1.fl.alt
      have hal : a < wr.heap.size := (HT.out.1.fl.own.blk_lt rfl).2
      have PR : Hid (∀ (V : World) (G n' c' : Nat), FL V base g a c T → RB V (some ⟨G, 0, none⟩) n' (headG gen) → wr.heap.size ≤ G → Calls Tryd.prog 34 #[.pointer (some ⟨g, 0, none⟩), .int .i64 ((F * S.s : Nat) : Int), .slice (some ⟨G, 0, none⟩) n' c'] V
        fun e w' => e = .returned (.int .i64 (progR (headG gen) (F * S.s) T).2) ∧ FL w' base g a c (progR (headG gen) (F * S.s) T).1 ∧ Far g a V w') := fun V G n' c' hF hR hlt => by
        have hn : n' = 12 := by have := hR.1; rw [headG_len] at this; omega
        exact prog_in hF (F * S.s) n' c' _ (headG gen) hR (fun _ d hd => by injection hd with hd; subst hd; exact ⟨by simp only; omega, by simp only; omega⟩) (by rw [hTs]; omega) (by omega) (by omega)
      obtain ⟨N0, hN⟩ : ∃ N0, F * S.s = N0 := ⟨_, rfl⟩
      rw [hN] at PR ST FM
      clear hin h64 hTw hww hN hlt
      go_wp2_with fail
      go_region_held3 (fun V => V.cell? ⟨b, 0, none⟩ = some (.pointer (some ⟨g, 0, none⟩)) ∧ Far g a wr V)
        ((apply KEEP.out; repeat (with_reducible (first | assumption | exact F0.out | refine Far.drew ?_ | refine Far.alloc ?_ _))))
        (first
          | (go_at_call 39; (with_reducible refine ST.out.mono ?_); (rintro e X1 ⟨rfl, hb1⟩; have f1 : Far g a wr X1 := (F0.out.drew).trans (.of_below hb1); have FL1 := Lib.hid ((HT.out.1.fl.drew).below hb1)))
          | (go_at_call 43; (with_reducible refine (HO.out _ (HT.out.2.2.2.2.2.trans f1)).mono ?_); (rintro e X2 ⟨A6, n6, c6, rfl, ho6, hb6⟩; obtain ⟨G6, rfl, hg6, hgl6⟩ := ho6.shape (by have h1 := ho6.cap.1; have h2 := ho6.len; rw [headG_len] at h2; omega); have f6 : Far g a wr X2 := f1.trans (.of_below hb6); have R6 := Lib.hid ho6.rb; have HG6 : Hid (wr.heap.size ≤ G6) := Nat.le_trans f1.size hg6; have HF6 := Lib.hid (FL1.out.below hb6)))
          | (go_at_call 34; (with_reducible refine (PR.out _ _ _ _ HF6.out R6.out HG6.out).mono ?_); (rintro e X3 ⟨rfl, hF7, hb7⟩; have f7 : Far g a wr X3 := f6.trans hb7)))
      all_goals
        have KF : Hid (BK X3 base b g a c (progR (headG gen) N0 T).1 F i) := by
          obtain ⟨q1, q2, q3⟩ := progR_kept (headG gen) N0 T
          exact HT.out.1.next hF7 q1 q2 f7
        have FF : Hid (Far g a w X3) := HT.out.2.2.2.2.2.trans f7
        clear hF7 hb7 PR R6 HF6 HG6 KEEP
        go_wp2
        go_ret
        rw [FM.out]
        exact ⟨rfl, KF.out, FF.out⟩
end
end Go.Proofs.YtkajlbdiofobcaaDoor
