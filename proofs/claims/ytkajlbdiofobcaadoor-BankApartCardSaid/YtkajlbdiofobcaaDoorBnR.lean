/-
  bank: works.
-/
import Derived.Test.YtkajlbdiofobcaaDoorBnQ
import Derived.Test.YtkajlbdiofobcaaDoorFlE
import Derived.Lib.SlBytesConst
namespace Go.Proofs.YtkajlbdiofobcaaDoor
open Go.RowKit Go
set_option linter.unusedVariables false
set_option linter.unusedSimpArgs false
set_option maxRecDepth 100000
theorem wk_facts : ∃ S1 S2 : FS, fmtQ 5 0 1 (newS 1 64) = (S1, 0) ∧ progR [254] (0 * S1.s + 12) S1 = (S2, 0) ∧ S2.off = false ∧ S1.wr ≤ 100 ∧ S2.wr ≤ 100 ∧
    ∀ T r, AddIs S2 0 1 [107] [1, 2] T r → r = 0 ∧ T.off = false ∧ T.bank 0 1 = bankL (headG 5 ++ [254, 255, 255, 255]) [⟨[107], [1, 2], true⟩] 33 := by
  have h1 := fmt_calm 5 0 1 (newS 1 64) [] (List.replicate 64 255) [] rfl rfl (by simp [newS]) (by simp) (by simp [newS]) (by simp [newS])
  refine ⟨_, _, h1, ready_calm 5 0 _ [] [] [] (1 * 64 - 16) rfl rfl rfl (by simp), rfl, by simp [newS], by simp [newS], ?_⟩
  intro T r ha
  obtain ⟨e1, e2⟩ := add_calm 0 1 _ [] (headG 5 ++ [254, 255, 255, 255]) [] [] 48 [107] [1, 2] T r rfl rfl (by simp) (by simp [bankL_len, headG_len, layAll, newS]) (by simp [headG_len]) (fun r hr => by cases hr) (by simp) (by simp) ha
  refine ⟨e1, by rw [e2]; rfl, ?_⟩
  refine bank_of (A := []) (B := []) (by rw [e2]; rfl) (by simp) ?_
  rw [e2, bankL_len]
  simp [headG_len, layAll, lay_len, newS]
set_option maxHeartbeats 4000000 in
theorem works8_any (w : World) (ht : Tabs w) : Calls Tryd.prog 10 #[] w fun e w' => e = .returned (.bool true) ∧ Below w.heap.size w w' := by
  obtain ⟨S1, S2, f1, f2, f3, f4, f5, f6⟩ := wk_facts
  have FA := Lib.hid f1
  have FB := Lib.hid f2
  have FC := Lib.hid f6
  have FO := Lib.hid f3
  have HT := Lib.hid ht
  have NW := Lib.hid (fnew_any 1 64 (by omega) (by omega) (by omega) (by omega) w)
  clear f1 f2 f3 f6 ht
  go_enter Tryd.func10, Tryd.ntmps10
  go_wp2_with fail
  refine NW.out.mono ?_
  rintro e w1 ⟨g, a, c, rfl, hf1, hb1⟩
  have HF1 := Lib.hid hf1
  have HB1 := Lib.hid hb1
  clear NW hf1 hb1
  go_wp2_with fail
  refine (at_any (F := 0) (C := 1) HF1.out (by omega) (by show 0 + 1 ≤ 1; omega) (by show 64 ≤ 1 * 64; omega)).mono ?_
  rintro e w2 ⟨b, rfl, hK2, hbb, hb2⟩
  have HK2 := Lib.hid hK2
  have HB2 := Lib.hid (HB1.out.trans (hb2.mono HB1.out.size))
  clear hK2 hbb hb2 HF1 HB1
  go_wp2_with fail
  have RM : Calls Tryd.prog 13 #[.pointer (some ⟨b, 0, none⟩)] w2 fun e w' => e = .returned (.int .i64 48) ∧ Below w2.heap.size w2 w' := room_any HK2.out
  refine RM.mono ?_
  clear RM
  rintro e w3 ⟨rfl, hb3⟩
  have HK3 := Lib.hid (HK2.out.below hb3)
  have HB3 := Lib.hid (kp_call HB2.out hb3)
  clear hb3 HK2 HB2
  go_wp2_with fail
  have ND : Calls Tryd.prog 25 #[.int .i64 1, .int .i64 2] w3 fun e w' => e = .returned (.int .i64 15) ∧ w' = w3 := need_any 1 2 (by omega) (by omega) w3
  refine ND.mono ?_
  clear ND
  rintro e v3 ⟨rfl, hv3⟩
  subst v3
  go_wp2_with fail
  have FM := format_any HT.out (Nat.le_refl _) HB3.out HK3.out (by show 0 < _; omega) 5 (by omega)
  rw [FA.out] at FM
  refine FM.mono ?_
  clear FM
  rintro e w4 ⟨rfl, hK4, hfar4⟩
  have HK4 : Hid (BK w4 w.heap.size b g a c S1 0 1) := hK4
  have HB4 : Hid (Below w.heap.size w w4) := HB3.out.trans (hfar4.below HK3.out.fl.gb (HK3.out.fl.own.blk_lt rfl).1 HB3.out.size)
  clear hK4 hfar4 HK3 HB3
  go_wp2_with fail
  have RY := ready_any HK4.out (by omega)
  rw [FB.out] at RY
  refine RY.mono ?_
  clear RY
  rintro e w5 ⟨rfl, hK5, hfar5⟩
  have HK5 : Hid (BK w5 w.heap.size b g a c S2 0 1) := hK5
  have HB5 : Hid (Below w.heap.size w w5) := HB4.out.trans (hfar5.below HK4.out.fl.gb (HK4.out.fl.own.blk_lt rfl).1 HB4.out.size)
  clear hK5 hfar5 HK4 HB4
  have kc := Lib.run_convert_bytes_const (P := Tryd.prog) w5 22 5 #[.int .u8 107] 1 1 Tryd.underlying22 Tryd.underlying5
  go_wp2_with fail
  clear kc
  refine calls_nm fun W hW => ?_
  have hbW : Below w5.heap.size w5 W := by rw [← hW]; exact kp_alloc (kp_alloc (Below.refl _ _) _) _
  have hRk : RB W (some ⟨w5.heap.size, 0, none⟩) 1 [107] := by rw [← hW]; exact rb_block (has_alloc (has_new _ _) _) rfl rfl
  have hRv : RB W (some ⟨w5.heap.size + 1, 0, none⟩) 2 [1, 2] := by rw [← hW]; exact rb_block (has_new' _ _ _ (by simp)) rfl rfl
  have hgl := HK5.out.fl.alt
  have hal : a < w5.heap.size := (HK5.out.fl.own.blk_lt rfl).2
  have AD := addfit_yes HT.out (Nat.le_refl _) (kp_call HB5.out hbW) (HK5.out.below hbW) FO.out (some ⟨w5.heap.size, 0, none⟩) (some ⟨w5.heap.size + 1, 0, none⟩) 1 1 2 2 [107] [1, 2] hRk hRv (fun _ d hd => by injection hd with hd; subst hd; exact ⟨by simp only; omega, by simp only; omega⟩) (fun _ d hd => by injection hd with hd; subst hd; exact ⟨by simp only; omega, by simp only; omega⟩) (by omega) (by omega)
  refine AD.mono ?_
  clear AD hW
  rintro e w6 ⟨T, r, rfl, hadd, hK6, hfar6⟩
  obtain ⟨rfl, hoff6, hbank6⟩ := FC.out T r hadd
  have HK6 := Lib.hid hK6
  have HB6 : Hid (Below w.heap.size w w6) := (kp_call HB5.out hbW).trans (hfar6.below HK5.out.fl.gb (HK5.out.fl.own.blk_lt rfl).1 (by have := HB5.out.size; have := hbW.size; omega))
  have SC := Lib.hid (scan_any (HT.out.below HB6.out) hK6 hoff6)
  rw [hbank6] at SC
  clear hadd hoff6 hbank6 hK6 hfar6 hbW hRk hRv HK5 HB5
  go_wp2_with fail
  refine SC.out.mono ?_
  intro e w7 hp
  obtain ⟨A7, c7, ys, rfl, hm, ho7, hv7, hb7⟩ := scan_calm (by simp [headG_len]) (fun r hr => by rw [List.mem_singleton.1 hr]; exact ⟨by simp, by simp, by simp⟩) hp
  have hlay : ((16 + (layAll [(⟨[107], [1, 2], true⟩ : RL)]).length : Nat) : Int) = 31 := by simp [layAll, lay_len]
  rw [hlay]
  obtain ⟨G7, rfl, hg7, hgl7⟩ := ho7.shape (by have := ho7.cap.1; simp at this; omega)
  obtain ⟨y, rfl⟩ : ∃ y, ys = [y] := by
    cases ys with
    | nil => simp at hm
    | cons y l => cases l with
      | nil => exact ⟨y, rfl⟩
      | cons z l => simp at hm
  have hyl : y.r.lives = true := by
    have h9 : y.r = RL.rd ⟨[107], [1, 2], true⟩ := by simpa using hm
    rw [h9]; rfl
  have c2 : w7.cell? ⟨G7, 2, none⟩ = some (.bool true) := by
    rw [World.ownsRow.cellAt ho7 2 (by simp)]
    simp [SV.cells, hyl]
  have HB7 := Lib.hid (kp_call HB6.out hb7)
  clear hm ho7 hv7 hb7 hp SC HB6 HK6 hyl hlay
  go_wp2
  go_ret
  exact ⟨rfl, HB7.out⟩
end Go.Proofs.YtkajlbdiofobcaaDoor
