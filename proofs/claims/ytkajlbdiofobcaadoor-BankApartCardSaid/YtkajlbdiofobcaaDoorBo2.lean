/-
  bank: begun: a bank with records, of which the even ones live.
-/
import Derived.Test.YtkajlbdiofobcaaDoorBo1
import Derived.Deep.RegionHeld3
import Derived.Test.YtkajlbdiofobcaaDoorRows
import Derived.MakeChecks
namespace Go.Proofs.YtkajlbdiofobcaaDoor
open Go.RowKit Go
set_option linter.unusedVariables false
set_option linter.unusedSimpArgs false
set_option maxRecDepth 100000
def hdR (gen : Nat) : List UInt8 := headG gen ++ [254, 255, 255, 255]
theorem hdR_len (gen : Nat) : (hdR gen).length = 16 := by simp [hdR, headG_len]
/-- A bank of eight sectors of 256 bytes that was laid, on a flash with power, that is not armed. -/
structure Beg (w wl : World) (b g a c : Nat) (S : FS) (i : Nat) (rs : List RL) (k : Nat) : Prop where
  bk : BK wl w.heap.size b g a c S 0 8
  n8 : S.n = 8
  s8 : S.s = 256
  off : S.off = false
  left : S.left = 0
  bs : S.bs = bankL (hdR 1) rs k
  ok : ∀ r ∈ rs, r.ok
  len : rs.length = i
  wr : S.wr ≤ 1000 + i * 70000
  bel : Below w.heap.size w wl
theorem Beg.blen {w wl : World} {b g a c : Nat} {S : FS} {i : Nat} {rs : List RL} {k : Nat} (h : Beg w wl b g a c S i rs k) : (bankL (hdR 1) rs k).length = 8 * S.s := by
  have h1 := h.bk.bytes
  rw [h.bs, h.n8] at h1
  exact h1
/-- What begun answers. -/
def BegPost (w : World) (n : Nat) (e : Ending) (w' : World) : Prop := ∃ b g a c S rs k, Below w.heap.size w w' ∧ ((e = .returned (.tuple #[.pointer (some ⟨g, 0, none⟩), .pointer none, .bool true])) ∨ (e = .returned (.tuple #[.pointer (some ⟨g, 0, none⟩), .pointer (some ⟨b, 0, none⟩), .bool true]) ∧ Beg w w' b g a c S n rs k))
/-- A record killed, while the power stays. -/
theorem kill_calm (F C : Nat) (S : FS) (A h B : List UInt8) (rs : List RL) (k j : Nat) (r0 : RL) (T : FS) (r : Int) (h2 : S.left = 0) (h3 : S.bs = A ++ bankL h rs k ++ B) (h4 : A.length = F * S.s) (h5 : (bankL h rs k).length = C * S.s) (hh : h.length = 16) (hr : ∀ r ∈ rs, r.ok) (hj : rs[j]? = some r0) (ha : KillIs S F C (j : Int) T r) :
    r = 0 ∧ T = { S with left := 0, wr := S.wr + 1, bs := A ++ bankL h (rs.set j r0.kill) k ++ B } := by
  have hb := bank_of h3 h4 h5
  unfold KillIs at ha
  rw [hb] at ha
  obtain ⟨l, q, hs, hif⟩ := ha
  obtain ⟨rfl, rfl⟩ := scan_one hs (scan_bankL h rs k hh hr)
  have hjl : j < rs.length := (List.getElem?_eq_some_iff.1 hj).1
  rcases hif with ⟨hno, _⟩ | ⟨j', p, hjj, hp, hT, hR⟩
  · exact absurd ⟨by omega, by rw [placed_len]; omega⟩ hno
  · have : j' = j := by omega
    subst this
    rw [placed_at rs 16 j' r0 hj] at hp
    injection hp with hp
    subst hp
    have h7 := (kill_laid A h B rs k j' r0 S h3 hh hj).2 (by omega)
    rw [h4] at h7
    simp only at hT hR
    rw [h7] at hT hR
    refine ⟨hR, ?_⟩
    rw [hT, h2]
theorem kill_ok {r : RL} (h : r.ok) : r.kill.ok := ⟨h.k1, h.k2, h.v2⟩
theorem set_ok {rs : List RL} {j : Nat} {r : RL} (h : ∀ r ∈ rs, r.ok) (hr : r.ok) : ∀ x ∈ rs.set j r, x.ok := fun x hx => by
  rcases List.mem_or_eq_of_mem_set hx with h1 | h1
  · exact h x h1
  · rw [h1]; exact hr
/-- A record more. -/
theorem Beg.add {w wl w' : World} {b g a c : Nat} {S : FS} {i : Nat} {rs : List RL} {k : Nat} (h : Beg w wl b g a c S i rs k) {key val : List UInt8} {T : FS} {r : Int} (ha : AddIs S 0 8 key val T r) (hK : BK w' w.heap.size b g a c T 0 8) (hb : Below w.heap.size w w') :
    (r ≠ 0 ∧ (r = 1 ∨ r = 5)) ∨ (r = 0 ∧ Beg w w' b g a c T (i + 1) (rs ++ [⟨key, val, true⟩]) (k - (12 + key.length + val.length)) ∧ T.wr + 1 ≤ 1000 + (i + 1) * 70000) := by
  have hl := h.blen
  rcases add_laid 0 8 S [] (hdR 1) [] rs k key val T r h.left (by simpa using h.bs) (by simp) hl (hdR_len 1) h.ok ha with ⟨_, _, h1⟩ | ⟨_, _, _, h1⟩ | ⟨h1, h2, h3, h4⟩
  · left; subst h1; decide
  · left; subst h1; decide
  · right
    have hw := h.wr
    have hle := h.len
    refine ⟨h3, ⟨hK, by rw [h4]; exact h.n8, by rw [h4]; exact h.s8, by rw [h4]; exact h.off, by rw [h4]; exact h.left, by rw [h4]; simp, fun x hx => ?_, by simp [hle], by rw [h4]; show S.wr + _ ≤ _; omega, hb⟩, by rw [h4]; show S.wr + _ + 1 ≤ _; omega⟩
    rcases List.mem_append.1 hx with hx | hx
    · exact h.ok x hx
    · rw [List.mem_singleton.1 hx]
      exact ⟨h1.1, h1.2.1, h1.2.2⟩
/-- The last record killed. -/
theorem Beg.kill {w wl w' : World} {b g a c : Nat} {S : FS} {i : Nat} {rs : List RL} {k : Nat} (h : Beg w wl b g a c S (i + 1) rs k) (hw : S.wr + 1 ≤ 1000 + (i + 1) * 70000) {T : FS} {r : Int} (ha : KillIs S 0 8 (i : Int) T r) (hK : BK w' w.heap.size b g a c T 0 8) (hb : Below w.heap.size w w') :
    r = 0 ∧ ∃ rs', Beg w w' b g a c T (i + 1) rs' k := by
  have hl := h.blen
  have hle := h.len
  obtain ⟨r0, hr0⟩ : ∃ r0, rs[i]? = some r0 := ⟨_, List.getElem?_eq_getElem (by omega)⟩
  obtain ⟨h1, h4⟩ := kill_calm 0 8 S [] (hdR 1) [] rs k i r0 T r h.left (by simpa using h.bs) (by simp) hl (hdR_len 1) h.ok hr0 ha
  refine ⟨h1, rs.set i r0.kill, hK, by rw [h4]; exact h.n8, by rw [h4]; exact h.s8, by rw [h4]; exact h.off, by rw [h4], by rw [h4]; simp, ?_, by simp [hle], by rw [h4]; exact hw, hb⟩
  exact set_ok h.ok (kill_ok (h.ok r0 (List.mem_of_getElem? hr0)))
end Go.Proofs.YtkajlbdiofobcaaDoor
namespace Go.Proofs.YtkajlbdiofobcaaDoor
open Go.RowKit Go
set_option linter.unusedVariables false
set_option linter.unusedSimpArgs false
set_option maxRecDepth 100000
set_option maxHeartbeats 16000000 in
theorem begun_any (A : Option Addr) (n c : Nat) (os : Nat → BOp) (w : World) (ho : IsBOps w A n c os) (hR : ∀ r, r < n → (os r).kn ≤ 140737488351232 ∧ (os r).vn ≤ 140737488351232) (hn : n ≤ 20) (ht : Tabs w) :
    Calls Tryd.prog 14 #[.slice A n c] w (BegPost w n) := by
  obtain ⟨S1, S2, f1, f2, f3, f4, f5, f6, f7, f8, f9⟩ := begin_calm 1 0 8 8 256 (by omega) (by omega)
  have FA := Lib.hid f1
  have FB := Lib.hid f2
  have HT := Lib.hid ht
  have HO := Lib.hid ho
  have HR := Lib.hid hR
  have NW := Lib.hid (fnew_any 8 256 (by omega) (by omega) (by omega) (by omega) w)
  have F2 : Hid (S2.n = 8 ∧ S2.s = 256 ∧ S2.off = false ∧ S2.left = 0 ∧ S2.bs = bankL (hdR 1) [] 2032 ∧ S2.wr ≤ 1000 ∧ S1.wr ≤ 1000) := ⟨f5, f6, f7, f8, by rw [f9]; simp [hdR], by omega, by omega⟩
  clear f1 f2 f3 f4 f5 f6 f7 f8 f9 ht ho hR
  go_enter Tryd.func14, Tryd.ntmps14
  go_wp2_with fail
  refine NW.out.mono ?_
  rintro e w1 ⟨g, a, cc, rfl, hf1, hb1⟩
  have HF1 := Lib.hid hf1
  have HB1 := Lib.hid hb1
  clear NW hf1 hb1
  go_wp2_with fail
  refine (at_any (F := 0) (C := 8) HF1.out (by omega) (by show 0 + 8 ≤ 8; omega) (by show 64 ≤ 8 * 256; omega)).mono ?_
  rintro e w2 ⟨b, rfl, hK2, hbb, hb2⟩
  have HK2 := Lib.hid hK2
  have HB2 := Lib.hid (HB1.out.trans (hb2.mono HB1.out.size))
  clear hK2 hbb hb2 HF1 HB1
  go_wp2_with fail
  have FM := format_any HT.out (Nat.le_refl _) HB2.out HK2.out (by show 0 < _; omega) 1 (by omega)
  rw [FA.out] at FM
  refine FM.mono ?_
  clear FM
  rintro e w4 ⟨rfl, hK4, hfar4⟩
  have HK4 : Hid (BK w4 w.heap.size b g a cc S1 0 8) := hK4
  have HB4 : Hid (Below w.heap.size w w4) := HB2.out.trans (hfar4.below HK2.out.fl.gb (HK2.out.fl.own.blk_lt rfl).1 HB2.out.size)
  clear hK4 hfar4 HK2 HB2
  go_wp2_with fail
  have RY := ready_any HK4.out (by have := F2.out.2.2.2.2.2.2; omega)
  rw [FB.out] at RY
  refine RY.mono ?_
  clear RY
  rintro e w5 ⟨rfl, hK5, hfar5⟩
  have BG0 : Hid (Beg w w5 b g a cc S2 0 [] 2032) := by
    obtain ⟨a1, a2, a3, a4, a5, a6, _⟩ := F2.out
    exact ⟨hK5, a1, a2, a3, a4, a5, fun r hr => (by cases hr), rfl, by omega, HB4.out.trans (hfar5.below HK4.out.fl.gb (HK4.out.fl.own.blk_lt rfl).1 HB4.out.size)⟩
  clear hK5 hfar5 HK4 HB4 F2 FA FB
  go_wp2_with fail
  go_loopw [8] (fun v8 wl => ∃ (i : Nat) (S : FS) (rs : List RL) (k : Nat), v8 = .int .i64 (i : Int) ∧ i ≤ n ∧ Hid (Beg w wl b g a cc S i rs k)) (fun v8 _ => n - (intOf v8).toNat)
  case atStart => exact ⟨0, S2, [], 2032, rfl, Nat.zero_le _, BG0⟩
  case round =>
    obtain ⟨i, S, rs, k, rfl, hi, HS⟩ := hrel
    clear BG0
    by_cases hlt : i < n
    · have i1 : (i : Int) < (n : Int) := by omega
      have i0 : (0 : Int) ≤ (i : Int) := by omega
      have e9 : IntKind.i64.wrap ((i : Int) + 1) = (i : Int) + 1 := IntWalk.i64_in _ (by omega)
      obtain ⟨b0, off, rfl, hb0, ⟨_, _, _, hkk, hvv⟩, hc⟩ := HO.out.rows i hlt
      obtain ⟨hkl, hvl⟩ := HR.out i hlt
      generalize os i = o at *
      obtain ⟨kd, np, pt, K, kn, kc, V, vn, vc, key, val⟩ := o
      have c3 := kp_cell HS.out.bel (hc 3 (.slice K kn kc) rfl)
      have c4 := kp_cell HS.out.bel (hc 4 (.slice V vn vc) rfl)
      have TK := Lib.hid (fun W (hb : Below w.heap.size w W) => twin8_big K kn kc key W (hkk.rb.below hb) hkl)
      have TV := Lib.hid (fun W (hb : Below w.heap.size w W) => twin8_big V vn vc val W (hvv.rb.below hb) hvl)
      have KEEP : Hid (∀ W, Below w.heap.size w W → (W.cell? ⟨b0, off + i * 5 + 3, none⟩ = some (.slice K kn kc) ∧ W.cell? ⟨b0, off + i * 5 + 4, none⟩ = some (.slice V vn vc)) ∧ Below w.heap.size w W) := fun W hb => ⟨⟨kp_cell hb (hc 3 (.slice K kn kc) rfl), kp_cell hb (hc 4 (.slice V vn vc) rfl)⟩, hb⟩
      have B0 := Lib.hid HS.out.bel
      have hga : Hid (g < wr.heap.size ∧ a < wr.heap.size) := ⟨HS.out.bk.fl.alt, (HS.out.bk.fl.own.blk_lt rfl).2⟩
      have AD : Hid (∀ W, Below wr.heap.size wr W → ∀ A1 n1 c1 A2 n2 c2, OwnB W wr.heap.size A1 n1 c1 key → OwnB W wr.heap.size A2 n2 c2 val → Calls Tryd.prog 17 #[.pointer (some ⟨b, 0, none⟩), .slice A1 n1 c1, .slice A2 n2 c2] W (AddPost W w.heap.size b g a cc S 0 8 key val)) := by
        intro W hb A1 n1 c1 A2 n2 c2 h1 h2
        have hx := hga.out
        refine add_any8 HT.out (Nat.le_refl _) (kp_call B0.out hb) (HS.out.bk.below hb) HS.out.off A1 A2 n1 c1 n2 c2 key val h1.rb h2.rb (fun _ d hd => ?_) (fun _ d hd => ?_) (by have := HS.out.wr; omega)
        · subst hd; have := (h1.blk_lt rfl).1; omega
        · subst hd; have := (h2.blk_lt rfl).1; omega
      clear hkk hvv hc hkl hvl hb0
      go_wp2_with fail
      go_region_held3 (fun W => (W.cell? ⟨b0, off + i * 5 + 3, none⟩ = some (.slice K kn kc) ∧ W.cell? ⟨b0, off + i * 5 + 4, none⟩ = some (.slice V vn vc)) ∧ Below w.heap.size w W)
        ((apply KEEP.out; repeat (with_reducible (first | assumption | exact B0.out | refine kp_drew ?_ | refine kp_alloc ?_ _ | refine kp_call ?_ (by assumption)))))
        (first
          | (go_at_call 18; (with_reducible refine (TK.out _ (by (go_split_ands; assumption))).mono ?_); (rintro e X1 ⟨A1, n1, c1', rfl, ho1, hb1⟩; have HB1 : Hid (Below wr.heap.size wr X1) := (by (first | exact hb1 | exact (kp_drew (Below.refl _ _)).trans hb1)); have HO1 : Hid (OwnB X1 wr.heap.size A1 n1 c1' key) := (by (exact ho1.lower (by (first | exact Nat.le_refl _ | simp)))); clear ho1 TK))
          | (go_at_call 18; (with_reducible refine (TV.out _ (by (go_split_ands; assumption))).mono ?_); (rintro e X2 ⟨A2, n2, c2', rfl, ho2, hb2⟩; have H2 : Hid (Below X1.heap.size X1 X2) := (by (first | exact hb2 | exact (kp_drew (Below.refl _ _)).trans hb2)); have HB2 : Hid (Below wr.heap.size wr X2) := kp_call HB1.out H2.out; have HO2 : Hid (OwnB X2 wr.heap.size A2 n2 c2' val) := (by (exact ho2.lower (Nat.le_trans HB1.out.size (by (first | exact Nat.le_refl _ | simp))))); have HO12 : Hid (OwnB X2 wr.heap.size A1 n1 c1' key) := HO1.out.below H2.out (Nat.le_refl _); clear ho2 TV))
          | (go_at_call 17; (with_reducible refine (AD.out X2 HB2.out A1 n1 c1' A2 n2 c2' HO12.out HO2.out).mono ?_); (rintro e X3 ⟨T, r, rfl, hadd, hK3, hfar3⟩; have hb3 : Below w.heap.size w X3 := (kp_call B0.out HB2.out).trans (hfar3.below HS.out.bk.fl.gb (HS.out.bk.fl.own.blk_lt rfl).1 (kp_call B0.out HB2.out).size); have HADD := Lib.hid hadd; have HK3 := Lib.hid hK3; clear hadd hK3 hfar3 AD)))
      rcases HS.out.add HADD.out HK3.out hb3 with ⟨_, hr⟩ | ⟨rfl, hBg, hwr⟩
      · have FIN : Hid (BegPost w n (.returned (.tuple #[.pointer (some ⟨g, 0, none⟩), .pointer none, .bool true])) X3) := ⟨b, g, a, cc, S, rs, k, hb3, .inl rfl⟩
        clear HS HADD HK3 hb3 hb2 hb1 HO1 HO2 HO12 HB1 HB2 H2 B0 hga KEEP c3 c4
        rcases hr with rfl | rfl
        all_goals
          go_wp2
          go_ret3
          exact FIN.out
      · have HBG := Lib.hid hBg
        have HWR := Lib.hid hwr
        have KC := kill_any (HT.out.below hb3) hBg.bk hBg.off (i : Int) (by have := hBg.wr; omega)
        clear HS HADD HK3 hb3 hb2 hb1 HO1 HO2 HO12 HB1 HB2 H2 B0 hga KEEP c3 c4 hBg hwr
        by_cases hodd : i % 2 = 1
        · have tm : Int.tmod (i : Int) 2 = 1 := by rw [Int.tmod_eq_emod_of_nonneg (by omega)]; omega
          clear hodd
          go_wp2_with fail
          refine KC.mono ?_
          clear KC
          rintro e X4 ⟨T4, r4, rfl, hki, hK4, hfar4⟩
          have hb4 : Below w.heap.size w X4 := HBG.out.bel.trans (hfar4.below HBG.out.bk.fl.gb (HBG.out.bk.fl.own.blk_lt rfl).1 HBG.out.bel.size)
          obtain ⟨rfl, rs4, hBg4⟩ := HBG.out.kill HWR.out hki hK4 hb4
          have HBG4 := Lib.hid hBg4
          clear hki hK4 hfar4 hb4 hBg4 HBG
          go_wp2_with fail
          go_roundw
          case rel => exact ⟨i + 1, T4, rs4, _, by go_num, by omega, HBG4⟩
          case measure => simp [intOf]; omega
        · have tm : Int.tmod (i : Int) 2 = 0 := by rw [Int.tmod_eq_emod_of_nonneg (by omega)]; omega
          clear hodd KC
          go_wp2_with fail
          go_roundw
          case rel => exact ⟨i + 1, T, _, _, by go_num, by omega, HBG⟩
          case measure => simp [intOf]; omega
    · have i1 : ¬ (i : Int) < (n : Int) := by omega
      have hin : i = n := by omega
      subst hin
      have FIN : Hid (BegPost w i (.returned (.tuple #[.pointer (some ⟨g, 0, none⟩), .pointer (some ⟨b, 0, none⟩), .bool true])) wr) := ⟨b, g, a, cc, S, rs, k, HS.out.bel, .inr ⟨rfl, HS.out⟩⟩
      clear HS
      go_wp2
      go_ret3
      exact FIN.out
end Go.Proofs.YtkajlbdiofobcaaDoor
namespace Go.Proofs.YtkajlbdiofobcaaDoor
open Go.RowKit Go
set_option linter.unusedVariables false
set_option linter.unusedSimpArgs false
set_option maxRecDepth 100000
theorem OwnR.far {w w' : World} {base : Nat} {e : TypeId} {k : Nat} {A : Option Addr} {n c : Nat} {vs : List Value} {g a : Nat} (h : OwnR w base e k A n c vs) (hf : Far g a w w') (hg : g < base) (ha : a < base) : OwnR w' base e k A n c vs :=
  ⟨h.1, h.2.imp id fun ⟨G, cap, cur, h1, h2, h3, h4⟩ => ⟨G, cap, cur, h1, h2, hf.has h3 (by omega) (by omega), h4⟩⟩
theorem DOwn.far {w w' : World} {base : Nat} {A : Option Addr} {n c : Nat} {ds : List DV} {g a : Nat} (h : DOwn w base A n c ds) (hf : Far g a w w') (hg : g < base) (ha : a < base) : DOwn w' base A n c ds :=
  ⟨h.row.far hf hg ha, fun x hx => ⟨OwnR.far (h.own x hx).1.row hf hg ha, OwnR.far (h.own x hx).2.row hf hg ha⟩, h.lim⟩
theorem flat3_set : ∀ (ds : List DV) (j : Nat) (x : DV) (u : Bool), ds[j]? = some x → (ds.flatMap DV.cells).set (j * 3 + 2) (.bool u) = (ds.set j { x with lives := u }).flatMap DV.cells
  | [], _, _, _, h => by cases h
  | y :: ys, 0, x, u, h => by
    injection h with h
    subst h
    simp [DV.cells]
  | y :: ys, j + 1, x, u, h => by
    have h2 : ys[j]? = some x := h
    have ih := flat3_set ys j x u h2
    have e : (y :: ys).flatMap DV.cells = DV.cells y ++ ys.flatMap DV.cells := rfl
    have hl : (DV.cells y).length = 3 := rfl
    have e2 : ((y :: ys).set (j + 1) { x with lives := u }).flatMap DV.cells = DV.cells y ++ (ys.set j { x with lives := u }).flatMap DV.cells := rfl
    rw [e, e2, ← ih, List.set_append_right _ _ (by omega), hl, show (j + 1) * 3 + 2 - 3 = j * 3 + 2 by omega]
theorem DOwn.setLives {w : World} {base : Nat} {G n c : Nat} {ds : List DV} (h : DOwn w base (some ⟨G, 0, none⟩) n c ds) {j : Nat} {x : DV} (hx : ds[j]? = some x) (u : Bool) : DOwn (w.setCell ⟨G, j * 3 + 2, none⟩ (.bool u)) base (some ⟨G, 0, none⟩) n c (ds.set j { x with lives := u }) := by
  have hg := grown_one w G (j * 3 + 2) (.bool u)
  have hmem : ∀ y ∈ ds.set j { x with lives := u }, ∃ z ∈ ds, z.K = y.K ∧ z.kn = y.kn ∧ z.kc = y.kc ∧ z.V = y.V ∧ z.vn = y.vn ∧ z.vc = y.vc ∧ z.key = y.key ∧ z.val = y.val := fun y hy => by
    rcases List.mem_or_eq_of_mem_set hy with h1 | h1
    · exact ⟨y, h1, rfl, rfl, rfl, rfl, rfl, rfl, rfl, rfl⟩
    · subst h1; exact ⟨x, List.mem_of_getElem? hx, rfl, rfl, rfl, rfl, rfl, rfl, rfl, rfl⟩
  refine ⟨?_, fun y hy => ?_, fun y hy => ?_⟩
  · rw [← flat3_set ds j x u hx]
    exact OwnR.stored h.row _ _
  · obtain ⟨z, hz, e1, e2, e3, e4, e5, e6, e7, e8⟩ := hmem y hy
    obtain ⟨o1, o2⟩ := h.own z hz
    have p1 := o1.kept hg (OwnR.ne o1.row h.row (by decide))
    have p2 := o2.kept hg (OwnR.ne o2.row h.row (by decide))
    rw [e1, e2, e3, e7] at p1
    rw [e4, e5, e6, e8] at p2
    exact ⟨p1, p2⟩
  · obtain ⟨z, hz, e1, e2, e3, e4, e5, e6, e7, e8⟩ := hmem y hy
    rw [← e2, ← e5]
    exact h.lim z hz
theorem pl_set (ds : List DV) (j : Nat) (x : DV) (rs : List RL) (r0 : RL) (hx : ds[j]? = some x) (hm : ds.map DV.pl = rs) (hr : rs[j]? = some r0) : (ds.set j { x with lives := false }).map DV.pl = rs.set j r0.kill := by
  have h1 : (ds.map DV.pl)[j]? = some x.pl := by rw [List.getElem?_map, hx]; rfl
  rw [hm, hr] at h1
  injection h1 with h1
  subst h1
  rw [List.map_set, hm]
  rfl
/-- What a Kill comes to on a bank that was laid. -/
theorem kill_cases (F C : Nat) (S : FS) (A h B : List UInt8) (rs : List RL) (k : Nat) (i : Int) (T : FS) (r : Int) (h3 : S.bs = A ++ bankL h rs k ++ B) (h4 : A.length = F * S.s) (h5 : (bankL h rs k).length = C * S.s) (hh : h.length = 16) (hr : ∀ r ∈ rs, r.ok) (ha : KillIs S F C i T r) :
    (¬ (0 ≤ i ∧ i < (rs.length : Int)) ∧ T = S ∧ r = 1) ∨ ∃ (j : Nat) (r0 : RL), i = (j : Int) ∧ rs[j]? = some r0 ∧
      ((S.left = 1 ∧ T = { S with off := true, left := 0 } ∧ r = 6) ∨ (S.left ≠ 1 ∧ T = { S with left := S.left - 1, wr := S.wr + 1, bs := A ++ bankL h (rs.set j r0.kill) k ++ B } ∧ r = 0)) := by
  have hb := bank_of h3 h4 h5
  unfold KillIs at ha
  rw [hb] at ha
  obtain ⟨l, q, hs, hif⟩ := ha
  obtain ⟨rfl, rfl⟩ := scan_one hs (scan_bankL h rs k hh hr)
  rcases hif with ⟨hno, h1, h2⟩ | ⟨j, p, hjj, hp, hT, hR⟩
  · left
    rw [placed_len] at hno
    exact ⟨hno, h1, h2⟩
  · right
    have hjl : j < rs.length := by
      have := (List.getElem?_eq_some_iff.1 hp).1
      rwa [placed_len] at this
    obtain ⟨r0, hr0⟩ : ∃ r0, rs[j]? = some r0 := ⟨_, List.getElem?_eq_getElem hjl⟩
    refine ⟨j, r0, hjj, hr0, ?_⟩
    rw [placed_at rs 16 j r0 hr0] at hp
    injection hp with hp
    subst hp
    obtain ⟨q1, q2⟩ := kill_laid A h B rs k j r0 S h3 hh hr0
    rw [h4] at q1 q2
    by_cases h1 : S.left = 1
    · left
      have := q1 h1
      simp only at hT hR
      rw [this] at hT hR
      exact ⟨h1, hT, hR⟩
    · right
      have := q2 h1
      simp only at hT hR
      rw [this] at hT hR
      exact ⟨h1, hT, hR⟩
end Go.Proofs.YtkajlbdiofobcaaDoor
namespace Go.Proofs.YtkajlbdiofobcaaDoor
open Go.RowKit Go
set_option linter.unusedVariables false
set_option linter.unusedSimpArgs false
set_option maxRecDepth 100000
/-- What is known behind a first look at a bank. -/
structure Seen (w wl : World) (D : Nat) (b g a c : Nat) (S : FS) (rs : List RL) (k : Nat) (B : Option Addr) (d : Nat) (ds : List DV) : Prop where
  bk : BK wl w.heap.size b g a c S 0 8
  s8 : S.s = 256
  n8 : S.n = 8
  bs : S.bs = bankL (hdR 1) rs k
  ok : ∀ r ∈ rs, r.ok
  len : rs.length ≤ 20
  wr : S.wr ≤ 100000000
  own : DOwn wl D B rs.length d ds
  pl : ds.map DV.pl = rs
  ga : g < D ∧ a < D
  bel : Below w.heap.size w wl
theorem Seen.blen {w wl : World} {D : Nat} {b g a c : Nat} {S : FS} {rs : List RL} {k : Nat} {B : Option Addr} {d : Nat} {ds : List DV} (h : Seen w wl D b g a c S rs k B d ds) : (bankL (hdR 1) rs k).length = 8 * S.s := by
  have h1 := h.bk.bytes
  rw [h.bs, h.n8] at h1
  exact h1
theorem Seen.far {w wl w' : World} {D : Nat} {b g a c : Nat} {S T : FS} {rs rs' : List RL} {k : Nat} {B : Option Addr} {d : Nat} {ds : List DV} (h : Seen w wl D b g a c S rs k B d ds) (hK : BK w' w.heap.size b g a c T 0 8) (hf : Far g a wl w') : DOwn w' D B rs.length d ds ∧ Below w.heap.size w w' :=
  ⟨h.own.far hf h.ga.1 h.ga.2, h.bel.trans (hf.below h.bk.fl.gb (h.bk.fl.own.blk_lt rfl).1 h.bel.size)⟩
/-- Behind begun and a look. -/
theorem seen_of {w w1 w2 : World} {b g a c : Nat} {S : FS} {n : Nat} {rs : List RL} {k : Nat} {B : Option Addr} {d : Nat} {ds : List DV} (h : Beg w w1 b g a c S n rs k) (hn : n ≤ 20) (hD : DOwn w2 w1.heap.size B rs.length d ds) (hp : ds.map DV.pl = rs) (hb : Below w1.heap.size w1 w2) : Seen w w2 w1.heap.size b g a c S rs k B d ds :=
  ⟨h.bk.below hb, h.s8, h.n8, h.bs, h.ok, by rw [h.len]; exact hn, by have := h.wr; omega, hD, hp, ⟨h.bk.fl.alt, (h.bk.fl.own.blk_lt rfl).2⟩, kp_call h.bel hb⟩
theorem look_seen {w wl : World} {b g a c : Nat} {S : FS} {rs : List RL} {k : Nat} (ht : Tabs wl) (hK : BK wl w.heap.size b g a c S 0 8) (hS : S.off = false) (hbs : S.bs = bankL (hdR 1) rs k) (hl : (bankL (hdR 1) rs k).length = 8 * S.s) (hr : ∀ r ∈ rs, r.ok) (hn : rs.length ≤ 1000) :
    Calls Tryd.prog 15 #[.pointer (some ⟨b, 0, none⟩)] wl (LookIs wl rs true) :=
  look_any ht hK hS (hdR 1) (List.replicate k 255) rs (bank_of (A := []) (B := []) (by simpa [bankL] using hbs) (by simp) hl) (hdR_len 1) hr (recQ_free k) hn true (whole_laid (hdR 1) rs k (hdR_len 1))
theorem layAll_kill_len (rs : List RL) (j : Nat) (r0 : RL) (h : rs[j]? = some r0) : (layAll (rs.set j r0.kill)).length = (layAll rs).length := by
  rw [layAll_kill rs j r0 h, layAll_split rs j r0 h]
  simp [lay_len, RL.kill]
section
variable {w : World} {base g a c : Nat} {S : FS}
theorem fon_on (h : FL w base g a c S) (hS : S.off = false) : Calls Tryd.prog 19 #[.pointer (some ⟨g, 0, none⟩)] w fun e w' => e = .returned (.int .i64 12) ∧ FL w' base g a c S ∧ Far g a w w' := by
  have h1 := fon_any h
  obtain ⟨n, s, bs, off, left, part, wr⟩ := S
  simp only at hS
  subst hS
  exact h1
theorem fon_off (h : FL w base g a c S) (hS : S.off = true) : Calls Tryd.prog 19 #[.pointer (some ⟨g, 0, none⟩)] w fun e w' => e = .returned (.int .i64 0) ∧ FL w' base g a c { S with off := false } ∧ Far g a w w' := by
  have h1 := fon_any h
  rw [hS] at h1
  exact h1
end
/-- The row's condition on the two laid tables, opened. -/
theorem of_laid {W : World} (h : laidMetH Tryd.prog Rows.bankNilRow.laid W) : Tabs W := by
  rw [MakeChecks.laidMetH_plain _ _ _ (by kernel_rfl)] at h
  have h1 : Lib.TabIs Tryd.prog W "lintel/crc.table" .u32 tabZ :=
    Lib.tabIs_of_head g_tab (show (Tryd.prog.globals[0]?).map (·.type) = some 112 by kernel_rfl) Tryd.underlying112 Tryd.underlying59 (by kernel_rfl) (by kernel_rfl) h
  have h2 : Lib.TabIs Tryd.prog W "lintel/octet.sizes" .i64 sizesZ :=
    Lib.tabIs_of_head (rest := []) g_sizes (show (Tryd.prog.globals[1]?).map (·.type) = some 113 by kernel_rfl) Tryd.underlying113 Tryd.underlying3 (by kernel_rfl) (by kernel_rfl) h.tail
  exact ⟨⟨by have := World.var?_cell g_tab h1 0; have := World.block_lt_of_cell? W _ (this.trans (show _ = some (.int .u32 0) from rfl)); exact this, h1⟩, ⟨by have := World.var?_cell g_sizes h2 0; have := World.block_lt_of_cell? W _ (this.trans (show _ = some (.int .i64 1) from rfl)); exact this, h2⟩⟩
end Go.Proofs.YtkajlbdiofobcaaDoor
