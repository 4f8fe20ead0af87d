/-
  flash: the statements' own Same and works; no flash.
-/
import Derived.Test.YtnodocpoangnkaaFlD
import Derived.WalkSpells
import Derived.Outline
import Derived.WalkLawsBesides
namespace Go.Proofs.Ytnodocpoangnkaa
open Go.RowKit Go
set_option linter.unusedVariables false
set_option linter.unusedSimpArgs false
set_option maxRecDepth 100000
theorem rb_block {w : World} {g : Nat} {cs : Array Value} {t : TypeId} {fr : Nat × Nat} {bs : List UInt8} {n : Nat} (hk : w.heap[g]? = some (.cells cs t fr)) (h : cs.toList = bs.map bv) (hn : bs.length = n) : RB w (some ⟨g, 0, none⟩) n bs := by
  refine ⟨hn, fun hne => ⟨g, 0, rfl, block_lt hk, fun k hk2 => ?_⟩⟩
  have h9 := Lib.cell_of_heap hk (0 + k)
  rw [h9]
  have h8 : cs[0 + k]? = some (bv bs[k]) := by
    rw [← Array.getElem?_toList, h, List.getElem?_map, Nat.zero_add, List.getElem?_eq_getElem hk2]
    rfl
  rw [h8]
set_option maxHeartbeats 4000000 in
theorem same7_any (A B : Option Addr) (n c m d : Nat) (x y : List UInt8) (w : World) (hA : RB w A n x) (hB : RB w B m y) (hn : n ≤ 1000000000) (hm : m ≤ 1000000000) :
    Calls Try.prog 17 #[.slice A n c, .slice B m d] w fun e w' => e = .returned (.bool (decide (x = y))) ∧ Below w.heap.size w w' := by
  have HA := Lib.hid hA
  have HB := Lib.hid hB
  by_cases hnm : n = m
  · subst hnm
    clear hA hB
    go_enter Try.func17, Try.ntmps17
    go_wp2_with fail
    go_loopw [5] (fun vi wl => ∃ i : Nat, vi = .int .i64 (i : Int) ∧ i ≤ n ∧ Hid (x.take i = y.take i ∧ Below w.heap.size w wl)) (fun vi _ => n - (intOf vi).toNat)
    case atStart => exact ⟨0, rfl, Nat.zero_le _, rfl, Below.refl _ _⟩
    case round =>
      obtain ⟨i, rfl, hi, HK⟩ := hrel
      by_cases hlt : i < n
      · have i1 : (i : Int) < (n : Int) := by omega
        have i2 : 0 ≤ (i : Int) := by omega
        have e3 : IntKind.i64.wrap ((i : Int) + 1) = (i : Int) + 1 := IntWalk.i64_in _ (by omega)
        obtain ⟨ba, oa, p, rfl, hba, hx, cA⟩ := HA.out.at_ hlt
        obtain ⟨bb, ob, q, rfl, hbb, hy, cB⟩ := HB.out.at_ hlt
        have cA' := (HK.out.2.cell (p := ⟨ba, oa + i, none⟩) hba).trans cA
        have cB' := (HK.out.2.cell (p := ⟨bb, ob + i, none⟩) hbb).trans cB
        clear cA cB hba hbb
        by_cases hxy : p = q
        · subst hxy
          have HN : Hid (x.take (i + 1) = y.take (i + 1) ∧ Below w.heap.size w wr) := by
            refine ⟨?_, HK.out.2⟩
            rw [List.take_add_one, List.take_add_one, HK.out.1, hx, hy]
          have t1 : ((p.toNat : Int) != (p.toNat : Int)) = false := by simp
          clear hx hy HK
          go_wp2_with fail
          go_quiet (fail)
          go_wp2
          go_roundw
          case rel => exact ⟨i + 1, by go_num, by omega, HN.out.1, kp_drewN HN.out.2 _⟩
          case measure => simp [intOf]; omega
        · have hpq : p.toNat ≠ q.toNat := fun h => hxy (UInt8.toNat_inj.1 h)
          have t1 : ((p.toNat : Int) != (q.toNat : Int)) = true := by simp; omega
          have HN : Hid (x ≠ y ∧ Below w.heap.size w wr) := by
            refine ⟨?_, HK.out.2⟩
            rintro rfl
            rw [hx] at hy
            injection hy with hy
            exact hxy hy
          clear hx hy HK
          go_wp2_with fail
          go_quiet (fail)
          go_wp2
          go_ret
          exact ⟨by rw [decide_eq_false HN.out.1]; rfl, kp_drewN HN.out.2 _⟩
      · have i1 : ¬ (i : Int) < (n : Int) := by omega
        have HN : Hid (x = y ∧ Below w.heap.size w wr) := by
          refine ⟨?_, HK.out.2⟩
          have h := HK.out.1
          rw [List.take_of_length_le (by rw [HA.out.1]; omega), List.take_of_length_le (by rw [HB.out.1]; omega)] at h
          exact h
        clear HK
        go_wp2
        go_ret
        exact ⟨by rw [decide_eq_true HN.out.1]; rfl, HN.out.2⟩
  · have i1 : ((n : Int) != (m : Int)) = true := by simp; omega
    have hne : x ≠ y := by
      rintro rfl
      exact hnm (hA.1.symm.trans hB.1)
    have i2 : ¬ n = m := hnm
    rw [decide_eq_false hne]
    clear hA hB HA HB hne
    go_enter Try.func17, Try.ntmps17
    go_wp2
    go_ret
    exact ⟨rfl, Below.refl _ _⟩
/-- The statements' anchor. -/
def wS1 : FS := (progQ [15, 240] 3 (newS 2 16)).1
def wS2 : FS := (progQ [248] 3 wS1).1
theorem w_f1 : (progQ [15, 240] 3 (newS 2 16)).2 = 0 ∧ (progQ [248] 3 wS1).2 = 0 ∧ wS1.off = false ∧ wS1.n = 2 ∧ wS1.s = 16 ∧ wS1.wr = 2 ∧ wS2.off = false ∧ wS2.n = 2 ∧ wS2.s = 16 ∧ wS2.wr = 3 ∧ (wS2.bs.drop 3).take 2 = [8, 240] := by
  refine ⟨?_, ?_, ?_, ?_, ?_, ?_, ?_, ?_, ?_, ?_, ?_⟩ <;> kernel_rfl
set_option maxHeartbeats 2000000 in
theorem fworks_any (w : World) : Calls Try.prog 6 #[] w fun e w' => e = .returned (.bool true) ∧ Below w.heap.size w w' := by
  obtain ⟨F1, F2, F3, F4, F5, F6, F7, F8, F9, F10, F11⟩ := w_f1
  have NW := Lib.hid (fnew_any 2 16 (by omega) (by omega) (by omega) (by omega) w)
  have HF := Lib.hid (And.intro F1 (And.intro F2 (And.intro F3 (And.intro F4 (And.intro F5 (And.intro F6 (And.intro F7 (And.intro F8 (And.intro F9 (And.intro F10 F11))))))))))
  clear F1 F2 F3 F4 F5 F6 F7 F8 F9 F10 F11
  go_enter Try.func6, Try.ntmps6
  go_wp2_with fail
  refine NW.out.mono ?_
  rintro e w1 ⟨g, a, c, rfl, hf1, hb1⟩
  clear NW
  have H1 := Lib.hid hf1
  have HB1 := Lib.hid hb1
  clear hf1 hb1
  go_wp2_with fail
  refine calls_nm fun W hW => ?_
  have hbW : Below w1.heap.size w1 W := by rw [← hW]; exact kp_alloc (Below.refl _ _) _
  have hR : RB W (some ⟨w1.heap.size, 0, none⟩) 2 [15, 240] := by rw [← hW]; exact rb_block (has_new _ _) rfl rfl
  have hfW := H1.out.below hbW
  have P := (fprogram_any hfW rfl 3 2 2 _ _ hR (by intro _ d hd; cases hd; have h1 := H1.out.alt; have h2 := H1.out.ab.2; exact ⟨(by show w1.heap.size ≠ g; omega), (by show w1.heap.size ≠ a; omega)⟩) (.inr (by show 3 + 2 ≤ 2 * 16; omega)) (by omega) (by show 0 + 2 < _; omega))
  rw [HF.out.1] at P
  refine P.mono ?_
  clear P hW hR hfW
  rintro e w2 ⟨rfl, hf2, hfar2⟩
  have H2 : Hid (FL w2 w.heap.size g a c wS1) := hf2
  have HB2 : Hid (Below w.heap.size w w2) := (HB1.out.trans (hbW.mono HB1.out.size)).trans (hfar2.below H1.out.gb H1.out.ab.1 (by have := hbW.size; have := HB1.out.size; omega))
  clear hbW hf2 hfar2 H1 HB1
  go_wp2_with fail
  refine calls_nm fun W hW => ?_
  have hbW : Below w2.heap.size w2 W := by rw [← hW]; exact kp_alloc (Below.refl _ _) _
  have hR : RB W (some ⟨w2.heap.size, 0, none⟩) 1 [248] := by rw [← hW]; exact rb_block (has_new _ _) rfl rfl
  have hfW := H2.out.below hbW
  have P := (fprogram_any hfW HF.out.2.2.1 3 1 1 _ _ hR (by intro _ d hd; cases hd; have h1 := H2.out.alt; have h2 := H2.out.ab.2; exact ⟨(by show w2.heap.size ≠ g; omega), (by show w2.heap.size ≠ a; omega)⟩) (.inr (by rw [HF.out.2.2.2.1, HF.out.2.2.2.2.1]; omega)) (by omega) (by rw [HF.out.2.2.2.2.2.1]; omega))
  rw [HF.out.2.1] at P
  refine P.mono ?_
  clear P hW hR hfW
  rintro e w3 ⟨rfl, hf3, hfar3⟩
  have H3 : Hid (FL w3 w.heap.size g a c wS2) := hf3
  have HB3 : Hid (Below w.heap.size w w3) := (HB2.out.trans (hbW.mono HB2.out.size)).trans (hfar3.below H2.out.gb H2.out.ab.1 (by have := hbW.size; have := HB2.out.size; omega))
  clear hbW hf3 hfar3 H2 HB2
  have RD := fread_any H3.out HF.out.2.2.2.2.2.2.1 3 2 (by rw [HF.out.2.2.2.2.2.2.2.1, HF.out.2.2.2.2.2.2.2.2.1]; omega)
  rw [HF.out.2.2.2.2.2.2.2.2.2.2] at RD
  have RD := Lib.hid RD
  go_wp2_with fail
  refine RD.out.mono ?_
  rintro e w4 ⟨A4, c4, rfl, ho4, hb4⟩
  obtain ⟨b4, rfl, _, _⟩ := ho4.shape (by have := ho4.cap.1; omega)
  have q0 := ho4.cellAt 0 8 rfl
  have q1 := ho4.cellAt 1 240 rfl
  have H4 := Lib.hid (H3.out.below hb4)
  have HB4 := Lib.hid (HB3.out.trans (hb4.mono HB3.out.size))
  have cw := Lib.hid (fwrites_any H4.out)
  have cn := Lib.hid (fsectors_any H4.out)
  have cs := Lib.hid fun w5 (hb : Below w4.heap.size w4 w5) => fsize_any (H4.out.below hb)
  rw [HF.out.2.2.2.2.2.2.2.2.2.1] at cw
  rw [HF.out.2.2.2.2.2.2.2.1] at cn
  rw [HF.out.2.2.2.2.2.2.2.2.1] at cs
  clear RD ho4 H3 HB3 hb4 H4
  go_wp2_with fail
  refine cw.out.mono ?_
  rintro e w5 ⟨rfl, rfl⟩
  go_wp2_with fail
  refine cn.out.mono ?_
  rintro e w6 ⟨rfl, hb6⟩
  go_wp2_with fail
  refine (cs.out w6 hb6).mono ?_
  rintro e w7 ⟨rfl, rfl⟩
  have HB7 := Lib.hid (HB4.out.trans (hb6.mono HB4.out.size))
  clear cw cn cs q0 q1 hb6 HB4
  go_wp2
  go_ret
  exact ⟨rfl, HB7.out⟩
end Go.Proofs.Ytnodocpoangnkaa
