/-
  octet: the document's answers on texts (for seats that do not have all of octet).
-/
import Derived.Test.YtokklcfdfjgbjaaDoorOctN
import Derived.Test.YtokklcfdfjgbjaaDoorRoomy
namespace Go.Proofs.YtokklcfdfjgbjaaDoor
open Go.RowKit Go
set_option linter.unusedVariables false
set_option maxRecDepth 100000
theorem refWide_any (s : ByteArray) (w : World) (hs : s.size ≤ 1000000000) :
    Calls Tryd.prog 24 #[.string s] w fun e w' => ∃ A n c, e = .returned (.slice A n c) ∧ OwnB w' w.heap.size A n c (wideS s.data.toList) ∧ Below w.heap.size w w' := by
  go_enter Tryd.func24, Tryd.ntmps24
  go_wp2
  go_loopw [3, 4] (fun v x wr => ∃ (i : Nat) (A : Option Addr) (c : Nat), i ≤ s.size ∧ x = .int .i64 i ∧ v = .slice A (2 * i) c ∧ OwnB wr w.heap.size A (2 * i) c (widen (s.data.toList.take i)) ∧ (s.data.toList.take i).all letter = true ∧ Below w.heap.size w wr) (fun _ x _ => s.size - (intOf x).toNat)
  case atStart => exact ⟨0, none, 0, Nat.zero_le _, rfl, rfl, OwnB.nil _ _, rfl, Below.refl _ _⟩
  case round =>
    obtain ⟨i, A, c, hi, rfl, rfl, hown, hall, hbl⟩ := hrel
    by_cases hlt : i < s.size
    · have hsn := str_at s i hlt
      have hlast : ∀ q, s.data.toList[i]? = some q → s.data.toList.take (i + 1) = s.data.toList.take i ++ [q] := by
        intro q h
        have hl : i < s.data.toList.length := by simpa using hlt
        rw [List.take_succ_eq_append_getElem hl]
        rw [List.getElem?_eq_getElem hl] at h
        injection h with h
        rw [h]
      have hno : ∀ q, s.data.toList[i]? = some q → letter q = false → wideS s.data.toList = [] := by
        intro q h h2
        unfold wideS
        rw [if_neg]
        intro h3
        rw [all_at h3 h] at h2
        cases h2
      have HLAST := Lib.hid (hlast _ hsn)
      have HNO := Lib.hid (hno _ hsn)
      have HML := Lib.hid hown.len
      have hsz := hbl.size
      clear hlast hno hsn
      have hqb : ((s[i]'hlt).toNat : Int) ≤ 255 := by have := (s[i]'hlt).toNat_lt; omega
      by_cases h0 : 1 ≤ (s[i]'hlt).toNat
      · by_cases h1 : (s[i]'hlt).toNat ≤ 127
        · have hcond : letter (s[i]'hlt) = true := by unfold letter; simp; omega
          have HC := Lib.hid hcond
          clear hcond
          go_wp2_with (at_builtin; refine wpList_app _ _ rfl rfl rfl w.heap.size A (2 * i) c (widen (s.data.toList.take i)) rfl (hown.alloc _) (wr.heap.size + 1) (some ⟨wr.heap.size, 0, none⟩) 2 [s[i]'hlt, 0] rfl (bs_new _ _ _ _ _ rfl) (by rw [HML.out]; simp; omega) (by simp; omega) ?_)
          intro A3 c3 w3 hown3 hg3
          go_wp2
          go_roundw
          case rel =>
            refine ⟨i + 1, A3, c3, by omega, by go_num, rfl, ?_, ?_, (hbl.alloc hsz _).grown hg3 (by simp; omega) (fun g hg => (hown.blk_lt hg).1)⟩
            · rw [HLAST.out, widen_snoc]
              exact hown3
            · rw [HLAST.out, List.all_append, hall]
              simp [HC.out]
          case measure => simp [intOf]; omega
        · have hcond : letter (s[i]'hlt) = false := by unfold letter; simp; omega
          have HN := Lib.hid (HNO.out hcond)
          clear hcond
          go_wp2
          go_ret
          exact ⟨none, 0, 0, rfl, by rw [HN.out]; exact OwnB.nil _ _, hbl⟩
      · have hcond : letter (s[i]'hlt) = false := by unfold letter; simp; omega
        have HN := Lib.hid (HNO.out hcond)
        clear hcond
        go_wp2
        go_ret
        exact ⟨none, 0, 0, rfl, by rw [HN.out]; exact OwnB.nil _ _, hbl⟩
    · obtain rfl : i = s.size := by omega
      have hf : s.data.toList.take s.size = s.data.toList := List.take_of_length_le (by simp)
      rw [hf] at hown hall
      have HW : Hid (wideS s.data.toList = widen s.data.toList) := by unfold wideS; rw [if_pos hall]; exact rfl
      go_wp2
      go_ret
      exact ⟨_, _, _, rfl, by rw [HW.out]; exact hown, hbl⟩

theorem refNarrow_any (A : Option Addr) (n c : Nat) (bs : List UInt8) (w : World) (hR : RB w A n bs) (hn : n ≤ 1000000000) :
    Calls Tryd.prog 30 #[.slice A n c] w (NarrowPost w bs) := by
  have HL := Lib.hid hR.1
  go_enter Tryd.func30, Tryd.ntmps30
  go_wp2
  go_loopw [4, 5] (fun v x wr => ∃ (j : Nat) (A2 : Option Addr) (c2 : Nat) (l : List UInt8), 2 * j ≤ n ∧ x = .int .i64 ((2 * j : Nat) : Int) ∧ v = .slice A2 j c2 ∧ OwnB wr w.heap.size A2 j c2 l ∧ Hid (narrowS bs = (narrowS (bs.drop (2 * j))).map (l ++ ·)) ∧ Below w.heap.size w wr) (fun _ x _ => n - (intOf x).toNat)
  case atStart => exact ⟨0, none, 0, [], Nat.zero_le _, rfl, rfl, OwnB.nil _ _, by simp [Hid], Below.refl _ _⟩
  case round =>
    obtain ⟨j, A2, c2, l, hj, rfl, rfl, hown, hnar, hbl⟩ := hrel
    by_cases hlt : 2 * j < n
    · by_cases hone : 2 * j + 1 = n
      · have HN : Hid (narrowS bs = none) := by
          have h1 := hnar.out
          have h2 : narrowS (bs.drop (2 * j)) = none := narrow_odd 0 _ (by rw [List.length_drop, HL.out]; omega)
          rw [h2] at h1
          exact h1
        clear hnar hown
        go_wp2
        go_ret2
        exact narrow_no HN.out hbl
      · have hbq : ((2 * (j : Int) + 1) == (n : Int)) = false := by simp; omega
        obtain ⟨b, off, p, rfl, hblt, hp, hcell⟩ := hR.at_ (k := 2 * j) (by omega)
        obtain ⟨b', off', z, e', _, hz, hcell'⟩ := hR.at_ (k := 2 * j + 1) (by omega)
        injection e' with e'
        injection e' with e1 e2
        subst e1; subst e2
        have h1 := (hbl.cell (p := ⟨b, off + 2 * j, none⟩) hblt).trans hcell
        have h2 := (hbl.cell (p := ⟨b, off + (2 * j + 1), none⟩) hblt).trans hcell'
        have hdrop : bs.drop (2 * j) = p :: z :: bs.drop (2 * (j + 1)) := by
          have l1 : 2 * j < bs.length := by rw [HL.out]; omega
          have l2 : 2 * j + 1 < bs.length := by rw [HL.out]; omega
          rw [List.drop_eq_getElem_cons l1, List.drop_eq_getElem_cons l2]
          rw [List.getElem?_eq_getElem l1] at hp
          rw [List.getElem?_eq_getElem l2] at hz
          injection hp with hp
          injection hz with hz
          rw [hp, hz]
          rfl
        have HD := Lib.hid hdrop
        have HML := Lib.hid hown.len
        have hpb : (p.toNat : Int) ≤ 255 := by have := p.toNat_lt; omega
        clear hdrop hp hz hcell hcell'
        have hsz := hbl.size
        by_cases hlet : 1 ≤ p.toNat ∧ p.toNat ≤ 127 ∧ z.toNat = 0
        · obtain ⟨k1, k2, k3⟩ := hlet
          have HN : Hid (narrowS bs = (narrowS (bs.drop (2 * (j + 1)))).map ((l ++ [p]) ++ ·)) := by
            have hz0 : z = 0 := UInt8.toNat_inj.1 k3
            have := hnar.out
            rw [HD.out] at this
            rw [narrow_cons, if_pos (by simp [letter, hz0]; omega)] at this
            rw [this, Option.map_map]
            unfold Hid
            congr 1
            funext t
            simp
          go_wp2_with (at_builtin; refine wpList_app _ _ rfl rfl rfl w.heap.size A2 j c2 l rfl (hown.alloc _) (wr.heap.size + 1) (some ⟨wr.heap.size, 0, none⟩) 1 [p] rfl (bs_new _ _ _ _ _ rfl) (by rw [HML.out]; simp; omega) (by simp; omega) ?_)
          intro A3 c3 w3 hown3 hg3
          go_wp2
          go_roundw
          case rel => exact ⟨j + 1, A3, c3, l ++ [p], by omega, by go_num, rfl, hown3, HN, (hbl.alloc hsz _).grown hg3 (by simp; omega) (fun g hg => (hown.blk_lt hg).1)⟩
          case measure => simp [intOf]; omega
        · have HN : Hid (narrowS bs = none) := by
            have := hnar.out
            rw [HD.out] at this
            rw [narrow_cons, if_neg (by
              intro hc
              simp only [letter, Bool.and_eq_true, decide_eq_true_eq, beq_iff_eq] at hc
              exact hlet ⟨hc.1.1, hc.1.2, by rw [hc.2]; rfl⟩)] at this
            exact this
          clear hnar hown
          by_cases k1 : 1 ≤ p.toNat
          · by_cases k2 : p.toNat ≤ 127
            · have k3 : ¬ z.toNat = 0 := fun e => hlet ⟨k1, k2, e⟩
              have k4 : (((z.toNat : Nat) : Int) != 0) = true := by simpa using k3
              clear hlet
              go_wp2
              go_ret2
              exact narrow_no HN.out hbl
            · clear hlet
              go_wp2
              go_ret2
              exact narrow_no HN.out hbl
          · clear hlet
            go_wp2
            go_ret2
            exact narrow_no HN.out hbl
    · obtain rfl : 2 * j = n := by omega
      have HN : Hid (narrowS bs = some l) := by
        have := hnar.out
        rw [List.drop_of_length_le (by rw [HL.out]; omega)] at this
        show narrowS bs = some l
        simpa [narrowS] using this
      have hst := run_strOf wr _ A2 l c2 hown.reads
      rw [hown.len] at hst
      go_wp2
      go_ret2
      exact narrow_yes HN.out hbl
end Go.Proofs.YtokklcfdfjgbjaaDoor
