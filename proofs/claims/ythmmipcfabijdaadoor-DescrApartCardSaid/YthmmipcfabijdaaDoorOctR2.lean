/-
  octet: the document's answers on texts (for seats that do not have all of octet).
-/
import Derived.Test.YthmmipcfabijdaaDoorOctN
import Derived.Test.YthmmipcfabijdaaDoorRef
namespace Go.Proofs.YthmmipcfabijdaaDoor
open Go.RowKit Go
set_option linter.unusedVariables false
set_option maxRecDepth 100000
theorem refWide_any (s : ByteArray) (w : World) (hs : s.size ≤ 1000000000) :
    Calls Tryd.prog 31 #[.string s] w fun e w' => ∃ A n c, e = .returned (.slice A n c) ∧ OwnB w' w.heap.size A n c (wideS s.data.toList) ∧ Below w.heap.size w w' := by
  go_enter Tryd.func31, Tryd.ntmps31
  go_wp2
  go_loopw [3, 4] (fun v x wr => ∃ (i : Nat) (A : Option Addr) (c : Nat), i ≤ s.size ∧ x = .int .i64 i ∧ v = .slice A (2 * i) c ∧ OwnB wr w.heap.size A (2 * i) c (widen (s.data.toList.take i)) ∧ (s.data.toList.take i).all letter = true ∧ Below w.heap.size w wr) (fun _ x _ => s.size - (intOf x).toNat)
  case atStart => exact ⟨0, none, 0, Nat.zero_le _, rfl, rfl, OwnB.nil _ _, rfl, Below.refl _ _⟩
  case round =>
    obtain ⟨i, A, c, hi, rfl, rfl, hown, hall, hbl⟩ := hrel
    by_cases hlt : i < s.size
    · have hsn := str_at s i hlt
      have hlast : ∀ q, s.data.toList[i]? = some q → s.data.toList.take (i + 1) = s.data.toList.take i ++ [q] := by
        intro q h
        have hl : i < s.data.toList.length := by simpa using hlt
        rw [List.take_succ_eq_append_getElem hl]
        rw [List.getElem?_eq_getElem hl] at h
        injection h with h
        rw [h]
      have hno : ∀ q, s.data.toList[i]? = some q → letter q = false → wideS s.data.toList = [] := by
        intro q h h2
        unfold wideS
        rw [if_neg]
        intro h3
        rw [all_at h3 h] at h2
        cases h2
      have HLAST := Lib.hid (hlast _ hsn)
      have HNO := Lib.hid (hno _ hsn)
      have HML := Lib.hid hown.len
      have hsz := hbl.size
      clear hlast hno hsn
      have hqb : ((s[i]'hlt).toNat : Int) ≤ 255 := by have := (s[i]'hlt).toNat_lt; omega
      by_cases h0 : 1 ≤ (s[i]'hlt).toNat
      · by_cases h1 : (s[i]'hlt).toNat ≤ 127
        · have hcond : letter (s[i]'hlt) = true := by unfold letter; simp; omega
          have HC := Lib.hid hcond
          clear hcond
          go_wp2_with (at_builtin; refine wpList_app _ _ rfl rfl rfl w.heap.size A (2 * i) c (widen (s.data.toList.take i)) rfl (hown.alloc _) (wr.heap.size + 1) (some ⟨wr.heap.size, 0, none⟩) 2 [s[i]'hlt, 0] rfl (bs_new _ _ _ _ _ rfl) (by rw [HML.out]; simp; omega) (by simp; omega) ?_)
          intro A3 c3 w3 hown3 hg3
          go_wp2
          go_roundw
          case rel =>
            refine ⟨i + 1, A3, c3, by omega, by go_num, rfl, ?_, ?_, (hbl.alloc hsz _).grown hg3 (by simp; omega) (fun g hg => (hown.blk_lt hg).1)⟩
            · rw [HLAST.out, widen_snoc]
              exact hown3
            · rw [HLAST.out, List.all_append, hall]
              simp [HC.out]
          case measure => simp [intOf]; omega
        · have hcond : letter (s[i]'hlt) = false := by unfold letter; simp; omega
          have HN := Lib.hid (HNO.out hcond)
          clear hcond
          go_wp2
          go_ret
          exact ⟨none, 0, 0, rfl, by rw [HN.out]; exact OwnB.nil _ _, hbl⟩
      · have hcond : letter (s[i]'hlt) = false := by unfold letter; simp; omega
        have HN := Lib.hid (HNO.out hcond)
        clear hcond
        go_wp2
        go_ret
        exact ⟨none, 0, 0, rfl, by rw [HN.out]; exact OwnB.nil _ _, hbl⟩
    · obtain rfl : i = s.size := by omega
      have hf : s.data.toList.take s.size = s.data.toList := List.take_of_length_le (by simp)
      rw [hf] at hown hall
      have HW : Hid (wideS s.data.toList = widen s.data.toList) := by unfold wideS; rw [if_pos hall]; exact rfl
      go_wp2
      go_ret
      exact ⟨_, _, _, rfl, by rw [HW.out]; exact hown, hbl⟩

end Go.Proofs.YthmmipcfabijdaaDoor
