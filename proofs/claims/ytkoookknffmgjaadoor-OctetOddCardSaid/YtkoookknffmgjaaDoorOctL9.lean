/-
  octet: the statement on one letter that is not as Wide made it.
-/
import Derived.Test.YtkoookknffmgjaaDoorOctX
import Derived.Test.YtkoookknffmgjaaDoorOctL1
import Derived.Test.YtkoookknffmgjaaDoorRef
namespace Go.Proofs.YtkoookknffmgjaaDoor
open Go.RowKit Go
set_option linter.unusedVariables false
set_option maxRecDepth 100000
theorem widen_cons (p : UInt8) (r : List UInt8) : widen (p :: r) = p :: 0 :: widen r := rfl
theorem narrow_hi (L : List UInt8) (i : Nat) (x : UInt8) (hi : i < L.length) (hL : L.all letter = true) : narrowS ((widen L).set (2 * i + 1) x) = if x == 0 then some L else none := by
  induction L generalizing i with
  | nil => simp at hi
  | cons p r ih =>
    simp only [List.all_cons, Bool.and_eq_true] at hL
    rw [widen_cons]
    cases i with
    | zero =>
      show narrowS (p :: x :: widen r) = _
      rw [narrow_cons, narrow_widen r hL.2, hL.1]
      cases hx : (x == 0) <;> simp
    | succ i =>
      show narrowS (p :: 0 :: (widen r).set (2 * i + 1) x) = _
      rw [narrow_cons, ih i (by simpa using hi) hL.2, hL.1]
      cases hx : (x == 0) <;> simp
theorem narrow_lo (L : List UInt8) (i : Nat) (x : UInt8) (hi : i < L.length) (hL : L.all letter = true) : narrowS ((widen L).set (2 * i) x) = if letter x then some (L.set i x) else none := by
  induction L generalizing i with
  | nil => simp at hi
  | cons p r ih =>
    simp only [List.all_cons, Bool.and_eq_true] at hL
    rw [widen_cons]
    cases i with
    | zero =>
      show narrowS (x :: 0 :: widen r) = _
      rw [narrow_cons, narrow_widen r hL.2]
      cases hx : letter x <;> simp
    | succ i =>
      show narrowS (p :: 0 :: (widen r).set (2 * i) x) = _
      rw [narrow_cons, ih i (by simpa using hi) hL.2, hL.1]
      cases hx : letter x <;> simp
theorem widen_lo (L : List UInt8) (i : Nat) (q : UInt8) (hq : L[i]? = some q) : (widen L)[2 * i]? = some q := by
  induction L generalizing i with
  | nil => simp at hq
  | cons p r ih =>
    rw [widen_cons]
    cases i with
    | zero => simpa using hq
    | succ i => exact ih i (by simpa using hq)
/-- What is found at the place that is turned to. -/
def modZ (a m : Int) : Int := if a.tmod m < 0 then a.tmod m + m else a.tmod m
theorem modZ_nat (a : Int) (m : Nat) (hm : 0 < m) : ∃ k : Nat, modZ a m = k ∧ k < m := by
  have h1 := Int.tmod_lt_of_pos a (show (0 : Int) < m by omega)
  have h2 : -(m : Int) < a.tmod m := by
    rcases Int.lt_or_le a 0 with h | h
    · have h3 := Int.neg_tmod (a := a) (b := (m : Int))
      have h4 := Int.tmod_lt_of_pos (-a) (show (0 : Int) < m by omega)
      omega
    · have := Int.tmod_nonneg (m : Int) h
      omega
  unfold modZ
  split
  · exact ⟨(a.tmod m + m).toNat, by omega, by omega⟩
  · exact ⟨(a.tmod m).toNat, by omega, by omega⟩
theorem widen_hi0 (L : List UInt8) (i : Nat) (hi : i < L.length) : (widen L)[2 * i + 1]? = some 0 := by
  induction L generalizing i with
  | nil => simp at hi
  | cons p r ih =>
    rw [widen_cons]
    cases i with
    | zero => rfl
    | succ i => exact ih i (by simpa using hi)
theorem set_same (L : List UInt8) (i : Nat) (q : UInt8) (hq : L[i]? = some q) : L.set i q = L := by
  apply List.ext_getElem?
  intro j
  rw [List.getElem?_set]
  by_cases h : i = j
  · subst h
    rw [if_pos rfl, hq]
    have : i < L.length := by
      rcases Nat.lt_or_ge i L.length with h1 | h1
      · exact h1
      · rw [List.getElem?_eq_none h1] at hq; cases hq
    rw [if_pos this]
  · rw [if_neg h]
theorem set_other (L : List UInt8) (i : Nat) (q x : UInt8) (hq : L[i]? = some q) (hne : x ≠ q) : L.set i x ≠ L := by
  intro e
  have h : (L.set i x)[i]? = some q := by rw [e]; exact hq
  rw [List.getElem?_set, if_pos rfl] at h
  split at h
  · injection h with h; exact hne h
  · cases h
theorem odd_lo_neg (s : ByteArray) (at_ : Int) (x q : UInt8) (w : World) (hs : s.size ≤ 4096) (hall : s.data.toList.all letter = true) (ha1 : -9223372036854775808 ≤ at_) (ha2 : at_ ≤ 9223372036854775807) (hT : Sizes w)
    (i : Nat) (hi : i < s.size) (hq : s.data.toList[i]? = some q) (ht : at_.tmod (2 * (s.size : Int)) = 2 * (i : Int) - 2 * (s.size : Int)) :
    Calls Tryd.prog 11 #[.string s, .int .i64 at_, .int .u8 (x.toNat : Int)] w fun e w' => e = .returned (.bool true) ∧ Below w.heap.size w w' := by
  have WK := Lib.hid (fun W (h : Sizes W) => works_any W h)
  have WD := Lib.hid (wideB_any s w (by omega))
  rw [wide_yes hall] at WD
  have HL := Lib.hid (data_len s)
  have HWL := Lib.hid (widen_len s.data.toList)
  have hx := x.toNat_lt
  have HN := Lib.hid (narrow_lo s.data.toList i x (by rw [HL.out]; exact hi) hall)
  have HQ := Lib.hid (widen_lo _ i q hq)
  have hq' := Lib.hid hq
  generalize widen s.data.toList = W2 at WD HWL HN HQ
  clear hall hq
  have hw : wrap64 (2 * (i : Int) - 2 * (s.size : Int) + 2 * (s.size : Int)) = 2 * (i : Int) := by unfold wrap64; omega
  have hz : (2 * (s.size : Int) == 0) = false := beq_eq_false_iff_ne.2 (by omega)
  go_enter Tryd.func11, Tryd.ntmps11
  go_wp2_with fail
  refine WD.out.mono ?_
  rintro e w1 ⟨A1, n1, c1, rfl, hown1, hb1⟩
  obtain rfl : 2 * s.size = n1 := by have := hown1.len; rw [HWL.out, HL.out] at this; exact this
  obtain ⟨g, rfl, hg1, hg2⟩ := hown1.shape (by have := hown1.cap.1; omega)
  have C := Lib.hid (copy_any (some ⟨g, 0, none⟩) (2 * s.size) c1 W2 w1 hown1.rb (by omega))
  go_wp2_with fail
  refine C.out.mono ?_
  rintro e w2 ⟨A2, n2, c2, rfl, hown2, hb2⟩
  obtain rfl : 2 * s.size = n2 := by have := hown2.len; rw [HWL.out, HL.out] at this; exact this
  have hown12 := hown1.below hb2 (Nat.le_refl _)
  have hb2' := hb1.trans (hb2.mono hb1.size)
  have hsz1 := hb1.size
  have hsz2 := hb2.size
  go_wp2_with (at_builtin; refine wpList_app1 _ _ rfl rfl rfl w1.heap.size A2 (2 * s.size) c2 _ rfl (hown2.alloc _) w2.heap.size _ x rfl (by simp) (by omega) (by simp; omega) ?_)
  intro A3 c3 w3 hown3 _ hg3 _
  have hown13 := (hown12.alloc (.cells #[.int .u8 (x.toNat : Int)] 5)).kept hg3 (by
    right
    intro e
    have h9 : blk A2 = some g := e.symm
    have := (hown2.blk_lt h9).1
    omega)
  have hb3 : Below w.heap.size w w3 := (hb2'.alloc (by omega) _).grown hg3 (by simp; omega) (fun k hk => by have := (hown2.blk_lt hk).1; omega)
  clear hown2 hown12 hown1
  go_wp2_with fail
  refine (narrow_any A3 _ c3 _ w3 hown3.rb (by omega)).mono ?_
  intro e w4 hp4
  have hodd := narrow_odd s.size (W2 ++ [x]) (by rw [List.length_append, HWL.out, HL.out]; rfl)
  unfold NarrowPost at hp4
  rw [hodd] at hp4
  obtain ⟨rfl, hb4⟩ := hp4
  clear hodd hown3
  have hown14 := hown13.below hb4 (Nat.le_refl _)
  have hcell := hown14.cellAt (2 * i) q HQ.out
  have hfree := hown14.free (2 * i)
  have hst := hown14.stored (2 * i) x
  have hb4' := hb3.trans (hb4.mono hb3.size)
  have hb5' : Below w.heap.size w (w4.setCell ⟨g, 2 * i, none⟩ (.int .u8 (x.toNat : Int))) := hb4'.setCell hg1 _
  go_wp2_with fail
  refine (narrow_any (some ⟨g, 0, none⟩) (2 * s.size) c1 (W2.set (2 * i) x) _ hst.rb (by omega)).mono ?_
  clear hown13 hown14 hcell hfree
  intro e w6 hp6
  unfold NarrowPost at hp6
  rw [HN.out] at hp6
  obtain ⟨hp6, hb6⟩ := hp6
  have hb6' := hb5'.trans (hb6.mono hb5'.size)
  have hT6 := hT.below' hb6'
  clear hst
  have hm2 : ((2 * (i : Int)) % 2 == 1) = false := by rw [beq_eq_false_iff_ne]; omega
  have hm3 : (2 * (i : Int)).tmod 2 = 0 := by rw [Int.tmod_eq_emod_of_nonneg (by omega)]; omega
  by_cases l1 : 1 ≤ x.toNat
  · by_cases l2 : x.toNat ≤ 127
    · have hl : letter x = true := by unfold letter; simp [l1, l2]
      rw [hl] at hp6
      subst hp6
      by_cases hxq : x = q
      · subst hxq
        have hs1 : (strOf (s.data.toList.set i x)) = s := by rw [set_same _ _ _ hq'.out]; exact strOf_eq s
        have hs2 : (s.toList == s.toList) = true := by simp
        have hs3 : ((x.toNat : Int) == (x.toNat : Int)) = true := by simp
        rw [hs1]
        clear hs1 HN hl
        go_wp2_with fail
        refine (WK.out _ hT6).mono ?_
        rintro e w7 ⟨rfl, hb7⟩
        go_wp2
        go_ret
        exact ⟨rfl, hb6'.trans (hb7.mono hb6'.size)⟩
      · have hs1 : strOf (s.data.toList.set i x) ≠ s := by
          intro e
          refine set_other _ _ _ _ hq'.out hxq ?_
          have := congrArg (fun z => z.data.toList) e
          exact this
        have hs2 : ((strOf (s.data.toList.set i x)).toList == s.toList) = false := by
          rw [beq_eq_false_iff_ne]
          intro e
          rw [strOf_toList, Lib.toList_data] at e
          exact set_other _ _ _ _ hq'.out hxq e
        have hs3 : ((x.toNat : Int) == (q.toNat : Int)) = false := by
          rw [beq_eq_false_iff_ne]
          intro e
          exact hxq (UInt8.toNat_inj.1 (by omega))
        generalize strOf (s.data.toList.set i x) = tt at hs1 hs2
        clear HN hl hs1
        go_wp2_with fail
        refine (WK.out _ hT6).mono ?_
        rintro e w7 ⟨rfl, hb7⟩
        go_wp2
        go_ret
        exact ⟨rfl, hb6'.trans (hb7.mono hb6'.size)⟩
    · have hl : letter x = false := by unfold letter; simp; omega
      rw [hl] at hp6
      subst hp6
      have hd : decide ((x.toNat : Int) ≤ 127) = false := by simp; omega
      clear HN hl
      go_wp2_with fail
      refine (WK.out _ hT6).mono ?_
      rintro e w7 ⟨rfl, hb7⟩
      go_wp2
      go_ret
      exact ⟨rfl, hb6'.trans (hb7.mono hb6'.size)⟩
  · have hl : letter x = false := by unfold letter; simp; omega
    rw [hl] at hp6
    subst hp6
    clear HN hl
    go_wp2_with fail
    refine (WK.out _ hT6).mono ?_
    rintro e w7 ⟨rfl, hb7⟩
    go_wp2
    go_ret
    exact ⟨rfl, hb6'.trans (hb7.mono hb6'.size)⟩
theorem odd_lo_pos (s : ByteArray) (at_ : Int) (x q : UInt8) (w : World) (hs : s.size ≤ 4096) (hall : s.data.toList.all letter = true) (ha1 : -9223372036854775808 ≤ at_) (ha2 : at_ ≤ 9223372036854775807) (hT : Sizes w)
    (i : Nat) (hi : i < s.size) (hq : s.data.toList[i]? = some q) (ht : at_.tmod (2 * (s.size : Int)) = 2 * (i : Int)) :
    Calls Tryd.prog 11 #[.string s, .int .i64 at_, .int .u8 (x.toNat : Int)] w fun e w' => e = .returned (.bool true) ∧ Below w.heap.size w w' := by
  have WK := Lib.hid (fun W (h : Sizes W) => works_any W h)
  have WD := Lib.hid (wideB_any s w (by omega))
  rw [wide_yes hall] at WD
  have HL := Lib.hid (data_len s)
  have HWL := Lib.hid (widen_len s.data.toList)
  have hx := x.toNat_lt
  have HN := Lib.hid (narrow_lo s.data.toList i x (by rw [HL.out]; exact hi) hall)
  have HQ := Lib.hid (widen_lo _ i q hq)
  have hq' := Lib.hid hq
  generalize widen s.data.toList = W2 at WD HWL HN HQ
  clear hall hq
  have hz : (2 * (s.size : Int) == 0) = false := beq_eq_false_iff_ne.2 (by omega)
  go_enter Tryd.func11, Tryd.ntmps11
  go_wp2_with fail
  refine WD.out.mono ?_
  rintro e w1 ⟨A1, n1, c1, rfl, hown1, hb1⟩
  obtain rfl : 2 * s.size = n1 := by have := hown1.len; rw [HWL.out, HL.out] at this; exact this
  obtain ⟨g, rfl, hg1, hg2⟩ := hown1.shape (by have := hown1.cap.1; omega)
  have C := Lib.hid (copy_any (some ⟨g, 0, none⟩) (2 * s.size) c1 W2 w1 hown1.rb (by omega))
  go_wp2_with fail
  refine C.out.mono ?_
  rintro e w2 ⟨A2, n2, c2, rfl, hown2, hb2⟩
  obtain rfl : 2 * s.size = n2 := by have := hown2.len; rw [HWL.out, HL.out] at this; exact this
  have hown12 := hown1.below hb2 (Nat.le_refl _)
  have hb2' := hb1.trans (hb2.mono hb1.size)
  have hsz1 := hb1.size
  have hsz2 := hb2.size
  go_wp2_with (at_builtin; refine wpList_app1 _ _ rfl rfl rfl w1.heap.size A2 (2 * s.size) c2 _ rfl (hown2.alloc _) w2.heap.size _ x rfl (by simp) (by omega) (by simp; omega) ?_)
  intro A3 c3 w3 hown3 _ hg3 _
  have hown13 := (hown12.alloc (.cells #[.int .u8 (x.toNat : Int)] 5)).kept hg3 (by
    right
    intro e
    have h9 : blk A2 = some g := e.symm
    have := (hown2.blk_lt h9).1
    omega)
  have hb3 : Below w.heap.size w w3 := (hb2'.alloc (by omega) _).grown hg3 (by simp; omega) (fun k hk => by have := (hown2.blk_lt hk).1; omega)
  clear hown2 hown12 hown1
  go_wp2_with fail
  refine (narrow_any A3 _ c3 _ w3 hown3.rb (by omega)).mono ?_
  intro e w4 hp4
  have hodd := narrow_odd s.size (W2 ++ [x]) (by rw [List.length_append, HWL.out, HL.out]; rfl)
  unfold NarrowPost at hp4
  rw [hodd] at hp4
  obtain ⟨rfl, hb4⟩ := hp4
  clear hodd hown3
  have hown14 := hown13.below hb4 (Nat.le_refl _)
  have hcell := hown14.cellAt (2 * i) q HQ.out
  have hfree := hown14.free (2 * i)
  have hst := hown14.stored (2 * i) x
  have hb4' := hb3.trans (hb4.mono hb3.size)
  have hb5' : Below w.heap.size w (w4.setCell ⟨g, 2 * i, none⟩ (.int .u8 (x.toNat : Int))) := hb4'.setCell hg1 _
  go_wp2_with fail
  refine (narrow_any (some ⟨g, 0, none⟩) (2 * s.size) c1 (W2.set (2 * i) x) _ hst.rb (by omega)).mono ?_
  clear hown13 hown14 hcell hfree
  intro e w6 hp6
  unfold NarrowPost at hp6
  rw [HN.out] at hp6
  obtain ⟨hp6, hb6⟩ := hp6
  have hb6' := hb5'.trans (hb6.mono hb5'.size)
  have hT6 := hT.below' hb6'
  clear hst
  have hm2 : ((2 * (i : Int)) % 2 == 1) = false := by rw [beq_eq_false_iff_ne]; omega
  have hm3 : (2 * (i : Int)).tmod 2 = 0 := by rw [Int.tmod_eq_emod_of_nonneg (by omega)]; omega
  by_cases l1 : 1 ≤ x.toNat
  · by_cases l2 : x.toNat ≤ 127
    · have hl : letter x = true := by unfold letter; simp [l1, l2]
      rw [hl] at hp6
      subst hp6
      by_cases hxq : x = q
      · subst hxq
        have hs1 : (strOf (s.data.toList.set i x)) = s := by rw [set_same _ _ _ hq'.out]; exact strOf_eq s
        have hs2 : (s.toList == s.toList) = true := by simp
        have hs3 : ((x.toNat : Int) == (x.toNat : Int)) = true := by simp
        rw [hs1]
        clear hs1 HN hl
        go_wp2_with fail
        refine (WK.out _ hT6).mono ?_
        rintro e w7 ⟨rfl, hb7⟩
        go_wp2
        go_ret
        exact ⟨rfl, hb6'.trans (hb7.mono hb6'.size)⟩
      · have hs1 : strOf (s.data.toList.set i x) ≠ s := by
          intro e
          refine set_other _ _ _ _ hq'.out hxq ?_
          have := congrArg (fun z => z.data.toList) e
          exact this
        have hs2 : ((strOf (s.data.toList.set i x)).toList == s.toList) = false := by
          rw [beq_eq_false_iff_ne]
          intro e
          rw [strOf_toList, Lib.toList_data] at e
          exact set_other _ _ _ _ hq'.out hxq e
        have hs3 : ((x.toNat : Int) == (q.toNat : Int)) = false := by
          rw [beq_eq_false_iff_ne]
          intro e
          exact hxq (UInt8.toNat_inj.1 (by omega))
        generalize strOf (s.data.toList.set i x) = tt at hs1 hs2
        clear HN hl hs1
        go_wp2_with fail
        refine (WK.out _ hT6).mono ?_
        rintro e w7 ⟨rfl, hb7⟩
        go_wp2
        go_ret
        exact ⟨rfl, hb6'.trans (hb7.mono hb6'.size)⟩
    · have hl : letter x = false := by unfold letter; simp; omega
      rw [hl] at hp6
      subst hp6
      have hd : decide ((x.toNat : Int) ≤ 127) = false := by simp; omega
      clear HN hl
      go_wp2_with fail
      refine (WK.out _ hT6).mono ?_
      rintro e w7 ⟨rfl, hb7⟩
      go_wp2
      go_ret
      exact ⟨rfl, hb6'.trans (hb7.mono hb6'.size)⟩
  · have hl : letter x = false := by unfold letter; simp; omega
    rw [hl] at hp6
    subst hp6
    clear HN hl
    go_wp2_with fail
    refine (WK.out _ hT6).mono ?_
    rintro e w7 ⟨rfl, hb7⟩
    go_wp2
    go_ret
    exact ⟨rfl, hb6'.trans (hb7.mono hb6'.size)⟩
theorem odd_hi_neg (s : ByteArray) (at_ : Int) (x q : UInt8) (w : World) (hs : s.size ≤ 4096) (hall : s.data.toList.all letter = true) (ha1 : -9223372036854775808 ≤ at_) (ha2 : at_ ≤ 9223372036854775807) (hT : Sizes w)
    (i : Nat) (hi : i < s.size) (hq : s.data.toList[i]? = some q) (ht : at_.tmod (2 * (s.size : Int)) = 2 * (i : Int) + 1 - 2 * (s.size : Int)) :
    Calls Tryd.prog 11 #[.string s, .int .i64 at_, .int .u8 (x.toNat : Int)] w fun e w' => e = .returned (.bool true) ∧ Below w.heap.size w w' := by
  have WK := Lib.hid (fun W (h : Sizes W) => works_any W h)
  have WD := Lib.hid (wideB_any s w (by omega))
  rw [wide_yes hall] at WD
  have HL := Lib.hid (data_len s)
  have HWL := Lib.hid (widen_len s.data.toList)
  have hx := x.toNat_lt
  have HN := Lib.hid (narrow_hi s.data.toList i x (by rw [HL.out]; exact hi) hall)
  have HQ := Lib.hid (widen_hi0 s.data.toList i (by rw [HL.out]; exact hi))
  have hq' := Lib.hid hq
  generalize widen s.data.toList = W2 at WD HWL HN HQ
  clear hall hq
  have hw : wrap64 (2 * (i : Int) + 1 - 2 * (s.size : Int) + 2 * (s.size : Int)) = 2 * (i : Int) + 1 := by unfold wrap64; omega
  have hz : (2 * (s.size : Int) == 0) = false := beq_eq_false_iff_ne.2 (by omega)
  go_enter Tryd.func11, Tryd.ntmps11
  go_wp2_with fail
  refine WD.out.mono ?_
  rintro e w1 ⟨A1, n1, c1, rfl, hown1, hb1⟩
  obtain rfl : 2 * s.size = n1 := by have := hown1.len; rw [HWL.out, HL.out] at this; exact this
  obtain ⟨g, rfl, hg1, hg2⟩ := hown1.shape (by have := hown1.cap.1; omega)
  have C := Lib.hid (copy_any (some ⟨g, 0, none⟩) (2 * s.size) c1 W2 w1 hown1.rb (by omega))
  go_wp2_with fail
  refine C.out.mono ?_
  rintro e w2 ⟨A2, n2, c2, rfl, hown2, hb2⟩
  obtain rfl : 2 * s.size = n2 := by have := hown2.len; rw [HWL.out, HL.out] at this; exact this
  have hown12 := hown1.below hb2 (Nat.le_refl _)
  have hb2' := hb1.trans (hb2.mono hb1.size)
  have hsz1 := hb1.size
  have hsz2 := hb2.size
  go_wp2_with (at_builtin; refine wpList_app1 _ _ rfl rfl rfl w1.heap.size A2 (2 * s.size) c2 _ rfl (hown2.alloc _) w2.heap.size _ x rfl (by simp) (by omega) (by simp; omega) ?_)
  intro A3 c3 w3 hown3 _ hg3 _
  have hown13 := (hown12.alloc (.cells #[.int .u8 (x.toNat : Int)] 5)).kept hg3 (by
    right
    intro e
    have h9 : blk A2 = some g := e.symm
    have := (hown2.blk_lt h9).1
    omega)
  have hb3 : Below w.heap.size w w3 := (hb2'.alloc (by omega) _).grown hg3 (by simp; omega) (fun k hk => by have := (hown2.blk_lt hk).1; omega)
  clear hown2 hown12 hown1
  go_wp2_with fail
  refine (narrow_any A3 _ c3 _ w3 hown3.rb (by omega)).mono ?_
  intro e w4 hp4
  have hodd := narrow_odd s.size (W2 ++ [x]) (by rw [List.length_append, HWL.out, HL.out]; rfl)
  unfold NarrowPost at hp4
  rw [hodd] at hp4
  obtain ⟨rfl, hb4⟩ := hp4
  clear hodd hown3
  have hown14 := hown13.below hb4 (Nat.le_refl _)
  have hcell := hown14.cellAt (2 * i + 1) 0 HQ.out
  have hfree := hown14.free (2 * i + 1)
  have hst := hown14.stored (2 * i + 1) x
  have hb4' := hb3.trans (hb4.mono hb3.size)
  have hb5' : Below w.heap.size w (w4.setCell ⟨g, 2 * i + 1, none⟩ (.int .u8 (x.toNat : Int))) := hb4'.setCell hg1 _
  go_wp2_with fail
  refine (narrow_any (some ⟨g, 0, none⟩) (2 * s.size) c1 (W2.set (2 * i + 1) x) _ hst.rb (by omega)).mono ?_
  clear hown13 hown14 hcell hfree
  intro e w6 hp6
  unfold NarrowPost at hp6
  rw [HN.out] at hp6
  obtain ⟨hp6, hb6⟩ := hp6
  have hb6' := hb5'.trans (hb6.mono hb5'.size)
  have hT6 := hT.below' hb6'
  clear hst
  have hm2 : ((2 * (i : Int) + 1) % 2 == 1) = true := by rw [beq_iff_eq]; omega
  have hm3 : (2 * (i : Int) + 1).tmod 2 = 1 := by rw [Int.tmod_eq_emod_of_nonneg (by omega)]; omega
  cases hl : (x == 0) with
  | true =>
    rw [hl] at hp6
    subst hp6
    have hx0 : x = 0 := by simpa using hl
    have hx1 : ((x.toNat : Int) == 0) = true := by rw [hx0]; rfl
    clear HN hl hx0
    go_wp2_with fail
    refine (WK.out _ hT6).mono ?_
    rintro e w7 ⟨rfl, hb7⟩
    go_wp2
    go_ret
    exact ⟨rfl, hb6'.trans (hb7.mono hb6'.size)⟩
  | false =>
    rw [hl] at hp6
    subst hp6
    have hx1 : ((x.toNat : Int) == 0) = false := by
      rw [beq_eq_false_iff_ne]
      intro e
      have : x = 0 := UInt8.toNat_inj.1 (by simpa using e)
      rw [this] at hl
      cases hl
    clear HN hl
    go_wp2_with fail
    refine (WK.out _ hT6).mono ?_
    rintro e w7 ⟨rfl, hb7⟩
    go_wp2
    go_ret
    exact ⟨rfl, hb6'.trans (hb7.mono hb6'.size)⟩
theorem odd_hi_pos (s : ByteArray) (at_ : Int) (x q : UInt8) (w : World) (hs : s.size ≤ 4096) (hall : s.data.toList.all letter = true) (ha1 : -9223372036854775808 ≤ at_) (ha2 : at_ ≤ 9223372036854775807) (hT : Sizes w)
    (i : Nat) (hi : i < s.size) (hq : s.data.toList[i]? = some q) (ht : at_.tmod (2 * (s.size : Int)) = 2 * (i : Int) + 1) :
    Calls Tryd.prog 11 #[.string s, .int .i64 at_, .int .u8 (x.toNat : Int)] w fun e w' => e = .returned (.bool true) ∧ Below w.heap.size w w' := by
  have WK := Lib.hid (fun W (h : Sizes W) => works_any W h)
  have WD := Lib.hid (wideB_any s w (by omega))
  rw [wide_yes hall] at WD
  have HL := Lib.hid (data_len s)
  have HWL := Lib.hid (widen_len s.data.toList)
  have hx := x.toNat_lt
  have HN := Lib.hid (narrow_hi s.data.toList i x (by rw [HL.out]; exact hi) hall)
  have HQ := Lib.hid (widen_hi0 s.data.toList i (by rw [HL.out]; exact hi))
  have hq' := Lib.hid hq
  generalize widen s.data.toList = W2 at WD HWL HN HQ
  clear hall hq
  have hz : (2 * (s.size : Int) == 0) = false := beq_eq_false_iff_ne.2 (by omega)
  go_enter Tryd.func11, Tryd.ntmps11
  go_wp2_with fail
  refine WD.out.mono ?_
  rintro e w1 ⟨A1, n1, c1, rfl, hown1, hb1⟩
  obtain rfl : 2 * s.size = n1 := by have := hown1.len; rw [HWL.out, HL.out] at this; exact this
  obtain ⟨g, rfl, hg1, hg2⟩ := hown1.shape (by have := hown1.cap.1; omega)
  have C := Lib.hid (copy_any (some ⟨g, 0, none⟩) (2 * s.size) c1 W2 w1 hown1.rb (by omega))
  go_wp2_with fail
  refine C.out.mono ?_
  rintro e w2 ⟨A2, n2, c2, rfl, hown2, hb2⟩
  obtain rfl : 2 * s.size = n2 := by have := hown2.len; rw [HWL.out, HL.out] at this; exact this
  have hown12 := hown1.below hb2 (Nat.le_refl _)
  have hb2' := hb1.trans (hb2.mono hb1.size)
  have hsz1 := hb1.size
  have hsz2 := hb2.size
  go_wp2_with (at_builtin; refine wpList_app1 _ _ rfl rfl rfl w1.heap.size A2 (2 * s.size) c2 _ rfl (hown2.alloc _) w2.heap.size _ x rfl (by simp) (by omega) (by simp; omega) ?_)
  intro A3 c3 w3 hown3 _ hg3 _
  have hown13 := (hown12.alloc (.cells #[.int .u8 (x.toNat : Int)] 5)).kept hg3 (by
    right
    intro e
    have h9 : blk A2 = some g := e.symm
    have := (hown2.blk_lt h9).1
    omega)
  have hb3 : Below w.heap.size w w3 := (hb2'.alloc (by omega) _).grown hg3 (by simp; omega) (fun k hk => by have := (hown2.blk_lt hk).1; omega)
  clear hown2 hown12 hown1
  go_wp2_with fail
  refine (narrow_any A3 _ c3 _ w3 hown3.rb (by omega)).mono ?_
  intro e w4 hp4
  have hodd := narrow_odd s.size (W2 ++ [x]) (by rw [List.length_append, HWL.out, HL.out]; rfl)
  unfold NarrowPost at hp4
  rw [hodd] at hp4
  obtain ⟨rfl, hb4⟩ := hp4
  clear hodd hown3
  have hown14 := hown13.below hb4 (Nat.le_refl _)
  have hcell := hown14.cellAt (2 * i + 1) 0 HQ.out
  have hfree := hown14.free (2 * i + 1)
  have hst := hown14.stored (2 * i + 1) x
  have hb4' := hb3.trans (hb4.mono hb3.size)
  have hb5' : Below w.heap.size w (w4.setCell ⟨g, 2 * i + 1, none⟩ (.int .u8 (x.toNat : Int))) := hb4'.setCell hg1 _
  go_wp2_with fail
  refine (narrow_any (some ⟨g, 0, none⟩) (2 * s.size) c1 (W2.set (2 * i + 1) x) _ hst.rb (by omega)).mono ?_
  clear hown13 hown14 hcell hfree
  intro e w6 hp6
  unfold NarrowPost at hp6
  rw [HN.out] at hp6
  obtain ⟨hp6, hb6⟩ := hp6
  have hb6' := hb5'.trans (hb6.mono hb5'.size)
  have hT6 := hT.below' hb6'
  clear hst
  have hm2 : ((2 * (i : Int) + 1) % 2 == 1) = true := by rw [beq_iff_eq]; omega
  have hm3 : (2 * (i : Int) + 1).tmod 2 = 1 := by rw [Int.tmod_eq_emod_of_nonneg (by omega)]; omega
  cases hl : (x == 0) with
  | true =>
    rw [hl] at hp6
    subst hp6
    have hx0 : x = 0 := by simpa using hl
    have hx1 : ((x.toNat : Int) == 0) = true := by rw [hx0]; rfl
    clear HN hl hx0
    go_wp2_with fail
    refine (WK.out _ hT6).mono ?_
    rintro e w7 ⟨rfl, hb7⟩
    go_wp2
    go_ret
    exact ⟨rfl, hb6'.trans (hb7.mono hb6'.size)⟩
  | false =>
    rw [hl] at hp6
    subst hp6
    have hx1 : ((x.toNat : Int) == 0) = false := by
      rw [beq_eq_false_iff_ne]
      intro e
      have : x = 0 := UInt8.toNat_inj.1 (by simpa using e)
      rw [this] at hl
      cases hl
    clear HN hl
    go_wp2_with fail
    refine (WK.out _ hT6).mono ?_
    rintro e w7 ⟨rfl, hb7⟩
    go_wp2
    go_ret
    exact ⟨rfl, hb6'.trans (hb7.mono hb6'.size)⟩
theorem odd_row (s : ByteArray) (at_ z : Int) (w : World) (hs : s.size ≤ 140737488351232) (ha : (Lit.int .i64 at_).wf = true) (hz : (Lit.int .u8 z).wf = true) (hT : Sizes w) :
    Calls Tryd.prog 11 #[.string s, .int .i64 at_, .int .u8 z] w fun e w' => e = .returned (.bool true) ∧ Below w.heap.size w w' := by
  obtain ⟨a1, a2⟩ := bounds_i64 ha
  obtain ⟨x, rfl⟩ : ∃ x : UInt8, z = (x.toNat : Int) := ⟨UInt8.ofNat z.toNat, (byte_of_wf hz).symm⟩
  have WK := Lib.hid (fun W (h : Sizes W) => works_any W h)
  have WD := Lib.hid (wideB_any s w (by omega))
  cases hall : s.data.toList.all letter with
  | true =>
    rw [wide_yes hall] at WD
    by_cases h0 : s.size = 0
    · have HWL := Lib.hid (widen_len s.data.toList)
      have HL := Lib.hid (data_len s)
      clear hall
      go_enter Tryd.func11, Tryd.ntmps11
      go_wp2_with fail
      refine WD.out.mono ?_
      rintro e w1 ⟨A1, n1, c1, rfl, hown1, hb1⟩
      obtain rfl : 0 = n1 := by have := hown1.len; rw [HWL.out, HL.out, h0] at this; exact this
      go_wp2_with fail
      refine (WK.out _ (hT.below' hb1)).mono ?_
      rintro e w7 ⟨rfl, hb7⟩
      go_wp2
      go_ret
      exact ⟨rfl, hb1.trans (hb7.mono hb1.size)⟩
    · by_cases hlen : s.size ≤ 4096
      · obtain ⟨k, hk, hkm⟩ := modZ_nat at_ (2 * s.size) (by omega)
        have hcast : ((2 * s.size : Nat) : Int) = 2 * (s.size : Int) := by omega
        rw [hcast] at hk
        have hL := data_len s
        have hgo : ∀ i, i < s.size → ∃ q, s.data.toList[i]? = some q := fun i hi => ⟨_, List.getElem?_eq_getElem (by omega)⟩
        unfold modZ at hk
        rcases Nat.mod_two_eq_zero_or_one k with h2 | h2
        · obtain ⟨i, rfl⟩ : ∃ i, k = 2 * i := ⟨k / 2, by omega⟩
          obtain ⟨q, hq⟩ := hgo i (by omega)
          by_cases ht : at_.tmod (2 * (s.size : Int)) < 0
          · rw [if_pos ht] at hk
            exact odd_lo_neg s at_ x q w hlen hall a1 a2 hT i (by omega) hq (by omega)
          · rw [if_neg ht] at hk
            exact odd_lo_pos s at_ x q w hlen hall a1 a2 hT i (by omega) hq (by omega)
        · obtain ⟨i, rfl⟩ : ∃ i, k = 2 * i + 1 := ⟨k / 2, by omega⟩
          obtain ⟨q, hq⟩ := hgo i (by omega)
          by_cases ht : at_.tmod (2 * (s.size : Int)) < 0
          · rw [if_pos ht] at hk
            exact odd_hi_neg s at_ x q w hlen hall a1 a2 hT i (by omega) hq (by omega)
          · rw [if_neg ht] at hk
            exact odd_hi_pos s at_ x q w hlen hall a1 a2 hT i (by omega) hq (by omega)
      · clear hall
        go_enter Tryd.func11, Tryd.ntmps11
        go_wp2_with fail
        refine WD.out.mono ?_
        rintro e w1 ⟨A1, n1, c1, rfl, hown1, hb1⟩
        go_wp2_with fail
        refine (WK.out _ (hT.below' hb1)).mono ?_
        rintro e w7 ⟨rfl, hb7⟩
        go_wp2
        go_ret
        exact ⟨rfl, hb1.trans (hb7.mono hb1.size)⟩
  | false =>
    rw [wide_no hall] at WD
    clear hall
    by_cases hlen : s.size ≤ 4096
    · go_enter Tryd.func11, Tryd.ntmps11
      go_wp2_with fail
      refine WD.out.mono ?_
      rintro e w1 ⟨A1, n1, c1, rfl, hown1, hb1⟩
      obtain rfl : 0 = n1 := hown1.len
      go_wp2_with fail
      refine (WK.out _ (hT.below' hb1)).mono ?_
      rintro e w7 ⟨rfl, hb7⟩
      go_wp2
      go_ret
      exact ⟨rfl, hb1.trans (hb7.mono hb1.size)⟩
    · go_enter Tryd.func11, Tryd.ntmps11
      go_wp2_with fail
      refine WD.out.mono ?_
      rintro e w1 ⟨A1, n1, c1, rfl, hown1, hb1⟩
      go_wp2_with fail
      refine (WK.out _ (hT.below' hb1)).mono ?_
      rintro e w7 ⟨rfl, hb7⟩
      go_wp2
      go_ret
      exact ⟨rfl, hb1.trans (hb7.mono hb1.size)⟩
end Go.Proofs.YtkoookknffmgjaaDoor
