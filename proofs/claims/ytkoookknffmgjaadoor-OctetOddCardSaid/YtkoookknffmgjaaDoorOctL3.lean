/-
  octet: the two orders are one another's turned.
-/
import Derived.Test.YtkoookknffmgjaaDoorOctL1
namespace Go.Proofs.YtkoookknffmgjaaDoor
open Go.RowKit Go
set_option linter.unusedVariables false
set_option maxRecDepth 100000
theorem cut_all (l : List UInt8) (k : Nat) (h : l.length = k) : cut l 0 k = l := by
  unfold cut
  rw [List.drop_zero, List.take_of_length_le (by omega)]
theorem inB_yes {n : Nat} {a k : Int} (h : inB n a k = true) : ∃ a' k' : Nat, a = a' ∧ k = k' ∧ a' + k' ≤ n := by
  unfold inB at h
  simp only [decide_eq_true_eq] at h
  exact ⟨a.toNat, k.toNat, by omega, by omega, by omega⟩
theorem turns_out (A : Option Addr) (n c : Nat) (at_ k : Int) (w : World) (hT : Sizes w) (hn : n ≤ 65536) (h1 : -9223372036854775808 ≤ k) (h2 : k ≤ 9223372036854775807) (hin : inB n at_ k = false) :
    Calls Tryd.prog 7 #[.slice A n c, .int .i64 at_, .int .i64 k] w fun e w' => e = .returned (.bool true) ∧ Below w.heap.size w w' := by
  have WK := Lib.hid (fun W (h : Sizes W) => works_any W h)
  have G1 := Lib.hid (get_not A n c at_ k w hT (by omega) h1 h2 (.inr hin))
  have G2 := Lib.hid (getBig_not A n c at_ k w hT (by omega) h1 h2 (.inr hin))
  have G3 := Lib.hid (fun W => cut_not A n c at_ k W (by omega) h1 h2 hin)
  clear hin
  go_enter Tryd.func7, Tryd.ntmps7
  go_wp2_with fail
  refine G1.out.mono ?_
  rintro e w' ⟨rfl, rfl⟩
  go_wp2_with fail
  refine G2.out.mono ?_
  rintro e w1 ⟨rfl, hb1⟩
  go_wp2_with fail
  refine (G3.out w1).mono ?_
  rintro e w' ⟨rfl, rfl⟩
  go_wp2_with fail
  refine (WK.out w1 (hT.below' hb1)).mono ?_
  rintro e w2 ⟨rfl, hb2⟩
  go_wp2
  go_ret
  exact ⟨rfl, hb1.trans (hb2.mono hb1.size)⟩
/-- The turning loop, as the walk comes to it. -/
theorem turns_in (A : Option Addr) (n c : Nat) (bs : List UInt8) (a k : Nat) (w : World) (hR : RB w A n bs) (hT : Sizes w) (hn : n ≤ 65536) (hnc : n ≤ c) (hc : c ≤ 9223372036854775807) (hin : a + k ≤ n) :
    Calls Tryd.prog 7 #[.slice A n c, .int .i64 a, .int .i64 k] w fun e w' => e = .returned (.bool true) ∧ Below w.heap.size w w' := by
  have WK := Lib.hid (fun W (h : Sizes W) => works_any W h)
  have G3 := Lib.hid (fun W (h : RB W A n bs) => cut_ok A n c bs a k W h hnc hc hin (by omega))
  have HCL := Lib.hid (cut_len bs a k (by rw [hR.1]; exact hin))
  by_cases hk : isSz k = true
  · have hk4 : k = 1 ∨ k = 2 ∨ k = 4 ∨ k = 8 := by simp [isSz] at hk; omega
    have hk8 : k ≤ 8 := by omega
    have hk1 : 1 ≤ k := by omega
    have HK4 := Lib.hid hk4
    have G1 := Lib.hid (get_ok A n c bs a k w hR hT (by omega) hk hin)
    have G2 := Lib.hid (getBig_ok A n c bs a k w hR hT (by omega) hk hin)
    have HK := Lib.hid hk
    generalize hC : cut bs a k = C at G1 G2 G3 HCL
    clear hC hk hk4
    go_enter Tryd.func7, Tryd.ntmps7
    go_wp2_with fail
    refine G1.out.mono ?_
    rintro e w' ⟨rfl, rfl⟩
    go_wp2_with fail
    refine G2.out.mono ?_
    rintro e w1 ⟨rfl, hb1⟩
    go_wp2_with fail
    refine (G3.out w1 (hR.below hb1)).mono ?_
    rintro e w2 ⟨A2, n2, c2, rfl, hown2, hb2⟩
    obtain rfl : k = n2 := HCL.out.symm.trans hown2.len
    have hb2' := hb1.trans (hb2.mono hb1.size)
    have hR2 := hown2.rb
    clear hown2 hb2 hb1
    go_wp2
    go_loopw [13, 14] (fun v x wr => ∃ (j : Nat) (A3 : Option Addr) (c3 : Nat), j ≤ k ∧ x = .int .i64 ((k : Int) - 1 - (j : Int)) ∧ v = .slice A3 j c3 ∧ OwnB wr w2.heap.size A3 j c3 (C.reverse.take j) ∧ Below w2.heap.size w2 wr) (fun _ x _ => (intOf x + 1).toNat)
    case atStart => exact ⟨0, none, 0, Nat.zero_le _, by simp, rfl, OwnB.nil _ _, Below.refl _ _⟩
    case round =>
      obtain ⟨j, A3, c3, hj, rfl, rfl, hown, hbl⟩ := hrel
      by_cases hlt : j < k
      · obtain ⟨b, off, q, rfl, hblt, hq, hcell⟩ := hR2.at_ (k := k - 1 - j) (by omega)
        have hc' := (hbl.cell (p := ⟨b, off + (k - 1 - j), none⟩) hblt).trans hcell
        have hidx : ((k : Int) - 1 - (j : Int)).toNat = k - 1 - j := by omega
        have HT : Hid (C.reverse.take (j + 1) = C.reverse.take j ++ [q]) := by
          have hl : j < C.reverse.length := by rw [List.length_reverse, HCL.out]; exact hlt
          show C.reverse.take (j + 1) = _
          rw [List.take_succ_eq_append_getElem hl]
          have : C.reverse[j]? = some q := by rw [List.getElem?_reverse (by rw [HCL.out]; exact hlt), HCL.out, hq]
          rw [List.getElem?_eq_getElem hl] at this
          injection this with this
          rw [this]
        have HML := Lib.hid hown.len
        have hsz := hbl.size
        clear hq hcell
        go_wp2_with (at_builtin; refine wpList_app _ _ rfl rfl rfl w2.heap.size A3 j c3 (C.reverse.take j) rfl (hown.alloc _) (wr.heap.size + 1) (some ⟨wr.heap.size, 0, none⟩) 1 [q] rfl (bs_new _ _ _ _ _ rfl) (by rw [HML.out]; simp; omega) (by simp; omega) ?_)
        intro A4 c4 w4 hown4 hg4
        go_wp2
        go_roundw
        case rel => exact ⟨j + 1, A4, c4, by omega, by go_num, rfl, by rw [HT.out]; exact hown4, (hbl.alloc hsz _).grown hg4 (by simp; omega) (fun g hg => (hown.blk_lt hg).1)⟩
        case measure => simp [intOf]; omega
      · obtain rfl : j = k := by omega
        have hrev : C.reverse.take j = C.reverse := List.take_of_length_le (by rw [List.length_reverse, HCL.out]; omega)
        rw [hrev] at hown
        have hblw := hb2'.trans (hbl.mono hb2'.size)
        have hTr := hT.below' hblw
        have e1 : cut C.reverse 0 j = C.reverse := cut_all _ _ (by rw [List.length_reverse, HCL.out])
        have H1 := getBig_ok A3 j c3 C.reverse 0 j wr hown.rb hTr (by omega) HK.out (by omega)
        have H2 := fun W (h : RB W A3 j C.reverse) (h' : Sizes W) => get_ok A3 j c3 C.reverse 0 j W h h' (by omega) HK.out (by omega)
        rw [e1, List.reverse_reverse] at H1
        rw [e1] at H2
        have HH1 := Lib.hid H1
        have HH2 := Lib.hid H2
        clear H1 H2 e1 hrev
        generalize leN C = p at *
        generalize leN C.reverse = p' at *
        have q1 : (((p : Nat) : Int) == ((p : Nat) : Int)) = true := by simp
        have q2 : (((p' : Nat) : Int) == ((p' : Nat) : Int)) = true := by simp
        have hR3 := hown.rb
        clear hown
        go_wp2_with fail
        refine HH1.out.mono ?_
        rintro e w5 ⟨rfl, hb5⟩
        have hb5' := hblw.trans (hb5.mono hblw.size)
        go_wp2_with fail
        refine (HH2.out w5 (hR3.below hb5) (hT.below' hb5')).mono ?_
        rintro e w' ⟨rfl, rfl⟩
        rcases HK4.out with rfl | rfl | rfl | rfl
        all_goals
          go_wp2_with fail
          refine (WK.out w5 (hT.below' hb5')).mono ?_
          rintro e w6 ⟨rfl, hb6⟩
          go_wp2
          go_ret
          exact ⟨rfl, hb5'.trans (hb6.mono hb5'.size)⟩
  · have hkf : isSz k = false := by simpa using hk
    have G1 := Lib.hid (get_not A n c a k w hT (by omega) (by omega) (by omega) (.inl hkf))
    have G2 := Lib.hid (getBig_not A n c a k w hT (by omega) (by omega) (by omega) (.inl hkf))
    have HK := Lib.hid hkf
    generalize hC : cut bs a k = C at G3 HCL
    clear hC hk hkf
    go_enter Tryd.func7, Tryd.ntmps7
    go_wp2_with fail
    refine G1.out.mono ?_
    rintro e w' ⟨rfl, rfl⟩
    go_wp2_with fail
    refine G2.out.mono ?_
    rintro e w1 ⟨rfl, hb1⟩
    go_wp2_with fail
    refine (G3.out w1 (hR.below hb1)).mono ?_
    rintro e w2 ⟨A2, n2, c2, rfl, hown2, hb2⟩
    obtain rfl : k = n2 := HCL.out.symm.trans hown2.len
    have hb2' := hb1.trans (hb2.mono hb1.size)
    have hR2 := hown2.rb
    clear hown2 hb2 hb1
    go_wp2
    go_loopw [13, 14] (fun v x wr => ∃ (j : Nat) (A3 : Option Addr) (c3 : Nat), j ≤ k ∧ x = .int .i64 ((k : Int) - 1 - (j : Int)) ∧ v = .slice A3 j c3 ∧ OwnB wr w2.heap.size A3 j c3 (C.reverse.take j) ∧ Below w2.heap.size w2 wr) (fun _ x _ => (intOf x + 1).toNat)
    case atStart => exact ⟨0, none, 0, Nat.zero_le _, by simp, rfl, OwnB.nil _ _, Below.refl _ _⟩
    case round =>
      obtain ⟨j, A3, c3, hj, rfl, rfl, hown, hbl⟩ := hrel
      by_cases hlt : j < k
      · obtain ⟨b, off, q, rfl, hblt, hq, hcell⟩ := hR2.at_ (k := k - 1 - j) (by omega)
        have hc' := (hbl.cell (p := ⟨b, off + (k - 1 - j), none⟩) hblt).trans hcell
        have hidx : ((k : Int) - 1 - (j : Int)).toNat = k - 1 - j := by omega
        have HT : Hid (C.reverse.take (j + 1) = C.reverse.take j ++ [q]) := by
          have hl : j < C.reverse.length := by rw [List.length_reverse, HCL.out]; exact hlt
          show C.reverse.take (j + 1) = _
          rw [List.take_succ_eq_append_getElem hl]
          have : C.reverse[j]? = some q := by rw [List.getElem?_reverse (by rw [HCL.out]; exact hlt), HCL.out, hq]
          rw [List.getElem?_eq_getElem hl] at this
          injection this with this
          rw [this]
        have HML := Lib.hid hown.len
        have hsz := hbl.size
        clear hq hcell
        go_wp2_with (at_builtin; refine wpList_app _ _ rfl rfl rfl w2.heap.size A3 j c3 (C.reverse.take j) rfl (hown.alloc _) (wr.heap.size + 1) (some ⟨wr.heap.size, 0, none⟩) 1 [q] rfl (bs_new _ _ _ _ _ rfl) (by rw [HML.out]; simp; omega) (by simp; omega) ?_)
        intro A4 c4 w4 hown4 hg4
        go_wp2
        go_roundw
        case rel => exact ⟨j + 1, A4, c4, by omega, by go_num, rfl, by rw [HT.out]; exact hown4, (hbl.alloc hsz _).grown hg4 (by simp; omega) (fun g hg => (hown.blk_lt hg).1)⟩
        case measure => simp [intOf]; omega
      · obtain rfl : j = k := by omega
        have hrev : C.reverse.take j = C.reverse := List.take_of_length_le (by rw [List.length_reverse, HCL.out]; omega)
        rw [hrev] at hown
        have hblw := hb2'.trans (hbl.mono hb2'.size)
        have hTr := hT.below' hblw
        have HH1 := Lib.hid (getBig_not A3 j c3 0 j wr hTr (by omega) (by omega) (by omega) (.inl HK.out))
        have HH2 := Lib.hid (fun W (h' : Sizes W) => get_not A3 j c3 0 j W h' (by omega) (by omega) (by omega) (.inl HK.out))
        have hR3 := hown.rb
        clear hown
        go_wp2_with fail
        refine HH1.out.mono ?_
        rintro e w5 ⟨rfl, hb5⟩
        have hb5' := hblw.trans (hb5.mono hblw.size)
        go_wp2_with fail
        refine (HH2.out w5 (hT.below' hb5')).mono ?_
        rintro e w' ⟨rfl, rfl⟩
        have hnk := HK.out
        have k1 : (((j : Nat) : Int) == 1) = false := by simp [isSz] at hnk; simp; omega
        have k2 : (((j : Nat) : Int) == 2) = false := by simp [isSz] at hnk; simp; omega
        have k3 : (((j : Nat) : Int) == 4) = false := by simp [isSz] at hnk; simp; omega
        have k4 : (((j : Nat) : Int) == 8) = false := by simp [isSz] at hnk; simp; omega
        clear hnk
        go_wp2_with fail
        refine (WK.out w5 (hT.below' hb5')).mono ?_
        rintro e w6 ⟨rfl, hb6⟩
        go_wp2
        go_ret
        exact ⟨rfl, hb5'.trans (hb6.mono hb5'.size)⟩
theorem turns_row (A : Option Addr) (n c : Nat) (bs : List UInt8) (at_ k : Int) (w : World) (h0 : IsBs w A n c bs) (w1 : (Lit.int .i64 at_).wf = true) (w2 : (Lit.int .i64 k).wf = true) (hT : Sizes w) :
    Calls Tryd.prog 7 #[.slice A n c, .int .i64 at_, .int .i64 k] w fun e w' => e = .returned (.bool true) ∧ Below w.heap.size w w' := by
  have hb := bounds_i64 w2
  have hlim := h0.lim
  by_cases hlen : n ≤ 65536
  · cases hin : inB n at_ k
    · exact turns_out A n c at_ k w hT hlen hb.1 hb.2 hin
    · obtain ⟨a', k', rfl, rfl, h⟩ := inB_yes hin
      exact turns_in A n c bs a' k' w h0.rb hT hlen h0.le (by have := h0.max; unfold maxLen at this; omega) h
  · have WK := Lib.hid (fun W (h : Sizes W) => works_any W h)
    go_enter Tryd.func7, Tryd.ntmps7
    go_wp2_with fail
    refine (WK.out w hT).mono ?_
    rintro e w' ⟨rfl, hb1⟩
    go_wp2
    go_ret
    exact ⟨rfl, hb1⟩
end Go.Proofs.YtkoookknffmgjaaDoor
