/-
  octet: pieces, one behind the other.
-/
import Derived.Test.YtkoookknffmgjaaDoorOctL1
namespace Go.Proofs.YtkoookknffmgjaaDoor
open Go.RowKit Go
set_option linter.unusedVariables false
set_option maxRecDepth 100000
theorem take_cut (bs : List UInt8) (m k : Nat) : bs.take m ++ cut bs m k = bs.take (m + k) := by
  unfold cut
  rw [List.take_add]
theorem inB_no {n : Nat} {a k : Int} (h : ¬ (0 ≤ a ∧ 0 ≤ k ∧ a ≤ n ∧ k ≤ n - a)) : inB n a k = false := by
  unfold inB
  simpa using h
set_option maxHeartbeats 1000000 in
theorem pieces_row (A0 : Option Addr) (n0 c0 : Nat) (b0 : List UInt8) (A1 : Option Addr) (n1 c1 : Nat) (b1 : List UInt8) (w : World) (h0 : IsBs w A0 n0 c0 b0) (h1 : IsBs w A1 n1 c1 b1) (hT : Sizes w) :
    Calls Tryd.prog 9 #[.slice A0 n0 c0, .slice A1 n1 c1] w fun e w' => e = .returned (.bool true) ∧ Below w.heap.size w w' := by
  have WK := Lib.hid (fun W (h : Sizes W) => works_any W h)
  have hl0 := h0.lim
  have hl1 := h1.lim
  have hR0 := h0.rb
  have hR1 := h1.rb
  have hc0 : c0 ≤ 9223372036854775807 := by have := h0.max; unfold maxLen at this; omega
  have hnc := h0.le
  by_cases l1 : n0 ≤ 4096
  · by_cases l2 : n1 ≤ 100
    · have HL := Lib.hid hR0.1
      clear h0 h1
      go_enter Tryd.func9, Tryd.ntmps9
      go_wp2
      go_loopw [5, 6] (fun v x wr => ∃ (i m : Nat) (A : Option Addr) (c : Nat), i ≤ n1 ∧ m ≤ n0 ∧ x = .int .i64 i ∧ v = .slice A m c ∧ OwnB wr w.heap.size A m c (b0.take m) ∧ Below w.heap.size w wr) (fun _ x _ => n1 - (intOf x).toNat)
      case atStart => exact ⟨0, 0, none, 0, Nat.zero_le _, Nat.zero_le _, rfl, rfl, OwnB.nil _ _, Below.refl _ _⟩
      case round =>
        obtain ⟨i, m, A, c, hi, hm, rfl, rfl, hown, hbl⟩ := hrel
        have hsz := hbl.size
        have hRr := hR0.below hbl
        by_cases hlt : i < n1
        · obtain ⟨b, off, q, rfl, hblt, hq, hcell⟩ := hR1.at_ hlt
          have hc' := (hbl.cell (p := ⟨b, off + i, none⟩) hblt).trans hcell
          have hqb : (q.toNat : Int) ≤ 255 := by have := q.toNat_lt; omega
          have G := Lib.hid (fun k (h : m + k ≤ n0) => cut_ok A0 n0 c0 b0 m k wr hRr hnc hc0 h (by omega))
          clear hq hcell
          by_cases hmin : q.toNat ≤ n0 - m
          · have hle : (q.toNat : Int) ≤ (n0 : Int) - (m : Int) := by omega
            go_wp2_with fail
            refine (G.out q.toNat (by omega)).mono ?_
            rintro e w2 ⟨A2, n2, c2, rfl, hown2, hb2⟩
            obtain rfl : q.toNat = n2 := by have := hown2.len; rw [cut_len _ _ _ (by rw [HL.out]; omega)] at this; exact this
            have hown' := hown.below hb2 (Nat.le_refl _)
            have hb2' := hbl.trans (hb2.mono hsz)
            have hsz2 := hb2'.size
            have hne : (((q.toNat : Nat) : Int) != ((q.toNat : Nat) : Int)) = false := by simp
            have hR2 := hown2.rb
            clear hown2 hle
            go_wp2_with (at_builtin; refine wpList_apn (.tmp 56) (.tmp 57) rfl rfl rfl w.heap.size A m c (b0.take m) rfl hown' A2 q.toNat c2 _ rfl hR2 (by omega) hsz2 ?_)
            intro A3 c3 w3 hown3 hg3
            go_wp2
            go_roundw
            case rel => exact ⟨i + 1, m + q.toNat, A3, c3, by omega, by omega, by go_num, rfl, by rw [← take_cut]; exact hown3, hb2'.grown hg3 hsz2 (fun g hg => (hown'.blk_lt hg).1)⟩
            case measure => simp [intOf]; omega
          · have hle : (n0 : Int) - (m : Int) < (q.toNat : Int) := by omega
            have G2 : Hid (Calls Tryd.prog 18 #[.slice A0 n0 c0, .int .i64 (m : Int), .int .i64 ((n0 : Int) - (m : Int))] wr (FreshCut wr (cut b0 m (n0 - m)))) := by
              have := G.out (n0 - m) (by omega)
              rw [show (((n0 - m : Nat)) : Int) = (n0 : Int) - (m : Int) by omega] at this
              exact this
            go_wp2_with fail
            refine G2.out.mono ?_
            rintro e w2 ⟨A2, n2, c2, rfl, hown2, hb2⟩
            have hn2 : n2 = n0 - m := by have := hown2.len; rw [cut_len _ _ _ (by rw [HL.out]; omega)] at this; exact this.symm
            have HN2 := Lib.hid hn2
            have hne : ((n2 : Int) != (n0 : Int) - (m : Int)) = false := by simp; omega
            clear hn2
            have hown' := hown.below hb2 (Nat.le_refl _)
            have hb2' := hbl.trans (hb2.mono hsz)
            have hsz2 := hb2'.size
            have hR2 := hown2.rb
            clear hown2 hle
            go_wp2_with (at_builtin; refine wpList_apn (.tmp 56) (.tmp 57) rfl rfl rfl w.heap.size A m c (b0.take m) rfl hown' A2 n2 c2 _ rfl hR2 (by have := HN2.out; omega) hsz2 ?_)
            intro A3 c3 w3 hown3 hg3
            go_wp2
            go_roundw
            case rel => exact ⟨i + 1, m + n2, A3, c3, by omega, by have := HN2.out; omega, by go_num, rfl, by rw [HN2.out, ← take_cut]; rw [HN2.out] at hown3; exact hown3, hb2'.grown hg3 hsz2 (fun g hg => (hown'.blk_lt hg).1)⟩
            case measure => simp [intOf]; omega
        · obtain rfl : i = n1 := by omega
          have G2 : Hid (Calls Tryd.prog 18 #[.slice A0 n0 c0, .int .i64 (m : Int), .int .i64 ((n0 : Int) - (m : Int))] wr (FreshCut wr (cut b0 m (n0 - m)))) := by
            have := cut_ok A0 n0 c0 b0 m (n0 - m) wr hRr hnc hc0 (by omega) (by omega)
            rw [show (((n0 - m : Nat)) : Int) = (n0 : Int) - (m : Int) by omega] at this
            exact this
          have G3 : Hid (∀ W, Calls Tryd.prog 18 #[.slice A0 n0 c0, .int .i64 (m : Int), .int .i64 ((n0 : Int) - (m : Int) + 1)] W fun e w' => e = .returned (.tuple #[.slice none 0 0, .bool false]) ∧ W = w') :=
            fun W => cut_not A0 n0 c0 m _ W (by omega) (by omega) (by omega) (inB_no (by omega))
          go_wp2_with fail
          refine G2.out.mono ?_
          rintro e w2 ⟨A2, n2, c2, rfl, hown2, hb2⟩
          have hn2 : n2 = n0 - m := by have := hown2.len; rw [cut_len _ _ _ (by rw [HL.out]; omega)] at this; exact this.symm
          have HN2 := Lib.hid hn2
          clear hn2
          have hown' := hown.below hb2 (Nat.le_refl _)
          have hb2' := hbl.trans (hb2.mono hsz)
          have hsz2 := hb2'.size
          have hR2 := hown2.rb
          clear hown2
          go_wp2_with fail
          refine (G3.out w2).mono ?_
          rintro e w' ⟨rfl, rfl⟩
          go_wp2_with (at_builtin; refine wpList_apn _ _ rfl rfl rfl w.heap.size A m c (b0.take m) rfl hown' A2 n2 c2 _ rfl hR2 (by have := HN2.out; omega) hsz2 ?_)
          intro A3 c3 w3 hown3 hg3
          have hb3 := hb2'.grown hg3 hsz2 (fun g hg => (hown'.blk_lt hg).1)
          have hall : b0.take m ++ cut b0 m (n0 - m) = b0 := by
            rw [take_cut, List.take_of_length_le (by rw [HL.out]; omega)]
          have hown3' : OwnB w3 w.heap.size A3 (m + n2) c3 b0 := by rw [hall] at hown3; exact hown3
          have hq : (b0 == b0) = true := by simp
          clear hown3 hall
          go_wp2_with fail
          refine (eq_any A3 A0 _ n0 c3 c0 b0 b0 w3 hown3'.rb (hR0.below hb3)).mono ?_
          rintro e w' ⟨rfl, rfl⟩
          go_wp2_with fail
          refine (WK.out w3 (hT.below' hb3)).mono ?_
          rintro e w6 ⟨rfl, hb6⟩
          go_wp2
          go_ret
          exact ⟨rfl, hb3.trans (hb6.mono hb3.size)⟩
    · go_enter Tryd.func9, Tryd.ntmps9
      go_wp2_with fail
      refine (WK.out w hT).mono ?_
      rintro e w' ⟨rfl, hb1⟩
      go_wp2
      go_ret
      exact ⟨rfl, hb1⟩
  · go_enter Tryd.func9, Tryd.ntmps9
    go_wp2_with fail
    refine (WK.out w hT).mono ?_
    rintro e w' ⟨rfl, hb1⟩
    go_wp2
    go_ret
    exact ⟨rfl, hb1⟩
end Go.Proofs.YtkoookknffmgjaaDoor
