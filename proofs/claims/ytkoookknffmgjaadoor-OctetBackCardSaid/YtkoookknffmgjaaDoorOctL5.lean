/-
  octet: what was put is got; what is wide is made narrow.
-/
import Derived.Test.YtkoookknffmgjaaDoorOctL1
import Derived.Deep.QuietTactic
import Derived.BigQuiet
import Derived.RegionTactic
import Derived.BigRegion
import Derived.ChangeAlike
namespace Go.Proofs.YtkoookknffmgjaaDoor
open Go.RowKit Go
set_option linter.unusedVariables false
set_option maxRecDepth 100000
theorem leN_leB (x k : Nat) : leN (leB x k) = x % 256 ^ k := by
  induction k with
  | zero => simp [leB, leN, Nat.mod_one]
  | succ k ih =>
    have e : leB x (k + 1) = leB x k ++ [nb x k] := by unfold leB; rw [List.range_succ, List.map_append]; rfl
    rw [e, leN_snoc, ih, leB_len]
    have : (nb x k).toNat = x / 256 ^ k % 256 := by unfold nb; rw [UInt8.toNat_ofNat']
    rw [this, Nat.pow_succ, Nat.mod_mul, Nat.mul_comm]
theorem cut_behind (a b : List UInt8) (n k : Nat) (ha : a.length = n) (hb : b.length = k) : cut (a ++ b) n k = b := by
  unfold cut
  rw [List.drop_append_of_le_length (by omega), List.drop_of_length_le (by omega), List.nil_append, List.take_of_length_le (by omega)]
theorem got_le (b : List UInt8) (x n k : Nat) (hb : b.length = n) : leN (cut (b ++ leB x k) n k) = x % 256 ^ k := by
  rw [cut_behind _ _ _ _ hb (leB_len x k), leN_leB]
theorem got_be (b : List UInt8) (x n k : Nat) (hb : b.length = n) : leN (cut (b ++ (leB x k).reverse) n k).reverse = x % 256 ^ k := by
  rw [cut_behind _ _ _ _ hb (by rw [List.length_reverse, leB_len]), List.reverse_reverse, leN_leB]
set_option maxHeartbeats 4000000 in
theorem back_row (A0 : Option Addr) (n0 c0 : Nat) (b0 : List UInt8) (x0 : Int) (s : ByteArray) (w : World) (h0 : IsBs w A0 n0 c0 b0) (w1 : (Lit.int .u64 x0).wf = true) (hs : s.size ≤ maxLen) (hT : Sizes w) :
    Calls Tryd.prog 6 #[.slice A0 n0 c0, .int .u64 x0, .string s] w fun e w' => e = .returned (.bool true) ∧ Below w.heap.size w w' := by
  have hb := bounds_u64 w1
  obtain ⟨x, rfl⟩ : ∃ x : Nat, x0 = x := ⟨x0.toNat, by omega⟩
  have hx : x < 18446744073709551616 := by omega
  clear hb w1
  have WK := Lib.hid (fun W (h : Sizes W) => works_any W h)
  unfold maxLen at hs
  have hl0 := h0.lim
  have hR := h0.rb
  have HL := Lib.hid hR.1
  by_cases l1 : n0 ≤ 4096
  · by_cases l2 : s.size ≤ 4096
    · go_enter Tryd.func6, Tryd.ntmps6
      go_wp2
      obtain ⟨wS, hwS⟩ : ∃ wS, wS = w.alloc (.cells #[.int .i64 1, .int .i64 2, .int .i64 4, .int .i64 8] 3) := ⟨_, rfl⟩
      have hbS : Below w.heap.size w wS := by rw [hwS]; exact (Below.refl _ _).alloc (Nat.le_refl _) _
      have s0 : wS.cell? ⟨w.heap.size, 0, none⟩ = some (.int .i64 1) := by rw [hwS]; simp
      have s1 : wS.cell? ⟨w.heap.size, 1, none⟩ = some (.int .i64 2) := by rw [hwS]; simp
      have s2 : wS.cell? ⟨w.heap.size, 2, none⟩ = some (.int .i64 4) := by rw [hwS]; simp
      have s3 : wS.cell? ⟨w.heap.size, 3, none⟩ = some (.int .i64 8) := by rw [hwS]; simp
      have sz : w.heap.size < wS.heap.size := by rw [hwS]; simp
      rw [← hwS]
      clear hwS
      go_loopw [8] (fun i wr => ∃ k : Nat, k ≤ 4 ∧ i = .int .i64 k ∧ Below wS.heap.size wS wr) (fun i _ => 4 - (intOf i).toNat)
      case atStart => exact ⟨0, Nat.zero_le _, rfl, Below.refl _ _⟩
      case round =>
        obtain ⟨k, hk, rfl, hbl⟩ := hrel
        have hbw := hbS.trans (hbl.mono hbS.size)
        have hRr := hR.below hbw
        have hTr := hT.below' hbw
        have z0 := (hbl.cell (p := ⟨w.heap.size, 0, none⟩) sz).trans s0
        have z1 := (hbl.cell (p := ⟨w.heap.size, 1, none⟩) sz).trans s1
        have z2 := (hbl.cell (p := ⟨w.heap.size, 2, none⟩) sz).trans s2
        have z3 := (hbl.cell (p := ⟨w.heap.size, 3, none⟩) sz).trans s3
        have hk5 : k = 0 ∨ k = 1 ∨ k = 2 ∨ k = 3 ∨ k = 4 := by omega
        clear hk
        rcases hk5 with rfl | rfl | rfl | rfl | rfl
        · -- a number of 1 bytes
          have P1 := Lib.hid (put_ok A0 n0 c0 b0 x 1 wr hRr hTr (by omega) rfl hx)
          have P2 := Lib.hid (fun W (h : RB W A0 n0 b0) (h' : Sizes W) => putBig_ok A0 n0 c0 b0 x 1 W h h' (by omega) rfl hx)
          go_wp2_with fail
          refine P1.out.mono ?_
          rintro e w1 ⟨A1, n1, c1, rfl, hown1, hb1⟩
          have hn1 : n1 = n0 + 1 := by have := hown1.len; rw [List.length_append, leB_len, HL.out] at this; exact this.symm
          have hbl1 := hbl.trans (hb1.mono hbl.size)
          have hbw1 := hbw.trans (hb1.mono hbw.size)
          go_wp2_with fail
          refine (P2.out w1 (hR.below hbw1) (hT.below' hbw1)).mono ?_
          rintro e w2 ⟨A2, n2, c2, rfl, hown2, hb2⟩
          have hn2 : n2 = n0 + 1 := by have := hown2.len; rw [List.length_append, List.length_reverse, leB_len, HL.out] at this; exact this.symm
          have hbl2 := hbl1.trans (hb2.mono hbl1.size)
          have hbw2 := hbw1.trans (hb2.mono hbw1.size)
          subst hn1
          subst hn2
          have hTa := hT.below' hbw2
          have hRa := hown1.rb.below hb2
          have G1 := get_ok A1 (n0 + 1) c1 _ n0 1 w2 hRa hTa (by omega) rfl (by omega)
          have G2 := fun W (h : RB W A2 (n0 + 1) (b0 ++ (leB x 1).reverse)) (h' : Sizes W) => getBig_ok A2 (n0 + 1) c2 _ n0 1 W h h' (by omega) rfl (by omega)
          rw [got_le b0 x n0 1 HL.out, show x % 256 ^ 1 = x % 256 from rfl, show ((x % 256 : Nat) : Int) = (x : Int) % 256 by omega] at G1
          rw [got_be b0 x n0 1 HL.out, show x % 256 ^ 1 = x % 256 from rfl, show ((x % 256 : Nat) : Int) = (x : Int) % 256 by omega] at G2
          have H1 := Lib.hid G1
          have H2 := Lib.hid G2
          clear G1 G2
          go_wp2_with fail
          refine H1.out.mono ?_
          rintro e w' ⟨rfl, rfl⟩
          go_wp2_with fail
          refine (H2.out w2 hown2.rb hTa).mono ?_
          rintro e w3 ⟨rfl, hb3⟩
          have hbl3 := hbl2.trans (hb3.mono hbl2.size)
          have hbw3 := hbw2.trans (hb3.mono hbw2.size)
          have hRc := hRa.below hb3
          have hRd := hown2.rb.below hb3
          have hRb := hR.below hbw3
          have hq : ((x : Int) % 256 != (x : Int) % 256) = false := by simp
          have hq2 : (((n0 : Int) + 1) != (n0 : Int) + 1) = false := by simp
          clear hown1 hown2 H1 H2 P1 P2
          go_wp2
          go_loopw [17] (fun y wl => ∃ k : Nat, k ≤ n0 ∧ y = .int .i64 k ∧ Below w3.heap.size w3 wl) (fun y _ => n0 - (intOf y).toNat)
          case atStart => exact ⟨0, Nat.zero_le _, rfl, Below.refl _ _⟩
          case round =>
            obtain ⟨k, hk, rfl, hl⟩ := hrel
            by_cases hlt : k < n0
            · obtain ⟨s0, o0, q0, rfl, t0, g0, e0⟩ := hRb.at_ hlt
              obtain ⟨s1, o1, q1, rfl, t1, g1, e1⟩ := hRc.at_ (k := k) (by omega)
              obtain ⟨s2, o2, q2, rfl, t2, g2, e2⟩ := hRd.at_ (k := k) (by omega)
              rw [List.getElem?_append_left (by rw [HL.out]; exact hlt), g0] at g1
              rw [List.getElem?_append_left (by rw [HL.out]; exact hlt), g0] at g2
              injection g1 with g1
              injection g2 with g2
              subst g1
              subst g2
              have e0' := (hl.cell (p := ⟨s0, o0 + k, none⟩) t0).trans e0
              have e1' := (hl.cell (p := ⟨s1, o1 + k, none⟩) t1).trans e1
              have e2' := (hl.cell (p := ⟨s2, o2 + k, none⟩) t2).trans e2
              have hqq : (((q0.toNat : Nat) : Int) != ((q0.toNat : Nat) : Int)) = false := by simp
              have i0 : (k : Int) < (n0 : Int) := by omega
              have i1 : (k : Int) < ((n0 + 1 : Nat) : Int) := by omega
              have i2 : (0 : Int) ≤ (k : Int) := by omega
              clear g0 e0 e1 e2
              go_wp2
              go_quiet (fail)
              go_wp2
              go_roundw
              case rel => exact ⟨k + 1, by omega, by go_num, below_drewN hl _⟩
              case measure => simp [intOf]; omega
            · obtain rfl : k = n0 := by omega
              go_wp2
              go_loopw [18] (fun y wm => ∃ t : Nat, t ≤ 1 ∧ y = .int .i64 t ∧ Below w3.heap.size w3 wm) (fun y _ => 1 - (intOf y).toNat)
              case atStart => exact ⟨0, Nat.zero_le _, rfl, hl⟩
              case round =>
                obtain ⟨t, ht, rfl, hm⟩ := hrel
                by_cases hlt2 : t < 1
                · obtain ⟨s1, o1, q1, rfl, t1, g1, e1⟩ := hRc.at_ (k := k + t) (by omega)
                  obtain ⟨s2, o2, q2, rfl, t2, g2, e2⟩ := hRd.at_ (k := k - t) (by omega)
                  rw [List.getElem?_append_right (by rw [HL.out]; omega), HL.out, show k + t - k = t by omega, leB_get _ _ _ hlt2] at g1
                  rw [List.getElem?_append_right (by rw [HL.out]; omega), HL.out, List.getElem?_reverse (by rw [leB_len]; omega), leB_len, show 1 - 1 - (k - t - k) = t by omega, leB_get _ _ _ hlt2] at g2
                  injection g1 with g1
                  injection g2 with g2
                  subst g1
                  subst g2
                  have e1' := (hm.cell (p := ⟨s1, o1 + (k + t), none⟩) t1).trans e1
                  have e2' := (hm.cell (p := ⟨s2, o2 + (k - t), none⟩) t2).trans e2
                  have hqq : ((((nb x t).toNat : Nat) : Int) != (((nb x t).toNat : Nat) : Int)) = false := by simp
                  clear e1 e2
                  go_wp2
                  go_region
                  go_wp2
                  go_roundw
                  case rel => exact ⟨t + 1, by omega, by go_num, hm.drew⟩
                  case measure => simp [intOf]; omega
                · obtain rfl : t = 1 := by omega
                  go_wp2
                  go_roundw
                  case rel => exact ⟨1, by omega, by go_num, hbl3.trans (hm.mono hbl3.size)⟩
                  case measure => simp [intOf]
        · -- a number of 2 bytes
          have P1 := Lib.hid (put_ok A0 n0 c0 b0 x 2 wr hRr hTr (by omega) rfl hx)
          have P2 := Lib.hid (fun W (h : RB W A0 n0 b0) (h' : Sizes W) => putBig_ok A0 n0 c0 b0 x 2 W h h' (by omega) rfl hx)
          go_wp2_with fail
          refine P1.out.mono ?_
          rintro e w1 ⟨A1, n1, c1, rfl, hown1, hb1⟩
          have hn1 : n1 = n0 + 2 := by have := hown1.len; rw [List.length_append, leB_len, HL.out] at this; exact this.symm
          have hbl1 := hbl.trans (hb1.mono hbl.size)
          have hbw1 := hbw.trans (hb1.mono hbw.size)
          go_wp2_with fail
          refine (P2.out w1 (hR.below hbw1) (hT.below' hbw1)).mono ?_
          rintro e w2 ⟨A2, n2, c2, rfl, hown2, hb2⟩
          have hn2 : n2 = n0 + 2 := by have := hown2.len; rw [List.length_append, List.length_reverse, leB_len, HL.out] at this; exact this.symm
          have hbl2 := hbl1.trans (hb2.mono hbl1.size)
          have hbw2 := hbw1.trans (hb2.mono hbw1.size)
          subst hn1
          subst hn2
          have hTa := hT.below' hbw2
          have hRa := hown1.rb.below hb2
          have G1 := get_ok A1 (n0 + 2) c1 _ n0 2 w2 hRa hTa (by omega) rfl (by omega)
          have G2 := fun W (h : RB W A2 (n0 + 2) (b0 ++ (leB x 2).reverse)) (h' : Sizes W) => getBig_ok A2 (n0 + 2) c2 _ n0 2 W h h' (by omega) rfl (by omega)
          rw [got_le b0 x n0 2 HL.out, show x % 256 ^ 2 = x % 65536 from rfl, show ((x % 65536 : Nat) : Int) = (x : Int) % 65536 by omega] at G1
          rw [got_be b0 x n0 2 HL.out, show x % 256 ^ 2 = x % 65536 from rfl, show ((x % 65536 : Nat) : Int) = (x : Int) % 65536 by omega] at G2
          have H1 := Lib.hid G1
          have H2 := Lib.hid G2
          clear G1 G2
          go_wp2_with fail
          refine H1.out.mono ?_
          rintro e w' ⟨rfl, rfl⟩
          go_wp2_with fail
          refine (H2.out w2 hown2.rb hTa).mono ?_
          rintro e w3 ⟨rfl, hb3⟩
          have hbl3 := hbl2.trans (hb3.mono hbl2.size)
          have hbw3 := hbw2.trans (hb3.mono hbw2.size)
          have hRc := hRa.below hb3
          have hRd := hown2.rb.below hb3
          have hRb := hR.below hbw3
          have hq : ((x : Int) % 65536 != (x : Int) % 65536) = false := by simp
          have hq2 : (((n0 : Int) + 2) != (n0 : Int) + 2) = false := by simp
          clear hown1 hown2 H1 H2 P1 P2
          go_wp2
          go_loopw [17] (fun y wl => ∃ k : Nat, k ≤ n0 ∧ y = .int .i64 k ∧ Below w3.heap.size w3 wl) (fun y _ => n0 - (intOf y).toNat)
          case atStart => exact ⟨0, Nat.zero_le _, rfl, Below.refl _ _⟩
          case round =>
            obtain ⟨k, hk, rfl, hl⟩ := hrel
            by_cases hlt : k < n0
            · obtain ⟨s0, o0, q0, rfl, t0, g0, e0⟩ := hRb.at_ hlt
              obtain ⟨s1, o1, q1, rfl, t1, g1, e1⟩ := hRc.at_ (k := k) (by omega)
              obtain ⟨s2, o2, q2, rfl, t2, g2, e2⟩ := hRd.at_ (k := k) (by omega)
              rw [List.getElem?_append_left (by rw [HL.out]; exact hlt), g0] at g1
              rw [List.getElem?_append_left (by rw [HL.out]; exact hlt), g0] at g2
              injection g1 with g1
              injection g2 with g2
              subst g1
              subst g2
              have e0' := (hl.cell (p := ⟨s0, o0 + k, none⟩) t0).trans e0
              have e1' := (hl.cell (p := ⟨s1, o1 + k, none⟩) t1).trans e1
              have e2' := (hl.cell (p := ⟨s2, o2 + k, none⟩) t2).trans e2
              have hqq : (((q0.toNat : Nat) : Int) != ((q0.toNat : Nat) : Int)) = false := by simp
              have i0 : (k : Int) < (n0 : Int) := by omega
              have i1 : (k : Int) < ((n0 + 2 : Nat) : Int) := by omega
              have i2 : (0 : Int) ≤ (k : Int) := by omega
              clear g0 e0 e1 e2
              go_wp2
              go_quiet (fail)
              go_wp2
              go_roundw
              case rel => exact ⟨k + 1, by omega, by go_num, below_drewN hl _⟩
              case measure => simp [intOf]; omega
            · obtain rfl : k = n0 := by omega
              go_wp2
              go_loopw [18] (fun y wm => ∃ t : Nat, t ≤ 2 ∧ y = .int .i64 t ∧ Below w3.heap.size w3 wm) (fun y _ => 2 - (intOf y).toNat)
              case atStart => exact ⟨0, Nat.zero_le _, rfl, hl⟩
              case round =>
                obtain ⟨t, ht, rfl, hm⟩ := hrel
                by_cases hlt2 : t < 2
                · obtain ⟨s1, o1, q1, rfl, t1, g1, e1⟩ := hRc.at_ (k := k + t) (by omega)
                  obtain ⟨s2, o2, q2, rfl, t2, g2, e2⟩ := hRd.at_ (k := k + 1 - t) (by omega)
                  rw [List.getElem?_append_right (by rw [HL.out]; omega), HL.out, show k + t - k = t by omega, leB_get _ _ _ hlt2] at g1
                  rw [List.getElem?_append_right (by rw [HL.out]; omega), HL.out, List.getElem?_reverse (by rw [leB_len]; omega), leB_len, show 2 - 1 - (k + 1 - t - k) = t by omega, leB_get _ _ _ hlt2] at g2
                  injection g1 with g1
                  injection g2 with g2
                  subst g1
                  subst g2
                  have e1' := (hm.cell (p := ⟨s1, o1 + (k + t), none⟩) t1).trans e1
                  have e2' := (hm.cell (p := ⟨s2, o2 + (k + 1 - t), none⟩) t2).trans e2
                  have hqq : ((((nb x t).toNat : Nat) : Int) != (((nb x t).toNat : Nat) : Int)) = false := by simp
                  clear e1 e2
                  go_wp2
                  go_region
                  go_wp2
                  go_roundw
                  case rel => exact ⟨t + 1, by omega, by go_num, hm.drew⟩
                  case measure => simp [intOf]; omega
                · obtain rfl : t = 2 := by omega
                  go_wp2
                  go_roundw
                  case rel => exact ⟨2, by omega, by go_num, hbl3.trans (hm.mono hbl3.size)⟩
                  case measure => simp [intOf]
        · -- a number of 4 bytes
          have P1 := Lib.hid (put_ok A0 n0 c0 b0 x 4 wr hRr hTr (by omega) rfl hx)
          have P2 := Lib.hid (fun W (h : RB W A0 n0 b0) (h' : Sizes W) => putBig_ok A0 n0 c0 b0 x 4 W h h' (by omega) rfl hx)
          go_wp2_with fail
          refine P1.out.mono ?_
          rintro e w1 ⟨A1, n1, c1, rfl, hown1, hb1⟩
          have hn1 : n1 = n0 + 4 := by have := hown1.len; rw [List.length_append, leB_len, HL.out] at this; exact this.symm
          have hbl1 := hbl.trans (hb1.mono hbl.size)
          have hbw1 := hbw.trans (hb1.mono hbw.size)
          go_wp2_with fail
          refine (P2.out w1 (hR.below hbw1) (hT.below' hbw1)).mono ?_
          rintro e w2 ⟨A2, n2, c2, rfl, hown2, hb2⟩
          have hn2 : n2 = n0 + 4 := by have := hown2.len; rw [List.length_append, List.length_reverse, leB_len, HL.out] at this; exact this.symm
          have hbl2 := hbl1.trans (hb2.mono hbl1.size)
          have hbw2 := hbw1.trans (hb2.mono hbw1.size)
          subst hn1
          subst hn2
          have hTa := hT.below' hbw2
          have hRa := hown1.rb.below hb2
          have G1 := get_ok A1 (n0 + 4) c1 _ n0 4 w2 hRa hTa (by omega) rfl (by omega)
          have G2 := fun W (h : RB W A2 (n0 + 4) (b0 ++ (leB x 4).reverse)) (h' : Sizes W) => getBig_ok A2 (n0 + 4) c2 _ n0 4 W h h' (by omega) rfl (by omega)
          rw [got_le b0 x n0 4 HL.out, show x % 256 ^ 4 = x % 4294967296 from rfl, show ((x % 4294967296 : Nat) : Int) = (x : Int) % 4294967296 by omega] at G1
          rw [got_be b0 x n0 4 HL.out, show x % 256 ^ 4 = x % 4294967296 from rfl, show ((x % 4294967296 : Nat) : Int) = (x : Int) % 4294967296 by omega] at G2
          have H1 := Lib.hid G1
          have H2 := Lib.hid G2
          clear G1 G2
          go_wp2_with fail
          refine H1.out.mono ?_
          rintro e w' ⟨rfl, rfl⟩
          go_wp2_with fail
          refine (H2.out w2 hown2.rb hTa).mono ?_
          rintro e w3 ⟨rfl, hb3⟩
          have hbl3 := hbl2.trans (hb3.mono hbl2.size)
          have hbw3 := hbw2.trans (hb3.mono hbw2.size)
          have hRc := hRa.below hb3
          have hRd := hown2.rb.below hb3
          have hRb := hR.below hbw3
          have hq : ((x : Int) % 4294967296 != (x : Int) % 4294967296) = false := by simp
          have hq2 : (((n0 : Int) + 4) != (n0 : Int) + 4) = false := by simp
          clear hown1 hown2 H1 H2 P1 P2
          go_wp2
          go_loopw [17] (fun y wl => ∃ k : Nat, k ≤ n0 ∧ y = .int .i64 k ∧ Below w3.heap.size w3 wl) (fun y _ => n0 - (intOf y).toNat)
          case atStart => exact ⟨0, Nat.zero_le _, rfl, Below.refl _ _⟩
          case round =>
            obtain ⟨k, hk, rfl, hl⟩ := hrel
            by_cases hlt : k < n0
            · obtain ⟨s0, o0, q0, rfl, t0, g0, e0⟩ := hRb.at_ hlt
              obtain ⟨s1, o1, q1, rfl, t1, g1, e1⟩ := hRc.at_ (k := k) (by omega)
              obtain ⟨s2, o2, q2, rfl, t2, g2, e2⟩ := hRd.at_ (k := k) (by omega)
              rw [List.getElem?_append_left (by rw [HL.out]; exact hlt), g0] at g1
              rw [List.getElem?_append_left (by rw [HL.out]; exact hlt), g0] at g2
              injection g1 with g1
              injection g2 with g2
              subst g1
              subst g2
              have e0' := (hl.cell (p := ⟨s0, o0 + k, none⟩) t0).trans e0
              have e1' := (hl.cell (p := ⟨s1, o1 + k, none⟩) t1).trans e1
              have e2' := (hl.cell (p := ⟨s2, o2 + k, none⟩) t2).trans e2
              have hqq : (((q0.toNat : Nat) : Int) != ((q0.toNat : Nat) : Int)) = false := by simp
              have i0 : (k : Int) < (n0 : Int) := by omega
              have i1 : (k : Int) < ((n0 + 4 : Nat) : Int) := by omega
              have i2 : (0 : Int) ≤ (k : Int) := by omega
              clear g0 e0 e1 e2
              go_wp2
              go_quiet (fail)
              go_wp2
              go_roundw
              case rel => exact ⟨k + 1, by omega, by go_num, below_drewN hl _⟩
              case measure => simp [intOf]; omega
            · obtain rfl : k = n0 := by omega
              go_wp2
              go_loopw [18] (fun y wm => ∃ t : Nat, t ≤ 4 ∧ y = .int .i64 t ∧ Below w3.heap.size w3 wm) (fun y _ => 4 - (intOf y).toNat)
              case atStart => exact ⟨0, Nat.zero_le _, rfl, hl⟩
              case round =>
                obtain ⟨t, ht, rfl, hm⟩ := hrel
                by_cases hlt2 : t < 4
                · obtain ⟨s1, o1, q1, rfl, t1, g1, e1⟩ := hRc.at_ (k := k + t) (by omega)
                  obtain ⟨s2, o2, q2, rfl, t2, g2, e2⟩ := hRd.at_ (k := k + 3 - t) (by omega)
                  rw [List.getElem?_append_right (by rw [HL.out]; omega), HL.out, show k + t - k = t by omega, leB_get _ _ _ hlt2] at g1
                  rw [List.getElem?_append_right (by rw [HL.out]; omega), HL.out, List.getElem?_reverse (by rw [leB_len]; omega), leB_len, show 4 - 1 - (k + 3 - t - k) = t by omega, leB_get _ _ _ hlt2] at g2
                  injection g1 with g1
                  injection g2 with g2
                  subst g1
                  subst g2
                  have e1' := (hm.cell (p := ⟨s1, o1 + (k + t), none⟩) t1).trans e1
                  have e2' := (hm.cell (p := ⟨s2, o2 + (k + 3 - t), none⟩) t2).trans e2
                  have hqq : ((((nb x t).toNat : Nat) : Int) != (((nb x t).toNat : Nat) : Int)) = false := by simp
                  clear e1 e2
                  go_wp2
                  go_region
                  go_wp2
                  go_roundw
                  case rel => exact ⟨t + 1, by omega, by go_num, hm.drew⟩
                  case measure => simp [intOf]; omega
                · obtain rfl : t = 4 := by omega
                  go_wp2
                  go_roundw
                  case rel => exact ⟨3, by omega, by go_num, hbl3.trans (hm.mono hbl3.size)⟩
                  case measure => simp [intOf]
        · -- a number of 8 bytes
          have P1 := Lib.hid (put_ok A0 n0 c0 b0 x 8 wr hRr hTr (by omega) rfl hx)
          have P2 := Lib.hid (fun W (h : RB W A0 n0 b0) (h' : Sizes W) => putBig_ok A0 n0 c0 b0 x 8 W h h' (by omega) rfl hx)
          go_wp2_with fail
          refine P1.out.mono ?_
          rintro e w1 ⟨A1, n1, c1, rfl, hown1, hb1⟩
          have hn1 : n1 = n0 + 8 := by have := hown1.len; rw [List.length_append, leB_len, HL.out] at this; exact this.symm
          have hbl1 := hbl.trans (hb1.mono hbl.size)
          have hbw1 := hbw.trans (hb1.mono hbw.size)
          go_wp2_with fail
          refine (P2.out w1 (hR.below hbw1) (hT.below' hbw1)).mono ?_
          rintro e w2 ⟨A2, n2, c2, rfl, hown2, hb2⟩
          have hn2 : n2 = n0 + 8 := by have := hown2.len; rw [List.length_append, List.length_reverse, leB_len, HL.out] at this; exact this.symm
          have hbl2 := hbl1.trans (hb2.mono hbl1.size)
          have hbw2 := hbw1.trans (hb2.mono hbw1.size)
          subst hn1
          subst hn2
          have hTa := hT.below' hbw2
          have hRa := hown1.rb.below hb2
          have G1 := get_ok A1 (n0 + 8) c1 _ n0 8 w2 hRa hTa (by omega) rfl (by omega)
          have G2 := fun W (h : RB W A2 (n0 + 8) (b0 ++ (leB x 8).reverse)) (h' : Sizes W) => getBig_ok A2 (n0 + 8) c2 _ n0 8 W h h' (by omega) rfl (by omega)
          rw [got_le b0 x n0 8 HL.out, show x % 256 ^ 8 = x from Nat.mod_eq_of_lt hx] at G1
          rw [got_be b0 x n0 8 HL.out, show x % 256 ^ 8 = x from Nat.mod_eq_of_lt hx] at G2
          have H1 := Lib.hid G1
          have H2 := Lib.hid G2
          clear G1 G2
          go_wp2_with fail
          refine H1.out.mono ?_
          rintro e w' ⟨rfl, rfl⟩
          go_wp2_with fail
          refine (H2.out w2 hown2.rb hTa).mono ?_
          rintro e w3 ⟨rfl, hb3⟩
          have hbl3 := hbl2.trans (hb3.mono hbl2.size)
          have hbw3 := hbw2.trans (hb3.mono hbw2.size)
          have hRc := hRa.below hb3
          have hRd := hown2.rb.below hb3
          have hRb := hR.below hbw3
          have hq : ((x : Int) != (x : Int)) = false := by simp
          have hq2 : (((n0 : Int) + 8) != (n0 : Int) + 8) = false := by simp
          clear hown1 hown2 H1 H2 P1 P2
          go_wp2
          go_loopw [17] (fun y wl => ∃ k : Nat, k ≤ n0 ∧ y = .int .i64 k ∧ Below w3.heap.size w3 wl) (fun y _ => n0 - (intOf y).toNat)
          case atStart => exact ⟨0, Nat.zero_le _, rfl, Below.refl _ _⟩
          case round =>
            obtain ⟨k, hk, rfl, hl⟩ := hrel
            by_cases hlt : k < n0
            · obtain ⟨s0, o0, q0, rfl, t0, g0, e0⟩ := hRb.at_ hlt
              obtain ⟨s1, o1, q1, rfl, t1, g1, e1⟩ := hRc.at_ (k := k) (by omega)
              obtain ⟨s2, o2, q2, rfl, t2, g2, e2⟩ := hRd.at_ (k := k) (by omega)
              rw [List.getElem?_append_left (by rw [HL.out]; exact hlt), g0] at g1
              rw [List.getElem?_append_left (by rw [HL.out]; exact hlt), g0] at g2
              injection g1 with g1
              injection g2 with g2
              subst g1
              subst g2
              have e0' := (hl.cell (p := ⟨s0, o0 + k, none⟩) t0).trans e0
              have e1' := (hl.cell (p := ⟨s1, o1 + k, none⟩) t1).trans e1
              have e2' := (hl.cell (p := ⟨s2, o2 + k, none⟩) t2).trans e2
              have hqq : (((q0.toNat : Nat) : Int) != ((q0.toNat : Nat) : Int)) = false := by simp
              have i0 : (k : Int) < (n0 : Int) := by omega
              have i1 : (k : Int) < ((n0 + 8 : Nat) : Int) := by omega
              have i2 : (0 : Int) ≤ (k : Int) := by omega
              clear g0 e0 e1 e2
              go_wp2
              go_quiet (fail)
              go_wp2
              go_roundw
              case rel => exact ⟨k + 1, by omega, by go_num, below_drewN hl _⟩
              case measure => simp [intOf]; omega
            · obtain rfl : k = n0 := by omega
              go_wp2
              go_loopw [18] (fun y wm => ∃ t : Nat, t ≤ 8 ∧ y = .int .i64 t ∧ Below w3.heap.size w3 wm) (fun y _ => 8 - (intOf y).toNat)
              case atStart => exact ⟨0, Nat.zero_le _, rfl, hl⟩
              case round =>
                obtain ⟨t, ht, rfl, hm⟩ := hrel
                by_cases hlt2 : t < 8
                · obtain ⟨s1, o1, q1, rfl, t1, g1, e1⟩ := hRc.at_ (k := k + t) (by omega)
                  obtain ⟨s2, o2, q2, rfl, t2, g2, e2⟩ := hRd.at_ (k := k + 7 - t) (by omega)
                  rw [List.getElem?_append_right (by rw [HL.out]; omega), HL.out, show k + t - k = t by omega, leB_get _ _ _ hlt2] at g1
                  rw [List.getElem?_append_right (by rw [HL.out]; omega), HL.out, List.getElem?_reverse (by rw [leB_len]; omega), leB_len, show 8 - 1 - (k + 7 - t - k) = t by omega, leB_get _ _ _ hlt2] at g2
                  injection g1 with g1
                  injection g2 with g2
                  subst g1
                  subst g2
                  have e1' := (hm.cell (p := ⟨s1, o1 + (k + t), none⟩) t1).trans e1
                  have e2' := (hm.cell (p := ⟨s2, o2 + (k + 7 - t), none⟩) t2).trans e2
                  have hqq : ((((nb x t).toNat : Nat) : Int) != (((nb x t).toNat : Nat) : Int)) = false := by simp
                  clear e1 e2
                  go_wp2
                  go_region
                  go_wp2
                  go_roundw
                  case rel => exact ⟨t + 1, by omega, by go_num, hm.drew⟩
                  case measure => simp [intOf]; omega
                · obtain rfl : t = 8 := by omega
                  go_wp2
                  go_roundw
                  case rel => exact ⟨4, by omega, by go_num, hbl3.trans (hm.mono hbl3.size)⟩
                  case measure => simp [intOf]
        · -- behind the sizes
          cases hA : s.data.toList.all letter
          · have e1 := Lib.hid (wide_no hA)
            clear hA
            go_wp2_with fail
            refine (wide_any s wr (by omega)).mono ?_
            rintro e w5 ⟨A5, n5, c5, rfl, hown5, hb5⟩
            rw [e1.out] at hown5
            obtain rfl : 0 = n5 := hown5.len
            have hb5' := hbw.trans (hb5.mono hbw.size)
            go_wp2_with fail
            refine (narrow_any A5 0 c5 [] w5 hown5.rb (by omega)).mono ?_
            rintro e w6 ⟨e6, hb6⟩
            simp only [narrowS] at e6
            subst e6
            have hb6' := hb5'.trans (hb6.mono hb5'.size)
            have hRz := hR.below hb6'
            have hTz := hT.below' hb6'
            cases hnb : narrowS b0 with
            | none =>
              go_wp2_with fail
              refine (narrow_any A0 n0 c0 b0 w6 hRz (by omega)).mono ?_
              intro e w8 hp8
              have hb8 := hp8.2
              have e8 := hp8.1
              rw [hnb] at e8
              simp only at e8
              subst e8
              have hb8' := hb6'.trans (hb8.mono hb6'.size)
              clear hp8 hnb
              go_wp2_with fail
              refine (WK.out w8 (hT.below' hb8')).mono ?_
              rintro e w9 ⟨rfl, hb9⟩
              go_wp2
              go_ret
              exact ⟨rfl, hb8'.trans (hb9.mono hb8'.size)⟩
            | some l =>
              obtain ⟨hw1, hw2⟩ := narrow_some b0 l hnb
              have HW1 : Hid (wideS (strOf l).data.toList = b0) := by
                show wideS l = b0
                rw [wide_yes hw2, ← hw1]
              have hlen : Hid ((strOf l).size ≤ 1000000000) := by
                have h1 := congrArg List.length hw1
                rw [widen_len, HL.out] at h1
                show (strOf l).size ≤ _
                rw [strOf_size]
                omega
              go_wp2_with fail
              refine (narrow_any A0 n0 c0 b0 w6 hRz (by omega)).mono ?_
              intro e w8 hp8
              have hb8 := hp8.2
              have e8 := hp8.1
              rw [hnb] at e8
              simp only at e8
              subst e8
              have hb8' := hb6'.trans (hb8.mono hb6'.size)
              clear hp8 hnb hw1 hw2
              have hqq : (b0 == b0) = true := by simp
              generalize strOf l = u at HW1 hlen
              go_wp2_with fail
              refine (wide_any u w8 hlen.out).mono ?_
              rintro e w10 ⟨A10, n10, c10, rfl, hown10, hb10⟩
              rw [HW1.out] at hown10
              have hb10' := hb8'.trans (hb10.mono hb8'.size)
              go_wp2_with fail
              refine (eq_any A10 A0 n10 n0 c10 c0 b0 b0 w10 hown10.rb (hR.below hb10')).mono ?_
              rintro e w' ⟨rfl, rfl⟩
              go_wp2_with fail
              refine (WK.out w10 (hT.below' hb10')).mono ?_
              rintro e w9 ⟨rfl, hb9⟩
              go_wp2
              go_ret
              exact ⟨rfl, hb10'.trans (hb9.mono hb10'.size)⟩
          · have e1 := Lib.hid (wide_yes hA)
            have e4 := Lib.hid (narrow_widen _ hA)
            have e5 := Lib.hid (strOf_eq s)
            have lS := Lib.hid (widen_len s.data.toList)
            have dS := Lib.hid (data_len s)
            have hqs : (s.toList == s.toList) = true := by simp
            clear hA
            generalize widen s.data.toList = X at e1 e4 lS
            go_wp2_with fail
            refine (wide_any s wr (by omega)).mono ?_
            rintro e w5 ⟨A5, n5, c5, rfl, hown5, hb5⟩
            rw [e1.out] at hown5
            obtain rfl : 2 * s.size = n5 := by have := hown5.len; rw [lS.out, dS.out] at this; exact this
            have hb5' := hbw.trans (hb5.mono hbw.size)
            go_wp2_with fail
            refine (narrow_any A5 (2 * s.size) c5 X w5 hown5.rb (by omega)).mono ?_
            rintro e w6 ⟨e6, hb6⟩
            rw [e4.out] at e6
            simp only at e6
            rw [e5.out] at e6
            subst e6
            have hb6' := hb5'.trans (hb6.mono hb5'.size)
            by_cases hpos : 0 < s.size
            · skip
              have hRz := hR.below hb6'
              have hTz := hT.below' hb6'
              cases hnb : narrowS b0 with
              | none =>
                go_wp2_with fail
                refine (narrow_any A0 n0 c0 b0 w6 hRz (by omega)).mono ?_
                intro e w8 hp8
                have hb8 := hp8.2
                have e8 := hp8.1
                rw [hnb] at e8
                simp only at e8
                subst e8
                have hb8' := hb6'.trans (hb8.mono hb6'.size)
                clear hp8 hnb
                go_wp2_with fail
                refine (WK.out w8 (hT.below' hb8')).mono ?_
                rintro e w9 ⟨rfl, hb9⟩
                go_wp2
                go_ret
                exact ⟨rfl, hb8'.trans (hb9.mono hb8'.size)⟩
              | some l =>
                obtain ⟨hw1, hw2⟩ := narrow_some b0 l hnb
                have HW1 : Hid (wideS (strOf l).data.toList = b0) := by
                  show wideS l = b0
                  rw [wide_yes hw2, ← hw1]
                have hlen : Hid ((strOf l).size ≤ 1000000000) := by
                  have h1 := congrArg List.length hw1
                  rw [widen_len, HL.out] at h1
                  show (strOf l).size ≤ _
                  rw [strOf_size]
                  omega
                go_wp2_with fail
                refine (narrow_any A0 n0 c0 b0 w6 hRz (by omega)).mono ?_
                intro e w8 hp8
                have hb8 := hp8.2
                have e8 := hp8.1
                rw [hnb] at e8
                simp only at e8
                subst e8
                have hb8' := hb6'.trans (hb8.mono hb6'.size)
                clear hp8 hnb hw1 hw2
                have hqq : (b0 == b0) = true := by simp
                generalize strOf l = u at HW1 hlen
                go_wp2_with fail
                refine (wide_any u w8 hlen.out).mono ?_
                rintro e w10 ⟨A10, n10, c10, rfl, hown10, hb10⟩
                rw [HW1.out] at hown10
                have hb10' := hb8'.trans (hb10.mono hb8'.size)
                go_wp2_with fail
                refine (eq_any A10 A0 n10 n0 c10 c0 b0 b0 w10 hown10.rb (hR.below hb10')).mono ?_
                rintro e w' ⟨rfl, rfl⟩
                go_wp2_with fail
                refine (WK.out w10 (hT.below' hb10')).mono ?_
                rintro e w9 ⟨rfl, hb9⟩
                go_wp2
                go_ret
                exact ⟨rfl, hb10'.trans (hb9.mono hb10'.size)⟩
            · skip
              have hRz := hR.below hb6'
              have hTz := hT.below' hb6'
              cases hnb : narrowS b0 with
              | none =>
                go_wp2_with fail
                refine (narrow_any A0 n0 c0 b0 w6 hRz (by omega)).mono ?_
                intro e w8 hp8
                have hb8 := hp8.2
                have e8 := hp8.1
                rw [hnb] at e8
                simp only at e8
                subst e8
                have hb8' := hb6'.trans (hb8.mono hb6'.size)
                clear hp8 hnb
                go_wp2_with fail
                refine (WK.out w8 (hT.below' hb8')).mono ?_
                rintro e w9 ⟨rfl, hb9⟩
                go_wp2
                go_ret
                exact ⟨rfl, hb8'.trans (hb9.mono hb8'.size)⟩
              | some l =>
                obtain ⟨hw1, hw2⟩ := narrow_some b0 l hnb
                have HW1 : Hid (wideS (strOf l).data.toList = b0) := by
                  show wideS l = b0
                  rw [wide_yes hw2, ← hw1]
                have hlen : Hid ((strOf l).size ≤ 1000000000) := by
                  have h1 := congrArg List.length hw1
                  rw [widen_len, HL.out] at h1
                  show (strOf l).size ≤ _
                  rw [strOf_size]
                  omega
                go_wp2_with fail
                refine (narrow_any A0 n0 c0 b0 w6 hRz (by omega)).mono ?_
                intro e w8 hp8
                have hb8 := hp8.2
                have e8 := hp8.1
                rw [hnb] at e8
                simp only at e8
                subst e8
                have hb8' := hb6'.trans (hb8.mono hb6'.size)
                clear hp8 hnb hw1 hw2
                have hqq : (b0 == b0) = true := by simp
                generalize strOf l = u at HW1 hlen
                go_wp2_with fail
                refine (wide_any u w8 hlen.out).mono ?_
                rintro e w10 ⟨A10, n10, c10, rfl, hown10, hb10⟩
                rw [HW1.out] at hown10
                have hb10' := hb8'.trans (hb10.mono hb8'.size)
                go_wp2_with fail
                refine (eq_any A10 A0 n10 n0 c10 c0 b0 b0 w10 hown10.rb (hR.below hb10')).mono ?_
                rintro e w' ⟨rfl, rfl⟩
                go_wp2_with fail
                refine (WK.out w10 (hT.below' hb10')).mono ?_
                rintro e w9 ⟨rfl, hb9⟩
                go_wp2
                go_ret
                exact ⟨rfl, hb10'.trans (hb9.mono hb10'.size)⟩
    · go_enter Tryd.func6, Tryd.ntmps6
      go_wp2_with fail
      refine (WK.out w hT).mono ?_
      rintro e w' ⟨rfl, hb1⟩
      go_wp2
      go_ret
      exact ⟨rfl, hb1⟩
  · go_enter Tryd.func6, Tryd.ntmps6
    go_wp2_with fail
    refine (WK.out w hT).mono ?_
    rintro e w' ⟨rfl, hb1⟩
    go_wp2
    go_ret
    exact ⟨rfl, hb1⟩
end Go.Proofs.YtkoookknffmgjaaDoor
