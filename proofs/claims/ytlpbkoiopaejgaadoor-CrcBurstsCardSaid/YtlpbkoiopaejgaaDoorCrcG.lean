import Derived.Test.YtlpbkoiopaejgaaDoorCrcC
import Derived.RegionTactic
import Derived.BigRegion
import Derived.ChangeAlike
import Derived.Deep.QuietTactic
import Derived.BigQuiet
import Derived.Deep.DeepCutAuto
import Derived.StillTailTactics
import Derived.Laws.BitsAllLaws
namespace Go.Proofs.YtlpbkoiopaejgaaDoor
open Go.RowKit Go
set_option linter.unusedVariables false
/-- Bytes put together. -/
def xb (p q : UInt8) : UInt8 := p ^^^ q
theorem u8_xor_b (p q : UInt8) : bits .xor .u8 (p.toNat : Int) (q.toNat : Int) = ((xb p q).toNat : Int) := by
  unfold xb
  rw [u8_xor_nat _ _ p.toNat_lt q.toNat_lt, UInt8.toNat_xor]
def z3 (a b c : List UInt8) : List UInt8 := List.zipWith (fun u q => u ^^^ q) (List.zipWith (fun p q => p ^^^ q) a b) c
theorem together_n0 (A0 A1 A2 : Option Addr) (n0 c0 n1 c1 n2 c2 : Nat) (b0 b1 b2 : List UInt8) (w : World) (h0 : IsBs w A0 n0 c0 b0) (h1 : IsBs w A1 n1 c1 b1) (h2 : IsBs w A2 n2 c2 b2) (hT : Tab w) (m0 : n0 ≤ n0) (m1 : n0 ≤ n1) (m2 : n0 ≤ n2) :
    Calls Tryd.prog 5 #[.slice A0 n0 c0, .slice A1 n1 c1, .slice A2 n2 c2] w fun e w' => e = .returned (.bool true) ∧ Below w.heap.size w w' := by
  have l0 := h0.lim
  have l1 := h1.lim
  have l2 := h2.lim
  by_cases hlen : n0 ≤ 16384
  · go_enter Tryd.func5, Tryd.ntmps5
    go_wp2_with (refine wpList_mk (.tmp 20) (.tmp 20) rfl rfl _ _ _ _ n0 rfl rfl rfl rfl (by omega) ?_)
    intro w1 hown1 hg1
    have hb1 : Below w.heap.size w w1 := (Below.refl _ _).grown hg1 (Nat.le_refl _) (by intro k hk; cases hk)
    have HX : Hid (∃ xs, xs = z3 (b0.take n0) (b1.take n0) (b2.take n0)) := ⟨_, rfl⟩
    go_wp2
    go_loopw [9] (fun i wr => ∃ k : Nat, k ≤ n0 ∧ i = .int .i64 k ∧ OwnB wr w.heap.size (some ⟨w.heap.size, 0, none⟩) n0 n0 ((z3 (b0.take n0) (b1.take n0) (b2.take n0)).take k ++ List.replicate (n0 - k) 0) ∧ Below w.heap.size w wr) (fun i _ => n0 - (intOf i).toNat)
    case atStart => exact ⟨0, Nat.zero_le _, rfl, by simpa using hown1, hb1⟩
    case round =>
      obtain ⟨k, hk, rfl, hown, hbl⟩ := hrel
      by_cases hlt : k < n0
      · obtain ⟨s0, o0, q0, rfl, t0, g0, e0⟩ := h0.rb.at_ (k := k) (by omega)
        obtain ⟨s1, o1, q1, rfl, t1, g1, e1⟩ := h1.rb.at_ (k := k) (by omega)
        obtain ⟨s2, o2, q2, rfl, t2, g2, e2⟩ := h2.rb.at_ (k := k) (by omega)
        have e0' := (hbl.cell (p := ⟨s0, o0 + k, none⟩) t0).trans e0
        have e1' := (hbl.cell (p := ⟨s1, o1 + k, none⟩) t1).trans e1
        have e2' := (hbl.cell (p := ⟨s2, o2 + k, none⟩) t2).trans e2
        have hl : (z3 (b0.take n0) (b1.take n0) (b2.take n0)).length = n0 := by
          unfold z3
          simp [h0.len, h1.len, h2.len]; omega
        have hz : ((z3 (b0.take n0) (b1.take n0) (b2.take n0)).take k ++ List.replicate (n0 - k) 0)[k]? = some 0 := by
          rw [List.getElem?_append_right (by simp; omega)]
          rw [List.length_take, hl, Nat.min_eq_left hk, Nat.sub_self, List.getElem?_replicate, if_pos (by omega)]
        have ed := hown.cellAt k 0 hz
        have fd := hown.free k
        have x1 := u8_xor_b q0 q1
        have x2 := u8_xor_b (xb q0 q1) q2
        have hs := Lib.hid (hown.stored k (xb (xb q0 q1) q2))
        have HL := Lib.hid hl
        have HZ : Hid ((z3 (b0.take n0) (b1.take n0) (b2.take n0))[k]? = some (xb (xb q0 q1) q2)) := by
          unfold z3 Hid
          simp [List.getElem?_zipWith, hlt, g0, g1, g2, xb]
        clear e0 e1 e2 hl hz hown hown1 hb1 hg1 h0 h1 h2
        go_wp2
        go_region
        go_wp2
        go_roundw
        case rel =>
          refine ⟨k + 1, by omega, by go_num, ?_, (hbl.setCell (Nat.le_refl _) _).drew⟩
          rw [← set_step _ 0 (xb (xb q0 q1) q2) n0 k HL.out hlt HZ.out]
          exact hs.out
        case measure => simp [intOf]; omega
      · obtain rfl : k = n0 := by omega
        have hown' : OwnB wr w.heap.size (some ⟨w.heap.size, 0, none⟩) k k (z3 (b0.take k) (b1.take k) (b2.take k)) := by
          have hl : (z3 (b0.take k) (b1.take k) (b2.take k)).length = k := by
            unfold z3
            simp [h0.len, h1.len, h2.len]; omega
          rwa [List.take_of_length_le (by omega), Nat.sub_self, List.replicate_zero, List.append_nil] at hown
        have hTr := hT.below hbl hT.1
        have R0 := h0.rb.below hbl
        have T0 : RB wr A0 k (b0.take k) := ⟨by rw [List.length_take, h0.len]; omega, R0.2.take_ k⟩
        have T1 : RB wr A1 k (b1.take k) := ⟨by rw [List.length_take, h1.len]; omega, (h1.rb.below hbl).2.take_ k⟩
        have T2 : RB wr A2 k (b2.take k) := ⟨by rw [List.length_take, h2.len]; omega, (h2.rb.below hbl).2.take_ k⟩
        have C3 := (sum_any _ k k _ wr.drew hTr.drew hown'.rb.drew (by omega)).mono (R' := fun e w' => e = .returned (wv (ext 0#32 (z3 (b0.take k) (b1.take k) (b2.take k)))) ∧ w' = wr.drew) (fun _ _ hh => ⟨hh.1, hh.2.symm⟩)
        have C0 := (sum_any _ k c0 _ wr.drew hTr.drew T0.drew (by omega)).mono (R' := fun e w' => e = .returned (wv (ext 0#32 (b0.take k))) ∧ w' = wr.drew) (fun _ _ hh => ⟨hh.1, hh.2.symm⟩)
        have C1 := (sum_any _ k c1 _ wr.drew hTr.drew T1.drew (by omega)).mono (R' := fun e w' => e = .returned (wv (ext 0#32 (b1.take k))) ∧ w' = wr.drew) (fun _ _ hh => ⟨hh.1, hh.2.symm⟩)
        have C2 := (sum_any _ k c2 _ wr.drew hTr.drew T2.drew (by omega)).mono (R' := fun e w' => e = .returned (wv (ext 0#32 (b2.take k))) ∧ w' = wr.drew) (fun _ _ hh => ⟨hh.1, hh.2.symm⟩)
        have K : Hid (ext 0#32 (z3 (b0.take k) (b1.take k) (b2.take k)) = xr (xr (ext 0#32 (b0.take k)) (ext 0#32 (b1.take k))) (ext 0#32 (b2.take k))) := ext_xor3 k _ _ _ T0.1 T1.1 T2.1
        generalize ext 0#32 (z3 (b0.take k) (b1.take k) (b2.take k)) = p at C3 K
        generalize ext 0#32 (b0.take k) = p0 at C0 K
        generalize ext 0#32 (b1.take k) = p1 at C1 K
        generalize ext 0#32 (b2.take k) = p2 at C2 K
        obtain rfl : p = _ := K.out
        clear K
        have x1 := tn_xor p0 p1
        have x2 := tn_xor (xr p0 p1) p2
        have x3 : (tn (xr (xr p0 p1) p2) == tn (xr (xr p0 p1) p2)) = true := by simp
        have D0 := Lib.hid C0
        have D1 := Lib.hid C1
        have D2 := Lib.hid C2
        have D3 := Lib.hid C3
        have WK := Lib.hid (fun W (h : Tab W) => works_any W h)
        have kc0 : k ≤ c0 := by have := h0.le; omega
        have kc1 : k ≤ c1 := by have := h1.le; omega
        have kc2 : k ≤ c2 := by have := h2.le; omega
        clear C0 C1 C2 C3 T0 T1 T2 R0 hown' hown hown1 hb1 hg1
        go_wp2
        refine wp_region_still_tail 18 (by kernel_rfl) (by kernel_rfl) ?_
        simp only [List.take_succ_cons, List.take_zero, List.drop_succ_cons, List.drop_zero]
        still_step
        still_call D3.out
        iterate 3 still_step
        still_call D0.out
        iterate 3 still_step
        still_call D1.out
        iterate 4 still_step
        still_call D2.out
        iterate 3 still_step
        refine wpStill_nil ?_
        change wpList _ _ _ _ _ wr.drew
        generalize hw2 : wr.drew = w2
        have hb2 : Below w.heap.size w w2 := by rw [← hw2]; exact hbl.drew
        have hT2 : Tab w2 := by rw [← hw2]; exact hTr.drew
        clear hw2
        go_wp2_with fail
        refine (WK.out w2 hT2).mono ?_
        rintro e w3 ⟨rfl, hb3⟩
        go_wp2
        go_ret
        exact ⟨rfl, hb2.trans (hb3.mono hb2.size)⟩
  · go_enter Tryd.func5, Tryd.ntmps5
    go_wp2_with fail
    refine (works_any w hT).mono ?_
    rintro e w' ⟨rfl, hb1⟩
    go_wp2
    go_ret
    exact ⟨rfl, hb1⟩
theorem together_n1 (A0 A1 A2 : Option Addr) (n0 c0 n1 c1 n2 c2 : Nat) (b0 b1 b2 : List UInt8) (w : World) (h0 : IsBs w A0 n0 c0 b0) (h1 : IsBs w A1 n1 c1 b1) (h2 : IsBs w A2 n2 c2 b2) (hT : Tab w) (m0 : n1 < n0) (m1 : n1 ≤ n1) (m2 : n1 ≤ n2) :
    Calls Tryd.prog 5 #[.slice A0 n0 c0, .slice A1 n1 c1, .slice A2 n2 c2] w fun e w' => e = .returned (.bool true) ∧ Below w.heap.size w w' := by
  have l0 := h0.lim
  have l1 := h1.lim
  have l2 := h2.lim
  by_cases hlen : n1 ≤ 16384
  · go_enter Tryd.func5, Tryd.ntmps5
    go_wp2_with (refine wpList_mk (.tmp 20) (.tmp 20) rfl rfl _ _ _ _ n1 rfl rfl rfl rfl (by omega) ?_)
    intro w1 hown1 hg1
    have hb1 : Below w.heap.size w w1 := (Below.refl _ _).grown hg1 (Nat.le_refl _) (by intro k hk; cases hk)
    have HX : Hid (∃ xs, xs = z3 (b0.take n1) (b1.take n1) (b2.take n1)) := ⟨_, rfl⟩
    go_wp2
    go_loopw [9] (fun i wr => ∃ k : Nat, k ≤ n1 ∧ i = .int .i64 k ∧ OwnB wr w.heap.size (some ⟨w.heap.size, 0, none⟩) n1 n1 ((z3 (b0.take n1) (b1.take n1) (b2.take n1)).take k ++ List.replicate (n1 - k) 0) ∧ Below w.heap.size w wr) (fun i _ => n1 - (intOf i).toNat)
    case atStart => exact ⟨0, Nat.zero_le _, rfl, by simpa using hown1, hb1⟩
    case round =>
      obtain ⟨k, hk, rfl, hown, hbl⟩ := hrel
      by_cases hlt : k < n1
      · obtain ⟨s0, o0, q0, rfl, t0, g0, e0⟩ := h0.rb.at_ (k := k) (by omega)
        obtain ⟨s1, o1, q1, rfl, t1, g1, e1⟩ := h1.rb.at_ (k := k) (by omega)
        obtain ⟨s2, o2, q2, rfl, t2, g2, e2⟩ := h2.rb.at_ (k := k) (by omega)
        have e0' := (hbl.cell (p := ⟨s0, o0 + k, none⟩) t0).trans e0
        have e1' := (hbl.cell (p := ⟨s1, o1 + k, none⟩) t1).trans e1
        have e2' := (hbl.cell (p := ⟨s2, o2 + k, none⟩) t2).trans e2
        have hl : (z3 (b0.take n1) (b1.take n1) (b2.take n1)).length = n1 := by
          unfold z3
          simp [h0.len, h1.len, h2.len]; omega
        have hz : ((z3 (b0.take n1) (b1.take n1) (b2.take n1)).take k ++ List.replicate (n1 - k) 0)[k]? = some 0 := by
          rw [List.getElem?_append_right (by simp; omega)]
          rw [List.length_take, hl, Nat.min_eq_left hk, Nat.sub_self, List.getElem?_replicate, if_pos (by omega)]
        have ed := hown.cellAt k 0 hz
        have fd := hown.free k
        have x1 := u8_xor_b q0 q1
        have x2 := u8_xor_b (xb q0 q1) q2
        have hs := Lib.hid (hown.stored k (xb (xb q0 q1) q2))
        have HL := Lib.hid hl
        have HZ : Hid ((z3 (b0.take n1) (b1.take n1) (b2.take n1))[k]? = some (xb (xb q0 q1) q2)) := by
          unfold z3 Hid
          simp [List.getElem?_zipWith, hlt, g0, g1, g2, xb]
        clear e0 e1 e2 hl hz hown hown1 hb1 hg1 h0 h1 h2
        go_wp2
        go_region
        go_wp2
        go_roundw
        case rel =>
          refine ⟨k + 1, by omega, by go_num, ?_, (hbl.setCell (Nat.le_refl _) _).drew⟩
          rw [← set_step _ 0 (xb (xb q0 q1) q2) n1 k HL.out hlt HZ.out]
          exact hs.out
        case measure => simp [intOf]; omega
      · obtain rfl : k = n1 := by omega
        have hown' : OwnB wr w.heap.size (some ⟨w.heap.size, 0, none⟩) k k (z3 (b0.take k) (b1.take k) (b2.take k)) := by
          have hl : (z3 (b0.take k) (b1.take k) (b2.take k)).length = k := by
            unfold z3
            simp [h0.len, h1.len, h2.len]; omega
          rwa [List.take_of_length_le (by omega), Nat.sub_self, List.replicate_zero, List.append_nil] at hown
        have hTr := hT.below hbl hT.1
        have R0 := h0.rb.below hbl
        have T0 : RB wr A0 k (b0.take k) := ⟨by rw [List.length_take, h0.len]; omega, R0.2.take_ k⟩
        have T1 : RB wr A1 k (b1.take k) := ⟨by rw [List.length_take, h1.len]; omega, (h1.rb.below hbl).2.take_ k⟩
        have T2 : RB wr A2 k (b2.take k) := ⟨by rw [List.length_take, h2.len]; omega, (h2.rb.below hbl).2.take_ k⟩
        have C3 := (sum_any _ k k _ wr.drew hTr.drew hown'.rb.drew (by omega)).mono (R' := fun e w' => e = .returned (wv (ext 0#32 (z3 (b0.take k) (b1.take k) (b2.take k)))) ∧ w' = wr.drew) (fun _ _ hh => ⟨hh.1, hh.2.symm⟩)
        have C0 := (sum_any _ k c0 _ wr.drew hTr.drew T0.drew (by omega)).mono (R' := fun e w' => e = .returned (wv (ext 0#32 (b0.take k))) ∧ w' = wr.drew) (fun _ _ hh => ⟨hh.1, hh.2.symm⟩)
        have C1 := (sum_any _ k c1 _ wr.drew hTr.drew T1.drew (by omega)).mono (R' := fun e w' => e = .returned (wv (ext 0#32 (b1.take k))) ∧ w' = wr.drew) (fun _ _ hh => ⟨hh.1, hh.2.symm⟩)
        have C2 := (sum_any _ k c2 _ wr.drew hTr.drew T2.drew (by omega)).mono (R' := fun e w' => e = .returned (wv (ext 0#32 (b2.take k))) ∧ w' = wr.drew) (fun _ _ hh => ⟨hh.1, hh.2.symm⟩)
        have K : Hid (ext 0#32 (z3 (b0.take k) (b1.take k) (b2.take k)) = xr (xr (ext 0#32 (b0.take k)) (ext 0#32 (b1.take k))) (ext 0#32 (b2.take k))) := ext_xor3 k _ _ _ T0.1 T1.1 T2.1
        generalize ext 0#32 (z3 (b0.take k) (b1.take k) (b2.take k)) = p at C3 K
        generalize ext 0#32 (b0.take k) = p0 at C0 K
        generalize ext 0#32 (b1.take k) = p1 at C1 K
        generalize ext 0#32 (b2.take k) = p2 at C2 K
        obtain rfl : p = _ := K.out
        clear K
        have x1 := tn_xor p0 p1
        have x2 := tn_xor (xr p0 p1) p2
        have x3 : (tn (xr (xr p0 p1) p2) == tn (xr (xr p0 p1) p2)) = true := by simp
        have D0 := Lib.hid C0
        have D1 := Lib.hid C1
        have D2 := Lib.hid C2
        have D3 := Lib.hid C3
        have WK := Lib.hid (fun W (h : Tab W) => works_any W h)
        have kc0 : k ≤ c0 := by have := h0.le; omega
        have kc1 : k ≤ c1 := by have := h1.le; omega
        have kc2 : k ≤ c2 := by have := h2.le; omega
        clear C0 C1 C2 C3 T0 T1 T2 R0 hown' hown hown1 hb1 hg1
        go_wp2
        refine wp_region_still_tail 18 (by kernel_rfl) (by kernel_rfl) ?_
        simp only [List.take_succ_cons, List.take_zero, List.drop_succ_cons, List.drop_zero]
        still_step
        still_call D3.out
        iterate 3 still_step
        still_call D0.out
        iterate 3 still_step
        still_call D1.out
        iterate 4 still_step
        still_call D2.out
        iterate 3 still_step
        refine wpStill_nil ?_
        change wpList _ _ _ _ _ wr.drew
        generalize hw2 : wr.drew = w2
        have hb2 : Below w.heap.size w w2 := by rw [← hw2]; exact hbl.drew
        have hT2 : Tab w2 := by rw [← hw2]; exact hTr.drew
        clear hw2
        go_wp2_with fail
        refine (WK.out w2 hT2).mono ?_
        rintro e w3 ⟨rfl, hb3⟩
        go_wp2
        go_ret
        exact ⟨rfl, hb2.trans (hb3.mono hb2.size)⟩
  · go_enter Tryd.func5, Tryd.ntmps5
    go_wp2_with fail
    refine (works_any w hT).mono ?_
    rintro e w' ⟨rfl, hb1⟩
    go_wp2
    go_ret
    exact ⟨rfl, hb1⟩
theorem together_n2 (A0 A1 A2 : Option Addr) (n0 c0 n1 c1 n2 c2 : Nat) (b0 b1 b2 : List UInt8) (w : World) (h0 : IsBs w A0 n0 c0 b0) (h1 : IsBs w A1 n1 c1 b1) (h2 : IsBs w A2 n2 c2 b2) (hT : Tab w) (m0 : n2 < n0) (m1 : n2 < n1) (m2 : n2 ≤ n2) :
    Calls Tryd.prog 5 #[.slice A0 n0 c0, .slice A1 n1 c1, .slice A2 n2 c2] w fun e w' => e = .returned (.bool true) ∧ Below w.heap.size w w' := by
  have l0 := h0.lim
  have l1 := h1.lim
  have l2 := h2.lim
  by_cases hlen : n2 ≤ 16384
  · go_enter Tryd.func5, Tryd.ntmps5
    go_wp2_with (refine wpList_mk (.tmp 20) (.tmp 20) rfl rfl _ _ _ _ n2 rfl rfl rfl rfl (by omega) ?_)
    intro w1 hown1 hg1
    have hb1 : Below w.heap.size w w1 := (Below.refl _ _).grown hg1 (Nat.le_refl _) (by intro k hk; cases hk)
    have HX : Hid (∃ xs, xs = z3 (b0.take n2) (b1.take n2) (b2.take n2)) := ⟨_, rfl⟩
    go_wp2
    go_loopw [9] (fun i wr => ∃ k : Nat, k ≤ n2 ∧ i = .int .i64 k ∧ OwnB wr w.heap.size (some ⟨w.heap.size, 0, none⟩) n2 n2 ((z3 (b0.take n2) (b1.take n2) (b2.take n2)).take k ++ List.replicate (n2 - k) 0) ∧ Below w.heap.size w wr) (fun i _ => n2 - (intOf i).toNat)
    case atStart => exact ⟨0, Nat.zero_le _, rfl, by simpa using hown1, hb1⟩
    case round =>
      obtain ⟨k, hk, rfl, hown, hbl⟩ := hrel
      by_cases hlt : k < n2
      · obtain ⟨s0, o0, q0, rfl, t0, g0, e0⟩ := h0.rb.at_ (k := k) (by omega)
        obtain ⟨s1, o1, q1, rfl, t1, g1, e1⟩ := h1.rb.at_ (k := k) (by omega)
        obtain ⟨s2, o2, q2, rfl, t2, g2, e2⟩ := h2.rb.at_ (k := k) (by omega)
        have e0' := (hbl.cell (p := ⟨s0, o0 + k, none⟩) t0).trans e0
        have e1' := (hbl.cell (p := ⟨s1, o1 + k, none⟩) t1).trans e1
        have e2' := (hbl.cell (p := ⟨s2, o2 + k, none⟩) t2).trans e2
        have hl : (z3 (b0.take n2) (b1.take n2) (b2.take n2)).length = n2 := by
          unfold z3
          simp [h0.len, h1.len, h2.len]; omega
        have hz : ((z3 (b0.take n2) (b1.take n2) (b2.take n2)).take k ++ List.replicate (n2 - k) 0)[k]? = some 0 := by
          rw [List.getElem?_append_right (by simp; omega)]
          rw [List.length_take, hl, Nat.min_eq_left hk, Nat.sub_self, List.getElem?_replicate, if_pos (by omega)]
        have ed := hown.cellAt k 0 hz
        have fd := hown.free k
        have x1 := u8_xor_b q0 q1
        have x2 := u8_xor_b (xb q0 q1) q2
        have hs := Lib.hid (hown.stored k (xb (xb q0 q1) q2))
        have HL := Lib.hid hl
        have HZ : Hid ((z3 (b0.take n2) (b1.take n2) (b2.take n2))[k]? = some (xb (xb q0 q1) q2)) := by
          unfold z3 Hid
          simp [List.getElem?_zipWith, hlt, g0, g1, g2, xb]
        clear e0 e1 e2 hl hz hown hown1 hb1 hg1 h0 h1 h2
        go_wp2
        go_region
        go_wp2
        go_roundw
        case rel =>
          refine ⟨k + 1, by omega, by go_num, ?_, (hbl.setCell (Nat.le_refl _) _).drew⟩
          rw [← set_step _ 0 (xb (xb q0 q1) q2) n2 k HL.out hlt HZ.out]
          exact hs.out
        case measure => simp [intOf]; omega
      · obtain rfl : k = n2 := by omega
        have hown' : OwnB wr w.heap.size (some ⟨w.heap.size, 0, none⟩) k k (z3 (b0.take k) (b1.take k) (b2.take k)) := by
          have hl : (z3 (b0.take k) (b1.take k) (b2.take k)).length = k := by
            unfold z3
            simp [h0.len, h1.len, h2.len]; omega
          rwa [List.take_of_length_le (by omega), Nat.sub_self, List.replicate_zero, List.append_nil] at hown
        have hTr := hT.below hbl hT.1
        have R0 := h0.rb.below hbl
        have T0 : RB wr A0 k (b0.take k) := ⟨by rw [List.length_take, h0.len]; omega, R0.2.take_ k⟩
        have T1 : RB wr A1 k (b1.take k) := ⟨by rw [List.length_take, h1.len]; omega, (h1.rb.below hbl).2.take_ k⟩
        have T2 : RB wr A2 k (b2.take k) := ⟨by rw [List.length_take, h2.len]; omega, (h2.rb.below hbl).2.take_ k⟩
        have C3 := (sum_any _ k k _ wr.drew hTr.drew hown'.rb.drew (by omega)).mono (R' := fun e w' => e = .returned (wv (ext 0#32 (z3 (b0.take k) (b1.take k) (b2.take k)))) ∧ w' = wr.drew) (fun _ _ hh => ⟨hh.1, hh.2.symm⟩)
        have C0 := (sum_any _ k c0 _ wr.drew hTr.drew T0.drew (by omega)).mono (R' := fun e w' => e = .returned (wv (ext 0#32 (b0.take k))) ∧ w' = wr.drew) (fun _ _ hh => ⟨hh.1, hh.2.symm⟩)
        have C1 := (sum_any _ k c1 _ wr.drew hTr.drew T1.drew (by omega)).mono (R' := fun e w' => e = .returned (wv (ext 0#32 (b1.take k))) ∧ w' = wr.drew) (fun _ _ hh => ⟨hh.1, hh.2.symm⟩)
        have C2 := (sum_any _ k c2 _ wr.drew hTr.drew T2.drew (by omega)).mono (R' := fun e w' => e = .returned (wv (ext 0#32 (b2.take k))) ∧ w' = wr.drew) (fun _ _ hh => ⟨hh.1, hh.2.symm⟩)
        have K : Hid (ext 0#32 (z3 (b0.take k) (b1.take k) (b2.take k)) = xr (xr (ext 0#32 (b0.take k)) (ext 0#32 (b1.take k))) (ext 0#32 (b2.take k))) := ext_xor3 k _ _ _ T0.1 T1.1 T2.1
        generalize ext 0#32 (z3 (b0.take k) (b1.take k) (b2.take k)) = p at C3 K
        generalize ext 0#32 (b0.take k) = p0 at C0 K
        generalize ext 0#32 (b1.take k) = p1 at C1 K
        generalize ext 0#32 (b2.take k) = p2 at C2 K
        obtain rfl : p = _ := K.out
        clear K
        have x1 := tn_xor p0 p1
        have x2 := tn_xor (xr p0 p1) p2
        have x3 : (tn (xr (xr p0 p1) p2) == tn (xr (xr p0 p1) p2)) = true := by simp
        have D0 := Lib.hid C0
        have D1 := Lib.hid C1
        have D2 := Lib.hid C2
        have D3 := Lib.hid C3
        have WK := Lib.hid (fun W (h : Tab W) => works_any W h)
        have kc0 : k ≤ c0 := by have := h0.le; omega
        have kc1 : k ≤ c1 := by have := h1.le; omega
        have kc2 : k ≤ c2 := by have := h2.le; omega
        clear C0 C1 C2 C3 T0 T1 T2 R0 hown' hown hown1 hb1 hg1
        go_wp2
        refine wp_region_still_tail 18 (by kernel_rfl) (by kernel_rfl) ?_
        simp only [List.take_succ_cons, List.take_zero, List.drop_succ_cons, List.drop_zero]
        still_step
        still_call D3.out
        iterate 3 still_step
        still_call D0.out
        iterate 3 still_step
        still_call D1.out
        iterate 4 still_step
        still_call D2.out
        iterate 3 still_step
        refine wpStill_nil ?_
        change wpList _ _ _ _ _ wr.drew
        generalize hw2 : wr.drew = w2
        have hb2 : Below w.heap.size w w2 := by rw [← hw2]; exact hbl.drew
        have hT2 : Tab w2 := by rw [← hw2]; exact hTr.drew
        clear hw2
        go_wp2_with fail
        refine (WK.out w2 hT2).mono ?_
        rintro e w3 ⟨rfl, hb3⟩
        go_wp2
        go_ret
        exact ⟨rfl, hb2.trans (hb3.mono hb2.size)⟩
  · go_enter Tryd.func5, Tryd.ntmps5
    go_wp2_with fail
    refine (works_any w hT).mono ?_
    rintro e w' ⟨rfl, hb1⟩
    go_wp2
    go_ret
    exact ⟨rfl, hb1⟩
theorem together_row (A0 : Option Addr) (n0 c0 : Nat) (b0 : List UInt8) (A1 : Option Addr) (n1 c1 : Nat) (b1 : List UInt8) (A2 : Option Addr) (n2 c2 : Nat) (b2 : List UInt8) (w : World) (h0 : IsBs w A0 n0 c0 b0) (h1 : IsBs w A1 n1 c1 b1) (h2 : IsBs w A2 n2 c2 b2) (hT : Tab w) :
    Calls Tryd.prog 5 #[.slice A0 n0 c0, .slice A1 n1 c1, .slice A2 n2 c2] w fun e w' => e = .returned (.bool true) ∧ Below w.heap.size w w' := by
  by_cases m01 : n0 ≤ n1
  · by_cases m02 : n0 ≤ n2
    · exact together_n0 A0 A1 A2 n0 c0 n1 c1 n2 c2 b0 b1 b2 w h0 h1 h2 hT (Nat.le_refl _) m01 m02
    · exact together_n2 A0 A1 A2 n0 c0 n1 c1 n2 c2 b0 b1 b2 w h0 h1 h2 hT (by omega) (by omega) (Nat.le_refl _)
  · by_cases m12 : n1 ≤ n2
    · exact together_n1 A0 A1 A2 n0 c0 n1 c1 n2 c2 b0 b1 b2 w h0 h1 h2 hT (by omega) (Nat.le_refl _) m12
    · exact together_n2 A0 A1 A2 n0 c0 n1 c1 n2 c2 b0 b1 b2 w h0 h1 h2 hT (by omega) (by omega) (Nat.le_refl _)
end Go.Proofs.YtlpbkoiopaejgaaDoor
