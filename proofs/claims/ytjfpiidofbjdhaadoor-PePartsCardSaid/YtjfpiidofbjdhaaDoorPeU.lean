/-
  pe: the parts of an image that is one.
-/
import Derived.Test.YtjfpiidofbjdhaaDoorPeY
namespace Go.Proofs.YtjfpiidofbjdhaaDoor
open Go.RowKit Go
set_option linter.unusedVariables false
set_option maxRecDepth 100000
theorem sum_take (l : List (Nat × Nat)) (i : Nat) (x : Nat × Nat) (h : l[i]? = some x) : sumS (l.take (i + 1)) = sumS (l.take i) + x.2 := by
  rw [List.take_add_one, h]
  unfold sumS
  simp
theorem sum_le (l : List (Nat × Nat)) (i : Nat) : sumS (l.take i) ≤ sumS l := by
  have h : sumS l = sumS (l.take i) + sumS (l.drop i) := by
    conv => lhs; rw [← List.take_append_drop i l]
    unfold sumS
    rw [List.map_append, List.sum_append_nat]
  omega
set_option maxHeartbeats 16000000 in
theorem parts_ok (A : Option Addr) (n c : Nat) (bs : List UInt8) (w : World) (hR : RB w A n bs) (hS : Sizes w) (hnc : n ≤ c) (hcc : c ≤ 9223372036854775807) (hn : n ≤ 16384) (im : Im) (he : parseQ bs = .inr im) :
    Calls Tryd.prog 5 #[.slice A n c] w fun e w' => e = .returned (.bool true) ∧ Below w.heap.size w w' := by
  have t1 : decide ((16384 : Int) < (n : Int)) = false := by simp; omega
  have C := Lib.hid (parse_any A n c bs w hR hS hnc hcc)
  obtain ⟨p1, p2, p3, p4, p5, p6, p7, p8, p9, p10, p11⟩ := im_parts bs im he
  obtain ⟨q1, q2, q3, q4, q5⟩ := secs_parts bs p1
  rw [← p2] at q1 q2 q3 q5
  rw [← p3] at q1 q3
  have hl := hR.1
  have P11 := Lib.hid p11
  have Q1 := Lib.hid q1
  have Q2 := Lib.hid q2
  have Q34 := Lib.hid (And.intro q3 q4)
  have HE := Lib.hid he
  have HS := Lib.hid hS
  rw [hl] at p8
  have hsl : im.secs.length ≤ 96 := by omega
  have hgl := p10
  have hhd : im.hdr ≤ 16384 := by omega
  have HL := Lib.hid hl
  clear hR hS he p1 p2 p3 p4 p9 p10 p11 q1 q2 q3 q4 q5 hl
  go_enter Tryd.func5, Tryd.ntmps5
  go_wp2_with (fail)
  (with_reducible refine C.out.mono ?_)
  clear C
  rintro e w1 ⟨hp, hb1⟩
  rw [HE.out] at hp
  obtain ⟨V, m, cV, U, k, cU, xs, rfl, him⟩ := hp
  obtain rfl : m = im.secs.length := him.ml
  obtain rfl : k = im.sigs.length := by rw [him.kl, ← him.bytes, List.length_map]
  have HB1 := Lib.hid (And.intro hb1 him)
  clear hb1 him
  go_upto_region 4 with (refine wpList_store_row rfl _ _ _ rfl w1.heap.size (imVal im V im.secs.length cV U im.sigs.length cU) rfl rfl _ _ (has_new w1 _) (by kernel_rfl) rfl (by simp [imVal, Value.oneCell']) ?_)
  refine wp_nm fun W3 hW3 => ?_
  have k3 : W3.heap[w1.heap.size]? = some (.cells #[.bool im.plus, .int .i64 (im.check : Nat), .int .i64 (im.dir : Nat), .int .u32 (im.hdr : Nat), .slice V im.secs.length cV, .int .u32 (im.table : Nat), .int .u32 (im.length : Nat), .slice U im.sigs.length cU] 28) := by rw [← hW3]; exact setRow_heap _ _ _ _ _ _ (has_new w1 _)
  have hb3 : Below w1.heap.size w1 W3 := by rw [← hW3]; exact below_setRow (kp_alloc (Below.refl _ _) _) (Nat.le_refl _) _
  have K3 : Hid (W3.heap[w1.heap.size]? = some (.cells #[.bool im.plus, .int .i64 (im.check : Nat), .int .i64 (im.dir : Nat), .int .u32 (im.hdr : Nat), .slice V im.secs.length cV, .int .u32 (im.table : Nat), .int .u32 (im.length : Nat), .slice U im.sigs.length cU] 28) ∧ Below w.heap.size w W3 ∧ ReadR W3 V (im.secs.flatMap secCells) ∧ w.heap.size ≤ w1.heap.size) := ⟨k3, kp_call HB1.out.1 hb3, HB1.out.2.secs.reads.below hb3 (Nat.le_refl _), HB1.out.1.size⟩
  clear hW3 k3 hb3 HB1
  obtain ⟨x0, x1, x2, x3, x4, x5, x6, x7⟩ := cells_8 K3.out.1
  go_wp2_with (fail)
  clear x0 x1 x2 x3 x4 x5 x6 x7
  go_loopw [5, 6, 7, 8, 9] (fun vs vi v7 v8 v9 wl => ∃ (i s : Nat), vi = .int .i64 (i : Int) ∧ vs = .int .i64 (s : Int) ∧ i ≤ im.secs.length ∧ s ≤ 16384 ∧ Hid (s = im.hdr + sumS (im.secs.take i)) ∧ Hid (wl.heap[w1.heap.size]? = some (.cells #[.bool im.plus, .int .i64 (im.check : Nat), .int .i64 (im.dir : Nat), .int .u32 (im.hdr : Nat), .slice V im.secs.length cV, .int .u32 (im.table : Nat), .int .u32 (im.length : Nat), .slice U im.sigs.length cU] 28) ∧ Below w.heap.size w wl ∧ ReadR wl V (im.secs.flatMap secCells) ∧ w.heap.size ≤ w1.heap.size)) (fun _ vi _ _ _ _ => im.secs.length - (intOf vi).toNat)
  case atStart => exact ⟨0, im.hdr, rfl, rfl, Nat.zero_le _, hhd, by unfold Hid; simp [sumS], K3⟩
  case round =>
    obtain ⟨i, s, rfl, rfl, hi, hs, HSM, HK⟩ := hrel
    obtain ⟨x0, x1, x2, x3, x4, x5, x6, x7⟩ := cells_8 HK.out.1
    by_cases hlt : i < im.secs.length
    · have u1 : decide ((i : Int) < (im.secs.length : Int)) = true := by simp; omega
      have u1n : decide (i < im.secs.length) = true := by simp; omega
      obtain ⟨x, hx⟩ : ∃ x, im.secs[i]? = some x := ⟨_, List.getElem?_eq_getElem hlt⟩
      obtain ⟨c1, c2⟩ := sec_at _ _ _ hx
      obtain ⟨vb, vo, hV, hvb, g0⟩ := HK.out.2.2.1.at_ c1
      obtain ⟨vb', vo', hV', _, g1⟩ := HK.out.2.2.1.at_ c2
      rw [hV] at hV'
      obtain ⟨rfl, rfl⟩ : vb' = vb ∧ vo' = vo := by injection hV' with e; injection e with e1 e2; exact ⟨e1.symm, e2.symm⟩
      have hq := Q1.out x (List.mem_of_getElem? hx)
      have hq34 := Q34.out
      have hll := HL.out
      have b1 : x.1 ≤ 16384 := by omega
      have b2 : x.2 ≤ 16384 := by omega
      have v1 : ((x.2 : Int) == 0) = false := by have := hq.1; simp; omega
      have v2 : decide ((x.1 : Int) < (im.hdr : Int)) = false := by have := hq.2.1; simp; omega
      have v3 : decide ((n : Int) < (x.1 : Int) + (x.2 : Int)) = false := by have := hq.2.2; simp; omega
      have n2 : im.hdr ≤ x.1 := hq.2.1
      have n3 : x.1 + x.2 ≤ n := by have := hq.2.2; omega
      have HX := Lib.hid (And.intro hx hq)
      have HV := Lib.hid hV
      subst hV
      have g1' : wr.cell? ⟨vb', vo' + i * 2 + 1, none⟩ = some (.int .u32 (x.2 : Nat)) := by rw [Nat.add_assoc]; exact g1
      have HS2 : Hid (s + x.2 ≤ 16384 ∧ s + x.2 = im.hdr + sumS (im.secs.take (i + 1))) := by
        have h1 := sum_take im.secs i x hx
        have h2 := sum_le im.secs (i + 1)
        have h3 := HSM.out
        exact Lib.hid ⟨by omega, by omega⟩
      clear hx hq hq34 hll c1 c2 hV' g1
      go_upto_region 11 with (fail)
      refine wp_nm fun W9 hW9 => ?_
      have k9 : W9.heap[wr.heap.size]? = some (.cells #[.int .u32 (x.1 : Nat), .int .u32 (x.2 : Nat)] 43) := by rw [← hW9]; exact has_new _ _
      have b9 : Below wr.heap.size wr W9 := by rw [← hW9]; exact kp_alloc (Below.refl _ _) _
      have K9 : Hid (W9.heap[w1.heap.size]? = some (.cells #[.bool im.plus, .int .i64 (im.check : Nat), .int .i64 (im.dir : Nat), .int .u32 (im.hdr : Nat), .slice (some ⟨vb', vo', none⟩) im.secs.length cV, .int .u32 (im.table : Nat), .int .u32 (im.length : Nat), .slice U im.sigs.length cU] 28) ∧ Below w.heap.size w W9 ∧ ReadR W9 (some ⟨vb', vo', none⟩) (im.secs.flatMap secCells) ∧ w.heap.size ≤ w1.heap.size ∧ W9.heap[wr.heap.size]? = some (.cells #[.int .u32 (x.1 : Nat), .int .u32 (x.2 : Nat)] 43)) := ⟨has_below HK.out.1 b9, kp_call HK.out.2.1 b9, HK.out.2.2.1.below b9 (Nat.le_refl _), HK.out.2.2.2, k9⟩
      clear hW9 k9 b9 x0 x1 x2 x3 x4 x5 x6 x7 g0 g1'
      obtain ⟨x0, x1, x2, x3, x4, x5, x6, x7⟩ := cells_8 K9.out.1
      obtain ⟨q9, hq9⟩ : ∃ q, wr.heap.size = q := ⟨_, rfl⟩
      rw [hq9] at K9
      rw [hq9]
      clear hq9
      obtain ⟨s0, s1⟩ := cells_2 K9.out.2.2.2.2
      go_wp2_with (fail)
      clear x0 x1 x2 x3 x4 x5 x6 x7 s0 s1
      go_loopw [8, 9] (fun vk v9 wl => ∃ (k : Nat), vk = .int .i64 (k : Int) ∧ k ≤ i ∧ Hid (wl.heap[w1.heap.size]? = some (.cells #[.bool im.plus, .int .i64 (im.check : Nat), .int .i64 (im.dir : Nat), .int .u32 (im.hdr : Nat), .slice (some ⟨vb', vo', none⟩) im.secs.length cV, .int .u32 (im.table : Nat), .int .u32 (im.length : Nat), .slice U im.sigs.length cU] 28) ∧ Below w.heap.size w wl ∧ ReadR wl (some ⟨vb', vo', none⟩) (im.secs.flatMap secCells) ∧ w.heap.size ≤ w1.heap.size ∧ wl.heap[q9]? = some (.cells #[.int .u32 (x.1 : Nat), .int .u32 (x.2 : Nat)] 43))) (fun vk _ _ => i - (intOf vk).toNat)
      case atStart => exact ⟨0, rfl, Nat.zero_le _, K9⟩
      case round =>
        obtain ⟨k, rfl, hk, HI⟩ := hrel
        obtain ⟨x0, x1, x2, x3, x4, x5, x6, x7⟩ := cells_8 HI.out.1
        by_cases hlk : k < i
        · have u5 : decide ((k : Int) < (i : Int)) = true := by simp; omega
          have u6 : k < im.secs.length := by omega
          obtain ⟨y, hy⟩ : ∃ y, im.secs[k]? = some y := ⟨_, List.getElem?_eq_getElem u6⟩
          obtain ⟨c1, c2⟩ := sec_at _ _ _ hy
          obtain ⟨zb, zo, hV, _, h0⟩ := HI.out.2.2.1.at_ c1
          obtain ⟨zb', zo', hV', _, h1⟩ := HI.out.2.2.1.at_ c2
          obtain ⟨rfl, rfl⟩ : vb' = zb ∧ vo' = zo := by injection hV with e; injection e with e1 e2; exact ⟨e1, e2⟩
          obtain ⟨rfl, rfl⟩ : zb' = vb' ∧ zo' = vo' := by injection hV' with e; injection e with e1 e2; exact ⟨e1.symm, e2.symm⟩
          have h1' : wr.cell? ⟨zb', zo' + k * 2 + 1, none⟩ = some (.int .u32 (y.2 : Nat)) := by rw [Nat.add_assoc]; exact h1
          have hq := Q1.out y (List.mem_of_getElem? hy)
          have hd : y.1 + y.2 ≤ x.1 ∨ x.1 + x.2 ≤ y.1 := by
            have h5 := List.pairwise_iff_getElem.1 Q2.out k i u6 hlt hlk
            have h6 := HX.out.1
            rw [List.getElem?_eq_getElem u6] at hy
            rw [List.getElem?_eq_getElem hlt] at h6
            injection hy with hy
            injection h6 with h6
            rw [hy, h6] at h5
            exact h5
          have b3 : y.1 ≤ 16384 := by have := Q34.out; have := HL.out; omega
          have b4 : y.2 ≤ 16384 := by have := Q34.out; have := HL.out; omega
          have b5 : 0 < y.2 := hq.1
          have b6 : 0 < x.2 := HX.out.2.1
          clear hy c1 c2 hV hV' h1 hq x0 x1 x2 x3 x4 x5 x6 x7
          rcases hd with hd | hd
          · have z1 : decide ((x.1 : Int) < (y.1 : Int) + (y.2 : Int)) = false := by simp; omega
            have z2 : ¬ x.1 < y.1 + y.2 := by omega
            obtain ⟨x0, x1, x2, x3, x4, x5, x6, x7⟩ := cells_8 HI.out.1
            go_upto_region 17 with (fail)
            refine wp_nm fun WA hWA => ?_
            have ka : WA.heap[wr.heap.size]? = some (.cells #[.int .u32 (y.1 : Nat), .int .u32 (y.2 : Nat)] 43) := by rw [← hWA]; exact has_new _ _
            have ba : Below wr.heap.size wr WA := by rw [← hWA]; exact kp_alloc (Below.refl _ _) _
            have KA : Hid (WA.heap[w1.heap.size]? = some (.cells #[.bool im.plus, .int .i64 (im.check : Nat), .int .i64 (im.dir : Nat), .int .u32 (im.hdr : Nat), .slice (some ⟨zb', zo', none⟩) im.secs.length cV, .int .u32 (im.table : Nat), .int .u32 (im.length : Nat), .slice U im.sigs.length cU] 28) ∧ Below w.heap.size w WA ∧ ReadR WA (some ⟨zb', zo', none⟩) (im.secs.flatMap secCells) ∧ w.heap.size ≤ w1.heap.size ∧ WA.heap[q9]? = some (.cells #[.int .u32 (x.1 : Nat), .int .u32 (x.2 : Nat)] 43)) := ⟨has_below HI.out.1 ba, kp_call HI.out.2.1 ba, HI.out.2.2.1.below ba (Nat.le_refl _), HI.out.2.2.2.1, has_below HI.out.2.2.2.2 ba⟩
            obtain ⟨s0, s1⟩ := cells_2 KA.out.2.2.2.2
            obtain ⟨r0, r1⟩ := cells_2 ka
            clear hWA ka ba x0 x1 x2 x3 x4 x5 x6 x7 h0 h1'
            go_wp2_with (fail)
            go_roundw
            case rel => exact ⟨k + 1, by go_num, by omega, KA⟩
            case measure => simp [intOf]; omega
          · have z1 : decide ((x.1 : Int) < (y.1 : Int) + (y.2 : Int)) = true := by simp; omega
            have z2 : x.1 < y.1 + y.2 := by omega
            have z3 : decide ((y.1 : Int) < (x.1 : Int) + (x.2 : Int)) = false := by simp; omega
            have z4 : ¬ y.1 < x.1 + x.2 := by omega
            obtain ⟨x0, x1, x2, x3, x4, x5, x6, x7⟩ := cells_8 HI.out.1
            go_upto_region 17 with (fail)
            refine wp_nm fun WA hWA => ?_
            have ka : WA.heap[wr.heap.size]? = some (.cells #[.int .u32 (y.1 : Nat), .int .u32 (y.2 : Nat)] 43) := by rw [← hWA]; exact has_new _ _
            have ba : Below wr.heap.size wr WA := by rw [← hWA]; exact kp_alloc (Below.refl _ _) _
            have KA : Hid (WA.heap[w1.heap.size]? = some (.cells #[.bool im.plus, .int .i64 (im.check : Nat), .int .i64 (im.dir : Nat), .int .u32 (im.hdr : Nat), .slice (some ⟨zb', zo', none⟩) im.secs.length cV, .int .u32 (im.table : Nat), .int .u32 (im.length : Nat), .slice U im.sigs.length cU] 28) ∧ Below w.heap.size w WA ∧ ReadR WA (some ⟨zb', zo', none⟩) (im.secs.flatMap secCells) ∧ w.heap.size ≤ w1.heap.size ∧ WA.heap[q9]? = some (.cells #[.int .u32 (x.1 : Nat), .int .u32 (x.2 : Nat)] 43)) := ⟨has_below HI.out.1 ba, kp_call HI.out.2.1 ba, HI.out.2.2.1.below ba (Nat.le_refl _), HI.out.2.2.2.1, has_below HI.out.2.2.2.2 ba⟩
            obtain ⟨s0, s1⟩ := cells_2 KA.out.2.2.2.2
            obtain ⟨r0, r1⟩ := cells_2 ka
            clear hWA ka ba x0 x1 x2 x3 x4 x5 x6 x7 h0 h1'
            go_wp2_with (fail)
            go_roundw
            case rel => exact ⟨k + 1, by go_num, by omega, KA⟩
            case measure => simp [intOf]; omega
        · have u5 : decide ((k : Int) < (i : Int)) = false := by simp; omega
          obtain ⟨s0, s1⟩ := cells_2 HI.out.2.2.2.2
          go_wp2_with (fail)
          go_roundw
          case rel => exact ⟨i + 1, s + x.2, by go_num, by go_num, by omega, HS2.out.1, HS2.out.2, HI.out.1, HI.out.2.1, HI.out.2.2.1, HI.out.2.2.2.1⟩
          case measure => simp [intOf]; omega
    · have u1 : decide ((i : Int) < (im.secs.length : Int)) = false := by simp; omega
      obtain rfl : i = im.secs.length := by omega
      have HSM2 : Hid (s = im.hdr + sumS im.secs) := by have h := HSM.out; rw [List.take_length] at h; exact Lib.hid h
      clear HSM
      go_wp2_with (fail)
      clear x0 x1 x2 x3 x4 x5 x6 x7
      go_loopw [10] (fun vi wl => ∃ (i : Nat), vi = .int .i64 (i : Int) ∧ i ≤ im.secs.length ∧ Hid (wl.heap[w1.heap.size]? = some (.cells #[.bool im.plus, .int .i64 (im.check : Nat), .int .i64 (im.dir : Nat), .int .u32 (im.hdr : Nat), .slice V im.secs.length cV, .int .u32 (im.table : Nat), .int .u32 (im.length : Nat), .slice U im.sigs.length cU] 28) ∧ Below w.heap.size w wl ∧ ReadR wl V (im.secs.flatMap secCells) ∧ w.heap.size ≤ w1.heap.size)) (fun vi _ => im.secs.length - (intOf vi).toNat)
      case atStart => exact ⟨0, rfl, Nat.zero_le _, HK.out⟩
      case round =>
        obtain ⟨i, rfl, hi, HK2⟩ := hrel
        clear HK u1
        obtain ⟨x0, x1, x2, x3, x4, x5, x6, x7⟩ := cells_8 HK2.out.1
        by_cases hlt : i < im.secs.length
        · have u1 : decide ((i : Int) < (im.secs.length : Int)) = true := by simp; omega
          have u1n : decide (i < im.secs.length) = true := by simp; omega
          have i1 : (i : Int) < (im.secs.length : Int) := by omega
          have e3 : IntKind.i64.wrap ((i : Int) + 1) = (i : Int) + 1 := IntWalk.i64_in _ (by omega)
          obtain ⟨x, hx⟩ : ∃ x, im.secs[i]? = some x := ⟨_, List.getElem?_eq_getElem hlt⟩
          obtain ⟨c1, c2⟩ := sec_at _ _ _ hx
          obtain ⟨vb, vo, hV, hvb, g0⟩ := HK2.out.2.2.1.at_ c1
          obtain ⟨vb', vo', hV', _, g1⟩ := HK2.out.2.2.1.at_ c2
          rw [hV] at hV'
          obtain ⟨rfl, rfl⟩ : vb' = vb ∧ vo' = vo := by injection hV' with e; injection e with e1 e2; exact ⟨e1.symm, e2.symm⟩
          have hq := Q1.out x (List.mem_of_getElem? hx)
          have hsm := HSM2.out
          have hq34 := Q34.out
          have hll := HL.out
          have b1 : x.1 ≤ 16384 := by omega
          have b2 : x.2 ≤ 16384 := by omega
          obtain ⟨xe, hxe⟩ : ∃ xe, x.1 + x.2 = xe := ⟨_, rfl⟩
          have e4 : IntKind.i64.wrap (x.1 : Int) = (x.1 : Int) := IntWalk.i64_in _ (by omega)
          have e5 : IntKind.i64.wrap (x.2 : Int) = (x.2 : Int) := IntWalk.i64_in _ (by omega)
          have e6 : IntKind.i64.wrap ((x.1 : Int) + (x.2 : Int)) = (xe : Int) := by rw [IntWalk.i64_in _ (by omega)]; omega
          have v3 : decide ((s : Int) < (xe : Int)) = false := by have := hq.2.2; simp; omega
          have v3n : decide (s < xe) = false := by have := hq.2.2; simp; omega
          have g1' : wr.cell? ⟨vb', vo' + i * 2 + 1, none⟩ = some (.int .u32 (x.2 : Nat)) := by rw [Nat.add_assoc]; exact g1
          rw [hV] at x4
          have HN : Hid (∀ q, (wr.drewN q).heap[w1.heap.size]? = some (.cells #[.bool im.plus, .int .i64 (im.check : Nat), .int .i64 (im.dir : Nat), .int .u32 (im.hdr : Nat), .slice V im.secs.length cV, .int .u32 (im.table : Nat), .int .u32 (im.length : Nat), .slice U im.sigs.length cU] 28) ∧ Below w.heap.size w (wr.drewN q) ∧ ReadR (wr.drewN q) V (im.secs.flatMap secCells) ∧ w.heap.size ≤ w1.heap.size) := fun q => ⟨HK2.out.1, kp_drewN HK2.out.2.1 q, HK2.out.2.2.1.below (kp_drewN (Below.refl _ _) q) (Nat.le_refl _), HK2.out.2.2.2⟩
          clear hx hq hq34 hll c1 c2 hV hV' g1 hsm hxe HK2
          go_wp2_with (fail)
          go_quiet (fail)
          go_wp2_with (fail)
          go_roundw
          case rel => exact ⟨i + 1, by go_num, by omega, HN.out _⟩
          case measure => simp [intOf]; omega
        · have u1 : decide ((i : Int) < (im.secs.length : Int)) = false := by simp; omega
          obtain rfl : i = im.secs.length := by omega
          have b9 := HK2.out.2.1
          obtain ⟨c4, hc4⟩ : ∃ c4, im.check + 4 = c4 := ⟨_, rfl⟩
          obtain ⟨d8, hd8⟩ : ∃ d8, im.dir + 8 = d8 := ⟨_, rfl⟩
          have e1 : IntKind.i64.wrap ((im.check : Int) + 4) = (c4 : Int) := by rw [IntWalk.i64_in _ (by omega)]; omega
          have e2 : IntKind.i64.wrap ((im.dir : Int) + 8) = (d8 : Int) := by rw [IntWalk.i64_in _ (by omega)]; omega
          have e3 : IntKind.i64.wrap (im.hdr : Int) = (im.hdr : Int) := IntWalk.i64_in _ (by omega)
          have k1 : decide ((im.check : Int) < 64) = false := by simp; omega
          have k1n : decide (im.check < 64) = false := by simp; omega
          have k2 : decide ((im.dir : Int) < (c4 : Int)) = false := by simp; omega
          have k2n : decide (im.dir < c4) = false := by simp; omega
          have k3 : decide ((im.hdr : Int) < (d8 : Int)) = false := by simp; omega
          have k3n : decide (im.hdr < d8) = false := by simp; omega
          have k4 : decide ((n : Int) < (im.hdr : Int)) = false := by simp; omega
          have k4n : decide (n < im.hdr) = false := by simp; omega
          have k5 : decide ((96 : Int) < (im.secs.length : Int)) = false := by simp; omega
          have k5n : decide (96 < im.secs.length) = false := by simp; omega
          have k6 : decide ((8 : Int) < (im.sigs.length : Int)) = false := by simp; omega
          have k6n : decide (8 < im.sigs.length) = false := by simp; omega
          have hsm := HSM2.out
          have hq34 := Q34.out
          have hll := HL.out
          rcases P11.out with ⟨h1, h2, h3⟩ | ⟨h1, h2, h3, h4, h5⟩
          · have l1 : ((im.length : Int) == 0) = true := by rw [h1]; rfl
            have l2 : ((im.table : Int) == 0) = true := by rw [h2]; rfl
            have l3 : ((im.sigs.length : Int) == 0) = true := by rw [h3]; rfl
            clear h1 h2 h3 hc4 hd8 hsm hq34 hll p5 p6 p7 p8
            go_wp2_with (first
              | (go_at_call 12; (with_reducible refine (works_any _ (HS.out.below' b9)).mono ?_); rintro e w9 ⟨rfl, hb9⟩; have HB9 := Lib.hid (kp_call b9 hb9); clear hb9))
            go_ret
            exact ⟨rfl, HB9.out⟩
          · have l1 : ((im.length : Int) == 0) = false := by simp; omega
            have l2 : decide ((s : Int) ≤ (im.table : Int)) = true := by simp; omega
            have l2n : decide (s ≤ im.table) = true := by simp; omega
            have l3 : (im.table : Int).tmod 8 = 0 := by rw [Int.tmod_eq_emod_of_nonneg (by omega)]; omega
            have l4 : IntKind.i64.wrap (im.table : Int) = (im.table : Int) := IntWalk.i64_in _ (by omega)
            have l5 : IntKind.i64.wrap (im.length : Int) = (im.length : Int) := IntWalk.i64_in _ (by omega)
            have l6 : IntKind.i64.wrap ((im.table : Int) + (im.length : Int)) = (n : Int) := by rw [IntWalk.i64_in _ (by omega)]; omega
            have l7 : decide ((0 : Int) < (im.sigs.length : Int)) = true := by simp; omega
            have l7n : decide (0 < im.sigs.length) = true := by simp; omega
            clear h1 h2 h3 h4 h5 hc4 hd8 hsm hq34 hll p5 p6 p7 p8
            go_wp2_with (first
              | (go_at_call 12; (with_reducible refine (works_any _ (HS.out.below' b9)).mono ?_); rintro e w9 ⟨rfl, hb9⟩; have HB9 := Lib.hid (kp_call b9 hb9); clear hb9))
            go_ret
            exact ⟨rfl, HB9.out⟩
theorem parts_row (A : Option Addr) (n c : Nat) (bs : List UInt8) (w : World) (h : IsBs w A n c bs) (hT : Sizes w) :
    Calls Tryd.prog 5 #[.slice A n c] w fun e w' => e = .returned (.bool true) ∧ Below w.heap.size w w' := by
  by_cases hn : 16384 < n
  · exact parts_big A n c w hT hn
  have hm := h.max
  unfold maxLen at hm
  cases hp : parseQ bs with
  | inl er => exact parts_err A n c bs w h.rb hT h.le (by omega) (by omega) er hp
  | inr im => exact parts_ok A n c bs w h.rb hT h.le (by omega) (by omega) im hp
end Go.Proofs.YtjfpiidofbjdhaaDoor
