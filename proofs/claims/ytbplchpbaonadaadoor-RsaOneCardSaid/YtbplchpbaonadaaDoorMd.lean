/-
  mont: reduced.
-/
import Derived.Test.YtbplchpbaonadaaDoorMc
import Derived.StillTailTactics
namespace Go.Proofs.YtbplchpbaonadaaDoor
open Go.RowKit Go
set_option linter.unusedVariables false
set_option linter.unusedSimpArgs false
set_option maxRecDepth 100000
/-- What a cut product answers. -/
def RedPost (w : World) (m x y : Nat) (e : Ending) (w' : World) : Prop :=
  ∃ G Z, e = .returned (.slice (some ⟨G, 0, none⟩) (limbsN m) (limbsN m)) ∧ w.heap.size ≤ G ∧ BlkU w' G Z ∧ Z.length = limbsN m ∧ Lim Z ∧ Red m (4294967296 ^ limbsN m) x y (val Z) ∧ Below w.heap.size w w'
theorem shifted (Z : List Nat) (n1 : Nat) (lZ : Lim Z) (h : Z.length = n1 + 1) (h0 : val Z % 4294967296 = 0) :
    (splice Z 0 (Z.drop 1)).length = n1 + 1 ∧ Lim ((splice Z 0 (Z.drop 1)).set n1 0) ∧ val ((splice Z 0 (Z.drop 1)).set n1 0) * 4294967296 = val Z := by
  have e : splice Z 0 (Z.drop 1) = Z.drop 1 ++ Z.drop n1 := by
    unfold splice
    simp [h]
  have hl : (Z.drop 1).length = n1 := by rw [List.length_drop]; omega
  have e2 : (Z.drop 1 ++ Z.drop n1).set n1 0 = Z.drop 1 ++ [0] := by
    obtain ⟨z, hz⟩ : ∃ z, Z.drop n1 = [z] := by
      have h1 : (Z.drop n1).length = 1 := by rw [List.length_drop]; omega
      match hq : Z.drop n1 with
      | [] => rw [hq] at h1; simp at h1
      | [z] => exact ⟨z, rfl⟩
      | a :: b :: l => rw [hq] at h1; simp at h1
    rw [hz, List.set_append_right _ _ (by omega), hl, Nat.sub_self]
    rfl
  rw [e, e2]
  refine ⟨by rw [List.length_append, hl, List.length_drop]; omega, (lZ.drop 1).append (Lim.cons (by decide) Lim.nil), ?_⟩
  rw [val_append, show val [0] = 0 from rfl, Nat.mul_zero, Nat.add_zero, drop_digit lZ, Nat.pow_one]
  omega
theorem cut_room {m y S n d : Nat} (hm : m < 4294967296 ^ n) (hy : y < m) (hS : S < m + y) (hd : d < 4294967296) (q : Nat) (hq : q < 4294967296) : S + d * y < 4294967296 ^ (n + 2) ∧ S + d * y + q * m < 4294967296 ^ (n + 2) := by
  have h1 : d * y ≤ 4294967295 * y := Nat.mul_le_mul_right _ (by omega)
  have h2 : q * m ≤ 4294967295 * m := Nat.mul_le_mul_right _ (by omega)
  have h3 : 4294967296 ^ (n + 2) = 4294967296 ^ n * 18446744073709551616 := by rw [Nat.pow_add]
  rw [h3]
  generalize d * y = z1 at *
  generalize q * m = z2 at *
  generalize 4294967296 ^ n = T at *
  omega
theorem limbs_le {v m : Nat} (h : v < m) : (num v).length ≤ limbsN m := (num_len v _).2 (Nat.lt_trans h (lt_limbs m))
set_option maxHeartbeats 16000000 in
theorem reduced_any (g m : Nat) (A B : Option Addr) (n c d : Nat) (x y : List Nat) (w : World) (hM : MD w g m) (hA : RU w A n x) (hB : RU w B n y) (hnm : n = limbsN m) (hy : val y < m) :
    Calls Tryd.prog 46 #[.pointer (some ⟨g, 0, none⟩), .slice A n c, .slice B n d] w (RedPost w m (val x) (val y)) := by
  have HM := Lib.hid hM
  obtain ⟨⟨M, nm, cm, Q, k2, d2, hn, h1, h2, h3, h4, h5, h6⟩, hi⟩ := hM
  obtain rfl : n = nm := hnm.trans hn.symm
  have hl := hi.len
  rw [← hn] at hl
  have hpos := hi.pos
  rw [← hn] at hpos
  obtain ⟨c1, cI, _⟩ := cells_3 h1
  have HA := Lib.hid hA
  have HB := Lib.hid hB
  have HMM := Lib.hid h2
  have hlt := lt_limbs m
  rw [← hn] at hlt
  have h3m := hi.three
  have HO := Lib.hid (neg_right (m % 4294967296) (by have := hi.odd; omega))
  obtain ⟨iv, hiv⟩ : ∃ iv, negQ (m % 4294967296) = iv := ⟨_, rfl⟩
  rw [hiv] at HO cI
  have HNM := Lib.hid hnm
  have HIS := Lib.hid hi
  obtain ⟨N, hN⟩ : ∃ N, n + 2 = N := ⟨_, rfl⟩
  obtain ⟨n1, hn1⟩ : ∃ n1, n + 1 = n1 := ⟨_, rfl⟩
  have e1 : IntKind.i64.wrap ((n : Int) + 2) = (N : Int) := by rw [show (n : Int) + 2 = N by omega]; exact IntWalk.i64_in _ (by omega)
  have e2 : IntKind.i64.wrap ((n : Int) + 1) = (n1 : Int) := by rw [show (n : Int) + 1 = n1 by omega]; exact IntWalk.i64_in _ (by omega)
  have hN3 : N ≤ 130 := by omega
  have hnN : n < N := by omega
  have HN := Lib.hid (And.intro hN hn1)
  have HLT := Lib.hid hlt
  have hgw := block_lt h1
  have HC := Lib.hid (And.intro c1 cI)
  clear h2 h3 h4 h5 h6 h1 hA hB hi hlt hiv hN hn1 hn cI hnm
  go_enter Tryd.func46, Tryd.ntmps46
  go_wp2_with (refine wpList_mkU _ _ rfl rfl _ _ _ _ N rfl rfl rfl rfl (by omega) ?_)
  intro w1 hblk hb1
  obtain ⟨K, hK⟩ : ∃ K, w.heap.size = K := ⟨_, rfl⟩
  have hwK : w.heap.size ≤ K := by omega
  rw [hK] at hblk ⊢
  have H1 : Hid (BlkU w1 K (List.replicate N 0) ∧ Cut m (val y) 0 0 (val (List.replicate N 0)) ∧ Below w.heap.size w w1) := ⟨hblk, by rw [val_zero]; exact Cut.start _ _ (by omega), hb1⟩
  clear hblk hb1 hK c1
  go_wp2
  go_loopw [22] (fun vi wl => ∃ (i : Nat) (Z : List Nat), vi = .int .i64 (i : Int) ∧ i ≤ n ∧ Hid (BlkU wl K Z ∧ Z.length = N ∧ Lim Z ∧ Cut m (val y) i (val (x.take i)) (val Z) ∧ Below w.heap.size w wl)) (fun vi _ => n - (intOf vi).toNat)
  case atStart => exact ⟨0, List.replicate N 0, rfl, Nat.zero_le _, H1.out.1, by simp, Lim.rep N, H1.out.2.1, H1.out.2.2⟩
  case round =>
    obtain ⟨i, Z, rfl, hi, HK⟩ := hrel
    clear H1
    by_cases hlt : i < n
    · as_aux_lemma =>
      have i1 : (i : Int) < (n : Int) := by omega
      have i2 : (0 : Int) ≤ (i : Int) := by omega
      have e3 : IntKind.i64.wrap ((i : Int) + 1) = (i : Int) + 1 := IntWalk.i64_in _ (by omega)
      obtain ⟨f1, f2, f3, f4, f5⟩ := HK.out
      obtain ⟨bx, ox, rfl, hbx, cx⟩ := HA.out.at_ (j := i) (by omega)
      have cx1 := (f5.cell (p := ⟨bx, ox + i, none⟩) hbx).trans cx
      have hd32 := HA.out.lim.getD i
      have tx := val_take1 x i
      obtain ⟨dg, hdg⟩ : ∃ dg, x.getD i 0 = dg := ⟨_, rfl⟩
      rw [hdg] at cx1 hd32 tx
      have room := fun q hq => cut_room HLT.out hy f4.lt hd32 q hq
      rw [HN.out.1] at room
      have AT := Lib.hid (addTimes_any K N B n d dg Z y w wr f1 f2 f3 HB.out f5 hwK (by omega) (by omega) hd32 (room 0 (by decide)).1)
      have HCUT := Lib.hid f4
      have HTX := Lib.hid tx
      have HROOM := Lib.hid room
      clear f1 f2 f3 f4 f5 tx hdg cx HK room hbx
      go_wp2_with fail
      refine AT.out.mono ?_
      rintro e w4 ⟨rfl, ⟨Z2, z1, z2, z3, z4⟩, hb4⟩
      have c1 := (hb4.cell (p := ⟨g, 0, none⟩) hgw).trans HC.out.1
      have cI := (hb4.cell (p := ⟨g, 1, none⟩) hgw).trans HC.out.2
      have cz := z1.cell (j := 0) (by omega)
      have hs0 := val_digit Z2 z3 0
      rw [Nat.pow_zero, Nat.div_one] at hs0
      obtain ⟨s0, hs0e⟩ : ∃ s0, Z2.getD 0 0 = s0 := ⟨_, rfl⟩
      rw [hs0e] at cz hs0
      have hpi : (s0 : Int) * (iv : Int) = ((s0 * iv : Nat) : Int) := by push_cast; rfl
      obtain ⟨q, hq⟩ : ∃ q, s0 * iv % 4294967296 = q := ⟨_, rfl⟩
      have hq32 : q < 4294967296 := by rw [← hq]; exact Nat.mod_lt _ (by decide)
      have u1 : IntKind.u32.wrap ((s0 : Int) * (iv : Int)) = (q : Int) := by
        rw [hpi, ← hq]
        generalize s0 * iv = zz
        show (zz : Int) % 4294967296 = _
        omega
      have hlow := Cut.low (m := m) (S := val Z) (d := dg) (y := val y) (q := q) (s0 := s0) (iv := iv) (by
        have h9 := HO.out.1
        rw [Nat.mod_mul_mod] at h9 ⊢
        exact h9) (by rw [← z4]; exact hs0.symm) hq
      have AT2 := Lib.hid (addTimes_any K N M n cm q Z2 (num m) w w4.drew z1.drew z2 z3 HMM.out hb4.drew hwK (by omega) (by omega) hq32 (by rw [z4, val_num]; exact (HROOM.out q hq32).2))
      have HZ4 := Lib.hid z4
      have HLOW := Lib.hid hlow
      have j1 : (0 : Int) < (N : Int) := by omega
      have j0 : 0 < N := by omega
      clear z1 z2 z3 z4 hb4 hs0 hs0e hpi hq hlow AT cx1
      go_wp2
      refine wp_region_still_tail 13 (by kernel_rfl) (by kernel_rfl) ?_
      simp only [List.take_succ_cons, List.take_zero, List.drop_succ_cons, List.drop_zero]
      iterate 13 still_step
      refine wpStill_nil ?_
      change wpList _ _ _ _ _ w4.drew
      go_wp2_with fail
      refine AT2.out.mono ?_
      rintro e w5 ⟨rfl, ⟨Z3, y1, y2, y3, y4⟩, hb5⟩
      rw [HZ4.out, val_num] at y4
      have hsh := shifted Z3 n1 y3 (by have := HN.out; omega) (by rw [y4]; exact HLOW.out)
      have RS := y1.ru y3 1 n1 (by have := HN.out; omega)
      rw [take_all (by rw [List.length_drop]; have := HN.out; omega)] at RS
      obtain ⟨T3, hT3⟩ : ∃ T3, Z3.drop 1 = T3 := ⟨_, rfl⟩
      rw [hT3] at RS hsh
      have RS := Lib.hid RS
      have HY := Lib.hid (show _ ∧ _ ∧ _ ∧ _ from ⟨y1, y2, y4, hb5⟩)
      have HSH := Lib.hid hsh
      have hN1 : ¬ N = 1 := by omega
      have hN2 : N - 1 = n1 := by have := HN.out; omega
      have hfit : n1 ≤ N := by have := HN.out; omega
      have hLL : n1 ≤ Z3.length := by omega
      have j2 : (1 : Int) ≤ (N : Int) := by omega
      clear y1 y2 y3 y4 hb5 hsh AT2 c1 cI cz hT3
      go_wp2_with (with_reducible refine wpList_cpyU _ _ rfl rfl K N N n1 n1 (some ⟨K, 1, none⟩) T3 Z3 rfl rfl HY.out.1 RS.out hfit hLL w.heap.size w HY.out.2.2.2 hwK ?_)
      intro w6 hk hb6
      have cz2 := hk.cell (j := n1) (by rw [HSH.out.1]; omega)
      have fz2 := hk.free n1
      have i5 : (0 : Int) ≤ (n1 : Int) := by omega
      have i6 : (n1 : Int) < (N : Int) := by have := HN.out; omega
      have HF : Hid (BlkU (w6.setCell ⟨K, n1, none⟩ (.int .u32 0)) K ((splice Z3 0 T3).set n1 0) ∧ ((splice Z3 0 T3).set n1 0).length = N ∧ Lim ((splice Z3 0 T3).set n1 0) ∧ Cut m (val y) (i + 1) (val (x.take (i + 1))) (val ((splice Z3 0 T3).set n1 0)) ∧ Below w.heap.size w (w6.setCell ⟨K, n1, none⟩ (.int .u32 0))) :=
        ⟨hk.set n1 0, by rw [List.length_set, HSH.out.1]; have := HN.out; omega, HSH.out.2.1, by rw [HTX.out]; exact HCUT.out.step hd32 hq32 (by rw [HSH.out.2.2]; exact HY.out.2.2.1), kp_set hb6 hwK⟩
      clear hk hb6 HY RS HSH HCUT HTX HZ4 HLOW
      go_wp2
      go_roundw
      case rel => exact ⟨i + 1, _, by go_num, by omega, HF⟩
      case measure => simp [intOf]; omega
    · as_aux_lemma =>
      have i1 : ¬ (i : Int) < (n : Int) := by omega
      have hin : i = n := by omega
      obtain ⟨f1, f2, f3, f4, f5⟩ := HK.out
      rw [hin, take_all (by rw [HA.out.len]; omega)] at f4
      have HRED := f4.red hy
      obtain ⟨S, hS⟩ : ∃ S, val Z = S := ⟨_, rfl⟩
      rw [hS] at HRED f4
      have hSl := f4.lt
      have hm256 : m < 4294967296 ^ 128 := Nat.lt_of_lt_of_le HLT.out (Nat.pow_le_pow_right (by decide) hl)
      have hSn : (num S).length ≤ 129 := by
        rw [num_len]
        have h9 : 4294967296 ^ 129 = 4294967296 ^ 128 * 4294967296 := Nat.pow_succ 4294967296 128
        rw [h9]
        generalize 4294967296 ^ 128 = T at *
        omega
      have hSr : rightB (num S) = true := by
        rw [num_right]; exact decide_eq_true ((num_len S 256).1 (by omega))
      have hmr : rightB (num m) = true := by
        rw [num_right]; exact decide_eq_true ((num_len m 256).1 (by have := HIS.out.len; unfold limbsN at this; omega))
      have TR := mtrim_any K N Z wr f1 f2 (by omega)
      have htk := trim_num Z f3 N (by omega)
      rw [show Z.take N = Z from take_all (by omega), hS] at htk
      have htl := trimN_le Z N
      obtain ⟨t, ht⟩ : ∃ t, trimN Z N = t := ⟨_, rfl⟩
      rw [ht] at TR htk htl
      have RZ := f1.ru f3 0 t (by omega)
      rw [List.drop_zero, htk] at RZ
      have htn : t = (num S).length := RZ.len.symm
      have CM := cmp_any (some ⟨K, 0, none⟩) M t N n cm (num S) (num m) wr RZ (HMM.out.below f5) (by omega) (by omega)
      have hcz : cmpZ (num S) (num m) = cmpV S m := by unfold cmpZ; rw [hSr, hmr, val_num, val_num]; rfl
      rw [hcz] at CM
      have c1 := (f5.cell (p := ⟨g, 0, none⟩) hgw).trans HC.out.1
      have TR := Lib.hid TR
      have RZ := Lib.hid RZ
      have HB5 := Lib.hid f5
      have HI := Lib.hid hin
      clear f1 f2 f3 f4 HK hin ht htk hS hcz
      by_cases hc : m ≤ S
      · as_aux_lemma =>
        obtain ⟨z, hz⟩ : ∃ z, cmpV S m = z := ⟨_, rfl⟩
        have hz0 : z ≥ 0 := by rw [← hz]; unfold cmpV; rw [if_neg (by omega)]; split <;> decide
        rw [hz] at CM
        have CM := Lib.hid CM
        rw [if_pos hc] at HRED
        have hsub : subQ (num S) (num m) = (num (S - m), 0) := by unfold subQ; rw [hSr, hmr, val_num, val_num, decide_eq_true hc]; rfl
        have SB := fun W (hb : Below wr.heap.size wr W) => sub_any (some ⟨K, 0, none⟩) M t N n cm (num S) (num m) W (RZ.out.below hb) (HMM.out.below (kp_call HB5.out hb)) (by omega) (by omega)
        rw [hsub] at SB
        have SB := Lib.hid SB
        have HRR := Lib.hid HRED
        have HLE := Lib.hid (limbs_le HRED.lt)
        clear hz hsub HRED hSr hmr hSn hm256 hSl htn htl hc f5
        go_wp2_with fail
        refine TR.out.mono ?_
        rintro e w' ⟨rfl, rfl⟩
        clear TR
        go_wp2_with fail
        refine CM.out.mono ?_
        rintro e w7 ⟨rfl, hb7⟩
        have HB7 := Lib.hid hb7
        have c1 := (hb7.cell (p := ⟨g, 0, none⟩) (World.block_lt_of_cell? _ _ c1)).trans c1
        clear CM hb7
        go_wp2_with fail
        refine (SB.out _ HB7.out).mono ?_
        rintro e w8 ⟨A8, n8, c8, rfl, s8, l8, m8, q8, hb8⟩
        have HB8 := Lib.hid (kp_call (kp_call HB5.out HB7.out) hb8)
        have R8 := Lib.hid s8.ru
        have hn8 : n8 ≤ limbsN m := by rw [← s8.ru.len]; exact HLE.out
        clear SB s8 hb8 HB7 c1
        go_wp2_with fail
        refine (padded_any g m A8 n8 c8 (num (S - m)) w8 (HM.out.below HB8.out) R8.out hn8).mono ?_
        rintro e w9 ⟨Z9, rfl, p1, p2, p3, p4, hb9⟩
        rw [val_num] at p4
        have HP : Hid (RedPost w m (val x) (val y) (.returned (.slice (some ⟨w8.heap.size, 0, none⟩) (limbsN m) (limbsN m))) w9) := ⟨_, Z9, rfl, HB8.out.size, p1, p2, p3, by rw [p4, ← HNM.out]; exact HRR.out, kp_call HB8.out hb9⟩
        clear p1 p2 p3 p4 hb9
        go_wp2
        go_ret
        exact HP.out
      · as_aux_lemma =>
        have hz : cmpV S m = -1 := by unfold cmpV; rw [if_pos (by omega)]
        rw [hz] at CM
        have CM := Lib.hid CM
        rw [if_neg hc] at HRED
        have HRR := Lib.hid HRED
        have hn8 : t ≤ limbsN m := by rw [htn]; exact limbs_le HRED.lt
        clear hz HRED hSr hmr hSn hm256 hSl htn htl hc f5
        go_wp2_with fail
        refine TR.out.mono ?_
        rintro e w' ⟨rfl, rfl⟩
        clear TR
        go_wp2_with fail
        refine CM.out.mono ?_
        rintro e w7 ⟨rfl, hb7⟩
        have HB7 := Lib.hid hb7
        have HB8 := Lib.hid (kp_call HB5.out hb7)
        clear CM hb7 c1
        go_wp2_with fail
        refine (padded_any g m (some ⟨K, 0, none⟩) t N (num S) w7 (HM.out.below HB8.out) (RZ.out.below HB7.out) hn8).mono ?_
        rintro e w9 ⟨Z9, rfl, p1, p2, p3, p4, hb9⟩
        rw [val_num] at p4
        have HP : Hid (RedPost w m (val x) (val y) (.returned (.slice (some ⟨w7.heap.size, 0, none⟩) (limbsN m) (limbsN m))) w9) := ⟨_, Z9, rfl, HB8.out.size, p1, p2, p3, by rw [p4, ← HNM.out]; exact HRR.out, kp_call HB8.out hb9⟩
        clear p1 p2 p3 p4 hb9
        go_wp2
        go_ret
        exact HP.out
end Go.Proofs.YtbplchpbaonadaaDoor
