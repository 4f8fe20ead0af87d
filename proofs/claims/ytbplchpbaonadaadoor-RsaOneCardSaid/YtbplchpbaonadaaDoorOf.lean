/-
  nat: the document's own: mul, Mul.
-/
import Derived.Test.YtbplchpbaonadaaDoorOe
namespace Go.Proofs.YtbplchpbaonadaaDoor
open Go.RowKit Go
set_option linter.unusedVariables false
set_option linter.unusedSimpArgs false
set_option maxRecDepth 100000
set_option maxHeartbeats 8000000 in
theorem dmul_any (A B : Option Addr) (n c m d : Nat) (x y : List Nat) (w : World) (hA : RU w A n x) (hB : RU w B m y) (hn : n ≤ 300) (hm : m ≤ 300) :
    Calls Tryd.prog 57 #[.slice A n c, .slice B m d] w (BriefPost w 1000 (val x * val y)) := by
  have HA := Lib.hid hA
  have HB := Lib.hid hB
  obtain ⟨N, hN⟩ : ∃ N, n + m = N := ⟨_, rfl⟩
  have e1 : IntKind.i64.wrap ((n : Int) + (m : Int)) = (N : Int) := by rw [show (n : Int) + m = N by omega]; exact IntWalk.i64_in _ (by omega)
  have hN6 : N ≤ 600 := by omega
  have HNM := Lib.hid hN
  clear hA hB hN
  go_enter Tryd.func57, Tryd.ntmps57
  go_wp2_with (refine wpList_mkU _ _ rfl rfl _ _ _ _ N rfl rfl rfl rfl (by omega) ?_)
  intro w1 hblk hb1
  obtain ⟨G, hG⟩ : ∃ G, w.heap.size = G := ⟨_, rfl⟩
  have hwG : w.heap.size ≤ G := by omega
  rw [hG] at hblk ⊢
  have H1 : Hid (BlkU w1 G (List.replicate N 0) ∧ Below w.heap.size w w1) := ⟨hblk, hb1⟩
  clear hblk hb1 hG
  go_wp2
  go_loopw [6] (fun vi wl => ∃ (i : Nat) (Z : List Nat), vi = .int .i64 (i : Int) ∧ i ≤ n ∧ Hid (BlkU wl G Z ∧ Z.length = N ∧ Lim Z ∧ val Z = val (x.take i) * val y ∧ Below w.heap.size w wl)) (fun vi _ => n - (intOf vi).toNat)
  case atStart => exact ⟨0, List.replicate N 0, rfl, Nat.zero_le _, H1.out.1, by simp, Lim.rep N, by simp [val, val_zero], H1.out.2⟩
  case round =>
    obtain ⟨i, Z, rfl, hi, HK⟩ := hrel
    clear H1
    by_cases hlt : i < n
    · as_aux_lemma =>
      have i1 : (i : Int) < (n : Int) := by omega
      have i2 : (0 : Int) ≤ (i : Int) := by omega
      have e3 : IntKind.i64.wrap ((i : Int) + 1) = (i : Int) + 1 := IntWalk.i64_in _ (by omega)
      obtain ⟨s1, hs1⟩ : ∃ s1, i + m = s1 := ⟨_, rfl⟩
      have e4 : IntKind.i64.wrap ((i : Int) + (m : Int)) = (s1 : Int) := by rw [show (i : Int) + m = s1 by omega]; exact IntWalk.i64_in _ (by omega)
      have hnm := HNM.out
      have hs1c : s1 < N := by omega
      have i5 : (0 : Int) ≤ (s1 : Int) := by omega
      have i6 : (s1 : Int) < (N : Int) := by omega
      obtain ⟨f1, f2, f3, f4, f5⟩ := HK.out
      obtain ⟨bx, ox, rfl, hbx, cx⟩ := HA.out.at_ (j := i) (by omega)
      have hf := HA.out.lim.getD i
      have tx := val_take1 x i
      obtain ⟨f, hfe⟩ : ∃ f, x.getD i 0 = f := ⟨_, rfl⟩
      rw [hfe] at cx hf tx
      have HTX := Lib.hid tx
      have HCX := Lib.hid (And.intro hbx cx)
      have hZ0 : Z.getD s1 0 = 0 := by
        have hxl := val_take_lt HA.out.lim i
        have hyl := val_lt y HB.out.lim
        rw [HB.out.len] at hyl
        have hlt2 : val Z < 4294967296 ^ s1 := by
          rw [f4, ← hs1, Nat.pow_add]
          exact Nat.mul_lt_mul'' hxl hyl
        rw [val_digit Z f3, Nat.div_eq_of_lt hlt2]
      have HS := Lib.hid hs1
      have H2 : Hid (BlkU wr G Z ∧ Below w.heap.size w wr) := ⟨f1, f5⟩
      have HZ := Lib.hid (show _ ∧ _ ∧ _ ∧ _ from ⟨f2, f3, f4, hZ0⟩)
      clear f1 f2 f3 f4 f5 hZ0 HK tx hfe hs1 hnm cx hbx
      go_wp2
      go_loopw [7, 8] (fun vc vj wl => ∃ (j : Nat) (Z2 : List Nat) (cy : Nat), vc = .int .u64 (cy : Int) ∧ vj = .int .i64 (j : Int) ∧ j ≤ m ∧ cy < 4294967296 ∧ Hid (BlkU wl G Z2 ∧ Z2.length = N ∧ Lim Z2 ∧ val Z2 + cy * 4294967296 ^ (i + j) = val Z + f * val (y.take j) * 4294967296 ^ i ∧ Z2.getD s1 0 = 0 ∧ Below w.heap.size w wl)) (fun _ vj _ => m - (intOf vj).toNat)
      case atStart => exact ⟨0, Z, 0, rfl, rfl, Nat.zero_le _, by decide, H2.out.1, HZ.out.1, HZ.out.2.1, by simp [val], HZ.out.2.2.2, H2.out.2⟩
      case round =>
        obtain ⟨j, Z2, cy, rfl, rfl, hj, hcy, HJ⟩ := hrel
        clear H2
        by_cases hjm : j < m
        · as_aux_lemma =>
          have j1 : (j : Int) < (m : Int) := by omega
          have j2 : (0 : Int) ≤ (j : Int) := by omega
          have e7 : IntKind.i64.wrap ((j : Int) + 1) = (j : Int) + 1 := IntWalk.i64_in _ (by omega)
          obtain ⟨ij, hij⟩ : ∃ ij, i + j = ij := ⟨_, rfl⟩
          have e8 : IntKind.i64.wrap ((i : Int) + (j : Int)) = (ij : Int) := by rw [show (i : Int) + j = ij by omega]; exact IntWalk.i64_in _ (by omega)
          obtain ⟨f1, f2, f3, f7, f8, f9⟩ := HJ.out
          have hs1 := HS.out
          have i7 : (0 : Int) ≤ (ij : Int) := by omega
          have i8 : (ij : Int) < (N : Int) := by omega
          obtain ⟨by_, oy, rfl, hby, cy0⟩ := HB.out.at_ (j := j) (by omega)
          have cy1 := (f9.cell (p := ⟨by_, oy + j, none⟩) hby).trans cy0
          have cx1 := (f9.cell (p := ⟨bx, ox + i, none⟩) HCX.out.1).trans HCX.out.2
          have hlen : ij < Z2.length := by omega
          have cz1 := f1.cell (j := ij) hlen
          have hy32 := HB.out.lim.getD j
          have ty := val_take1 y j
          have ha := f3.getD ij
          have hvs := fun r => val_set Z2 ij r hlen
          have hfar := fun r => getD_set_far Z2 ij s1 r (by omega)
          obtain ⟨q0, hq0⟩ : ∃ q0, y.getD j 0 = q0 := ⟨_, rfl⟩
          obtain ⟨a, hae⟩ : ∃ a, Z2.getD ij 0 = a := ⟨_, rfl⟩
          rw [hq0] at cy1 hy32 ty
          rw [hae] at cz1 ha hvs
          have hpl : f * q0 ≤ 4294967295 * 4294967295 := Nat.mul_le_mul (by omega) (by omega)
          have hpi : (f : Int) * (q0 : Int) = ((f * q0 : Nat) : Int) := by push_cast; rfl
          have hpc : q0 * f = f * q0 := Nat.mul_comm _ _
          obtain ⟨pp, hpp⟩ : ∃ pp, f * q0 = pp := ⟨_, rfl⟩
          rw [hpp] at hpl hpi hpc
          obtain ⟨pa, hpa⟩ : ∃ pa, pp + a = pa := ⟨_, rfl⟩
          obtain ⟨s, hs⟩ : ∃ s, pa + cy = s := ⟨_, rfl⟩
          have u1 : IntKind.u64.wrap ((f : Int) * (q0 : Int)) = (pp : Int) := by rw [hpi]; exact IntWalk.u64_in _ (by omega)
          have u2 : IntKind.u64.wrap ((pp : Int) + (a : Int)) = (pa : Int) := by rw [show (pp : Int) + a = pa by omega]; exact IntWalk.u64_in _ (by omega)
          have u3 : IntKind.u64.wrap ((pa : Int) + (cy : Int)) = (s : Int) := by rw [show (pa : Int) + cy = s by omega]; exact IntWalk.u64_in _ (by omega)
          have hsl : s < 18446744073709551616 := by omega
          have um := and_mask s hsl
          obtain ⟨r, hr⟩ : ∃ r, s % 4294967296 = r := ⟨_, rfl⟩
          obtain ⟨q, hq⟩ : ∃ q, s / 4294967296 = q := ⟨_, rfl⟩
          rw [hr] at um
          have hrq : r + q * 4294967296 = a + q0 * f + cy := by rw [hpc]; omega
          have hr32 : r < 4294967296 := by omega
          have hq32 : q < 4294967296 := by omega
          have u4 : (r : Int) % 4294967296 = (r : Int) := by omega
          have u5 : (s : Int) / 4294967296 = (q : Int) := by omega
          have HV := Lib.hid (show val (Z2.set ij r) + q * 4294967296 ^ (i + (j + 1)) = val Z + f * val (y.take (j + 1)) * 4294967296 ^ i by
            rw [← Nat.add_assoc, Nat.pow_succ, ty, Nat.mul_add, Nat.add_mul]
            rw [← hij] at hvs ⊢
            have h1 := mulin_step _ _ f a q r q0 cy _ _ _ (hvs r) f7 hrq
            rw [h1, Nat.pow_add, ← Nat.mul_assoc f q0, ← Nat.mul_assoc, Nat.mul_assoc (f * q0), Nat.mul_assoc (f * q0), Nat.mul_comm (4294967296 ^ j)])
          have HF8 := Lib.hid ((hfar r).trans f8)
          have HN : Hid (∀ k, BlkU ((wr.drewN k).setCell ⟨G, ij, none⟩ (.int .u32 (r : Int))) G (Z2.set ij r) ∧ (Z2.set ij r).length = N ∧ Lim (Z2.set ij r) ∧ val (Z2.set ij r) + q * 4294967296 ^ (i + (j + 1)) = val Z + f * val (y.take (j + 1)) * 4294967296 ^ i ∧ (Z2.set ij r).getD s1 0 = 0 ∧ Below w.heap.size w ((wr.drewN k).setCell ⟨G, ij, none⟩ (.int .u32 (r : Int)))) := fun k =>
            ⟨(f1.drewN k).set ij r, by rw [List.length_set]; exact f2, f3.set ij hr32, HV.out, HF8.out, kp_set (kp_drewN f9 k) hwG⟩
          have CE : Hid (∀ k, (wr.drewN k).cell? ⟨G, ij, none⟩ = some (.int .u32 (a : Int)) ∧ (wr.drewN k).frozen? ⟨G, ij, none⟩ = false) := fun k => ⟨cz1, (f1.drewN k).free ij⟩
          clear f1 f2 f3 f7 f8 f9 ty hvs hfar hq0 hae hpi hpc hpp hpa hs hr hq hrq cy0 HJ HV HF8 hs1 hij hpl
          go_wp2_with fail
          go_quiet (fail)
          rename_i nq
          obtain ⟨g1, g2⟩ := CE.out nq
          have HNN := Lib.hid (HN.out nq)
          clear HN CE cz1 cx1 cy1
          generalize wr.drewN nq = wq at *
          go_wp2
          go_roundw
          case rel => exact ⟨j + 1, _, q, rfl, by go_num, by omega, hq32, HNN⟩
          case measure => simp [intOf]; omega
        · as_aux_lemma =>
          have j1 : ¬ (j : Int) < (m : Int) := by omega
          obtain rfl : j = m := by omega
          obtain ⟨f1, f2, f3, f7, f8, f9⟩ := HJ.out
          have h1 := HS.out
          rw [take_all (by rw [HB.out.len]; omega), h1] at f7
          have hlen : s1 < Z2.length := by omega
          have c1 := f1.cell (j := s1) hlen
          have c2 := f1.free s1
          have hv := val_set Z2 s1 cy hlen
          rw [f8, Nat.zero_mul, Nat.add_zero, f7] at hv
          have HV : val (Z2.set s1 cy) = val (x.take (i + 1)) * val y := by
            rw [hv, HTX.out, Nat.add_mul, HZ.out.2.2.1, Nat.mul_assoc f, Nat.mul_comm (val y), ← Nat.mul_assoc]
          have u4 : (cy : Int) % 4294967296 = (cy : Int) := by omega
          have HN : Hid (BlkU (wr.setCell ⟨G, s1, none⟩ (.int .u32 (cy : Int))) G (Z2.set s1 cy) ∧ (Z2.set s1 cy).length = N ∧ Lim (Z2.set s1 cy) ∧ val (Z2.set s1 cy) = val (x.take (i + 1)) * val y ∧ Below w.heap.size w (wr.setCell ⟨G, s1, none⟩ (.int .u32 (cy : Int)))) :=
            ⟨f1.set s1 cy, by rw [List.length_set]; exact f2, f3.set s1 hcy, HV, kp_set f9 hwG⟩
          clear f1 f2 f3 f7 f8 f9 hv h1 HV HJ
          go_wp2
          go_roundw
          case rel => exact ⟨i + 1, _, by go_num, by omega, HN⟩
          case measure => simp [intOf]; omega
    · as_aux_lemma =>
      have i1 : ¬ (i : Int) < (n : Int) := by omega
      have hiN : i = n := by omega
      obtain ⟨f1, f2, f3, f4, f5⟩ := HK.out
      rw [hiN, take_all (by rw [HA.out.len]; omega)] at f4
      have RZ := f1.ru f3 0 N (by omega)
      rw [List.drop_zero, take_all (by omega)] at RZ
      have TR := dtrim_any (some ⟨G, 0, none⟩) N N Z wr RZ (Nat.le_refl _) (by omega) (by omega)
      rw [f4] at TR
      have TR := Lib.hid TR
      have F5 := Lib.hid f5
      have HI := Lib.hid hiN
      clear f1 f2 f3 f4 f5 HK hiN RZ
      go_wp2_with fail
      refine TR.out.mono ?_
      rintro e w9 ⟨A9, k9, d9, rfl, r9, l9, m9, p9, hb9⟩
      have HF := Lib.hid (show _ ∧ _ from ⟨r9, kp_call F5.out hb9⟩)
      clear TR r9 hb9 F5
      go_wp2
      go_ret
      exact ⟨A9, k9, d9, rfl, HF.out.1, by omega, m9, p9, HF.out.2⟩
set_option maxHeartbeats 4000000 in
theorem dMul_any (A B : Option Addr) (n c m d : Nat) (x y : List Nat) (w : World) (hA : RU w A n x) (hB : RU w B m y) (hn : n ≤ 300) (hm : m ≤ 300) (hc : n ≤ c ∧ c ≤ 9223372036854775807) (hd : m ≤ d ∧ d ≤ 9223372036854775807) :
    Calls Tryd.prog 34 #[.slice A n c, .slice B m d] w (NumD w (mulQ x y)) := by
  have RA := Lib.hid (dright_any A n c x w hA (by omega))
  have RB := Lib.hid (dright_any B m d y w hB (by omega))
  have HA := Lib.hid hA
  have HB := Lib.hid hB
  cases hr : rightB x with
  | false =>
    rw [show mulQ x y = ([], 1) by unfold mulQ; rw [hr]; rfl]
    rw [hr] at RA
    clear hr hA hB
    go_enter Tryd.func34, Tryd.ntmps34
    go_wp2_with fail
    refine RA.out.mono ?_
    rintro e w' ⟨rfl, rfl⟩
    clear RA
    go_wp2
    go_ret2
    exact NumD.err rfl (Below.refl _ _)
  | true =>
    cases hs : rightB y with
    | false =>
      rw [show mulQ x y = ([], 1) by unfold mulQ; rw [hr, hs]; rfl]
      rw [hr] at RA
      rw [hs] at RB
      clear hr hs hA hB
      go_enter Tryd.func34, Tryd.ntmps34
      go_wp2_with fail
      refine RA.out.mono ?_
      rintro e w' ⟨rfl, rfl⟩
      clear RA
      go_wp2_with fail
      refine RB.out.mono ?_
      rintro e w' ⟨rfl, rfl⟩
      clear RB
      go_wp2
      go_ret2
      exact NumD.err rfl (Below.refl _ _)
    | true =>
      rw [show mulQ x y = fitQ (val x * val y) by unfold mulQ; rw [hr, hs]; rfl]
      have CM := dmul_any A B n c m d x y w hA hB hn hm
      obtain ⟨v, hv⟩ : ∃ v, val x * val y = v := ⟨_, rfl⟩
      rw [hv] at CM ⊢
      have CM := Lib.hid CM
      rw [hr] at RA
      rw [hs] at RB
      clear hr hs hA hB hv
      go_enter Tryd.func34, Tryd.ntmps34
      go_wp2_with fail
      refine RA.out.mono ?_
      rintro e w' ⟨rfl, rfl⟩
      clear RA
      go_wp2_with fail
      refine RB.out.mono ?_
      rintro e w' ⟨rfl, rfl⟩
      clear RB
      go_wp2_with fail
      refine CM.out.mono ?_
      rintro e w1 ⟨A1, k1, d1, rfl, r1, l1, m1, p1, hb⟩
      have HB1 := Lib.hid hb
      have FT := Lib.hid (dfits_any A1 k1 d1 v w1 r1 m1 p1)
      clear hb CM r1
      go_wp2_with fail
      refine FT.out.mono ?_
      rintro e w2 hp
      obtain ⟨A2, n2, c2, he, hrest⟩ := hp.move HB1.out
      obtain ⟨ev, hev⟩ : ∃ ev, (fitQ v).2 = ev := ⟨_, rfl⟩
      rw [hev] at he
      subst he
      have HP := Lib.hid hrest
      have HE := Lib.hid hev
      clear hrest hev FT hp
      go_wp2
      go_ret2
      exact ⟨A2, n2, c2, by rw [HE.out]; rfl, HP.out⟩
end Go.Proofs.YtbplchpbaonadaaDoor
