/-
  nat: Mul.
-/
import Derived.Test.YtbplchpbaonadaaDoorNi
namespace Go.Proofs.YtbplchpbaonadaaDoor
open Go.RowKit Go
set_option linter.unusedVariables false
set_option linter.unusedSimpArgs false
set_option maxRecDepth 100000
def mulQ (x y : List Nat) : List Nat × Nat := if rightB x && rightB y then fitQ (val x * val y) else ([], 1)
theorem mulin_step (V Z2 f a q r y c T W R : Nat) (hs : Z2 + a * T = V + r * T) (h : V + c * T = W + R) (he : r + q * 4294967296 = a + y * f + c) : Z2 + q * (T * 4294967296) = W + (R + f * y * T) := by
  have e1 : (r + q * 4294967296) * T = (a + y * f + c) * T := by rw [he]
  rw [Nat.add_mul, Nat.add_mul, Nat.add_mul, Nat.mul_assoc q, Nat.mul_comm y f] at e1
  rw [Nat.mul_comm T 4294967296]
  generalize q * (4294967296 * T) = z1 at *
  generalize f * y * T = z2 at *
  generalize a * T = z3 at *
  generalize c * T = z4 at *
  generalize r * T = z5 at *
  omega
set_option maxHeartbeats 8000000 in
theorem mul_any (A B : Option Addr) (n c m d : Nat) (x y : List Nat) (w : World) (hA : RU w A n x) (hB : RU w B m y) (hn : n ≤ 300) (hm : m ≤ 300) :
    Calls Tryd.prog 42 #[.slice A n c, .slice B m d] w (NumR w (mulQ x y)) := by
  have RA := Lib.hid (right_any A n c x w hA (by omega))
  have RB := Lib.hid (right_any B m d y w hB (by omega))
  have HA := Lib.hid hA
  have HB := Lib.hid hB
  cases hr : rightB x with
  | false =>
    rw [show mulQ x y = ([], 1) by unfold mulQ; rw [hr]; rfl]
    rw [hr] at RA
    clear hr hA hB
    go_enter Tryd.func42, Tryd.ntmps42
    go_wp2_with fail
    refine RA.out.mono ?_
    rintro e w' ⟨rfl, rfl⟩
    clear RA
    go_wp2
    go_ret2
    exact NumR.err rfl (Below.refl _ _)
  | true =>
    cases hs : rightB y with
    | false =>
      rw [show mulQ x y = ([], 1) by unfold mulQ; rw [hr, hs]; rfl]
      rw [hr] at RA
      rw [hs] at RB
      clear hr hs hA hB
      go_enter Tryd.func42, Tryd.ntmps42
      go_wp2_with fail
      refine RA.out.mono ?_
      rintro e w' ⟨rfl, rfl⟩
      clear RA
      go_wp2_with fail
      refine RB.out.mono ?_
      rintro e w' ⟨rfl, rfl⟩
      clear RB
      go_wp2
      go_ret2
      exact NumR.err rfl (Below.refl _ _)
    | true =>
      rw [show mulQ x y = fitQ (val x * val y) by unfold mulQ; rw [hr, hs]; rfl]
      rw [hr] at RA
      rw [hs] at RB
      obtain ⟨N, hN⟩ : ∃ N, n + m = N := ⟨_, rfl⟩
      have e1 : IntKind.i64.wrap ((n : Int) + (m : Int)) = (N : Int) := by rw [show (n : Int) + m = N by omega]; exact IntWalk.i64_in _ (by omega)
      have hN6 : N ≤ 600 := by omega
      have HNM := Lib.hid hN
      clear hr hs hA hB hN
      go_enter Tryd.func42, Tryd.ntmps42
      go_wp2_with fail
      refine RA.out.mono ?_
      rintro e w' ⟨rfl, rfl⟩
      clear RA
      go_wp2_with fail
      refine RB.out.mono ?_
      rintro e w' ⟨rfl, rfl⟩
      clear RB
      go_wp2_with (refine wpList_mkU _ _ rfl rfl _ _ _ _ N rfl rfl rfl rfl (by omega) ?_)
      intro w1 hblk hb1
      obtain ⟨G, hG⟩ : ∃ G, w.heap.size = G := ⟨_, rfl⟩
      have hwG : w.heap.size ≤ G := by omega
      rw [hG] at hblk ⊢
      have H1 : Hid (BlkU w1 G (List.replicate N 0) ∧ Below w.heap.size w w1) := ⟨hblk, hb1⟩
      clear hblk hb1 hG
      go_wp2
      go_loopw [28] (fun vi wl => ∃ (i : Nat) (Z : List Nat), vi = .int .i64 (i : Int) ∧ i ≤ n ∧ Hid (BlkU wl G Z ∧ Z.length = N ∧ Lim Z ∧ val Z = val (x.take i) * val y ∧ Below w.heap.size w wl)) (fun vi _ => n - (intOf vi).toNat)
      case atStart => exact ⟨0, List.replicate N 0, rfl, Nat.zero_le _, H1.out.1, by simp, Lim.rep N, by simp [val, val_zero], H1.out.2⟩
      case round =>
        obtain ⟨i, Z, rfl, hi, HK⟩ := hrel
        clear H1
        by_cases hlt : i < n
        · have i1 : (i : Int) < (n : Int) := by omega
          have i2 : (0 : Int) ≤ (i : Int) := by omega
          have e3 : IntKind.i64.wrap ((i : Int) + 1) = (i : Int) + 1 := IntWalk.i64_in _ (by omega)
          obtain ⟨s1, hs1⟩ : ∃ s1, i + m = s1 := ⟨_, rfl⟩
          have e4 : IntKind.i64.wrap ((i : Int) + (m : Int)) = (s1 : Int) := by rw [show (i : Int) + m = s1 by omega]; exact IntWalk.i64_in _ (by omega)
          have hs1b : i ≤ s1 := by omega
          have hnm := HNM.out
          have hs1c : s1 + 1 ≤ N := by omega
          have e5 : IntKind.i64.wrap ((s1 : Int) + 1) = ((s1 + 1 : Nat) : Int) := by rw [show (s1 : Int) + 1 = ((s1 + 1 : Nat) : Int) by omega]; exact IntWalk.i64_in _ (by omega)
          obtain ⟨s2, hs2⟩ : ∃ s2, s1 + 1 = s2 := ⟨_, rfl⟩
          rw [hs2] at e5 hs1c
          have i5 : (i : Int) ≤ (s2 : Int) := by omega
          have i6 : (s2 : Int) ≤ (N : Int) := by omega
          have i7 : i ≤ s2 := by omega
          have i8 : ¬ s2 = i := by omega
          obtain ⟨f1, f2, f3, f4, f5⟩ := HK.out
          obtain ⟨bx, ox, rfl, hbx, cx⟩ := HA.out.at_ (j := i) (by omega)
          have cx1 := (f5.cell (p := ⟨bx, ox + i, none⟩) hbx).trans cx
          have hf := HA.out.lim.getD i
          have tx := val_take1 x i
          obtain ⟨f, hfe⟩ : ∃ f, x.getD i 0 = f := ⟨_, rfl⟩
          rw [hfe] at cx1 hf tx
          have HTX := Lib.hid tx
          have HS := Lib.hid (And.intro hs1 hs2)
          clear cx tx hfe hs1 hs2 hnm
          go_wp2_with fail
          refine (mult_new f wr).mono ?_
          rintro e w2 ⟨rfl, hw2⟩
          obtain ⟨f1, f2, f3, f4, f5⟩ := HK.out
          obtain ⟨H, hH⟩ : ∃ H, wr.heap.size = H := ⟨_, rfl⟩
          have hGH : G < H := by have := f1.lt; omega
          have hwH : w.heap.size ≤ H := by omega
          have hZ0 : Z.getD s1 0 = 0 := by
            have hxl := val_take_lt HA.out.lim i
            have hyl := val_lt y HB.out.lim
            have h1 := HS.out.1
            rw [HB.out.len] at hyl
            have hlt2 : val Z < 4294967296 ^ s1 := by
              rw [f4, ← h1, Nat.pow_add]
              exact Nat.mul_lt_mul'' hxl hyl
            rw [val_digit Z f3, Nat.div_eq_of_lt hlt2]
          have H2 : Hid (BlkU w2 G Z ∧ Cw w2 H f ∧ Cy w2 (H + 1) 0 ∧ Below w.heap.size w w2) := by
            rw [hw2]
            refine ⟨has_alloc (has_alloc f1 _) _, has_alloc (has_new' _ _ _ hH.symm) _, has_new' _ _ _ (by simp [hH]), kp_alloc (kp_alloc f5 _) _⟩
          rw [hH]
          have HZ := Lib.hid (show _ ∧ _ ∧ _ ∧ _ from ⟨f2, f3, f4, hZ0⟩)
          clear hw2 hH f1 f2 f3 f4 f5 hZ0 HK cx1
          go_wp2
          go_loopw [51] (fun vj wl => ∃ (j : Nat) (Z2 : List Nat) (cy : Nat), vj = .int .i64 (j : Int) ∧ j ≤ m ∧ Hid (BlkU wl G Z2 ∧ Z2.length = N ∧ Lim Z2 ∧ Cw wl H f ∧ Cy wl (H + 1) cy ∧ cy < 4294967296 ∧ val Z2 + cy * 4294967296 ^ (i + j) = val Z + f * val (y.take j) * 4294967296 ^ i ∧ Z2.getD s1 0 = 0 ∧ Below w.heap.size w wl)) (fun vj _ => m - (intOf vj).toNat)
          case atStart => exact ⟨0, Z, 0, rfl, Nat.zero_le _, H2.out.1, HZ.out.1, HZ.out.2.1, H2.out.2.1, H2.out.2.2.1, by decide, by simp [val], HZ.out.2.2.2, H2.out.2.2.2⟩
          case round =>
            obtain ⟨j, Z2, cy, rfl, hj, HJ⟩ := hrel
            clear H2
            by_cases hjm : j < m
            · have j1 : (j : Int) < (m : Int) := by omega
              have j2 : (0 : Int) ≤ (j : Int) := by omega
              have j3 : (j : Int) < ((s2 - i : Nat) : Int) := by have := HS.out; omega
              have e7 : IntKind.i64.wrap ((j : Int) + 1) = (j : Int) + 1 := IntWalk.i64_in _ (by omega)
              obtain ⟨f1, f2, f3, f4, f5, f6, f7, f8, f9⟩ := HJ.out
              obtain ⟨by_, oy, rfl, hby, cy0⟩ := HB.out.at_ (j := j) (by omega)
              have cy1 := (f9.cell (p := ⟨by_, oy + j, none⟩) hby).trans cy0
              have hlen : i + j < Z2.length := by have := HS.out; omega
              have cz1 := f1.cell (j := i + j) hlen
              have hy32 := HB.out.lim.getD j
              have ty := val_take1 y j
              have ha := f3.getD (i + j)
              have hvs := fun r => val_set Z2 (i + j) r hlen
              have hfar := fun r => getD_set_far Z2 (i + j) s1 r (by have := HS.out; omega)
              obtain ⟨q0, hq0⟩ : ∃ q0, y.getD j 0 = q0 := ⟨_, rfl⟩
              obtain ⟨a, hae⟩ : ∃ a, Z2.getD (i + j) 0 = a := ⟨_, rfl⟩
              rw [hq0] at cy1 hy32 ty
              rw [hae] at cz1 ha hvs
              have MU := Lib.hid (mult_one (H + 1) H f a q0 cy wr f5 f4 hf ha hy32 f6)
              obtain ⟨r, hr⟩ : ∃ r, (a + q0 * f + cy) % 4294967296 = r := ⟨_, rfl⟩
              obtain ⟨q, hq⟩ : ∃ q, (a + q0 * f + cy) / 4294967296 = q := ⟨_, rfl⟩
              have hrq : r + q * 4294967296 = a + q0 * f + cy := by omega
              have hr32 : r < 4294967296 := by omega
              have hq32 : q < 4294967296 := by
                have h1 : q0 * f ≤ 4294967295 * 4294967295 := Nat.mul_le_mul (by omega) (by omega)
                omega
              rw [hr, hq] at MU
              have HV := Lib.hid (show val (Z2.set (i + j) r) + q * 4294967296 ^ (i + (j + 1)) = val Z + f * val (y.take (j + 1)) * 4294967296 ^ i by
                rw [← Nat.add_assoc, Nat.pow_succ, ty, Nat.mul_add, Nat.add_mul]
                have h1 := mulin_step _ _ f a q r q0 cy _ _ _ (hvs r) f7 hrq
                rw [h1, Nat.pow_add, ← Nat.mul_assoc f q0, ← Nat.mul_assoc, Nat.mul_assoc (f * q0), Nat.mul_assoc (f * q0), Nat.mul_comm (4294967296 ^ j)])
              have HF8 := Lib.hid ((hfar r).trans f8)
              clear hr hq hrq ty hvs hfar hae hq0 cy0 f2 f3 f7 f8
              have F1 := Lib.hid f1
              have F4 := Lib.hid f4
              have F5 := Lib.hid f5
              have F9 := Lib.hid f9
              clear f1 f4 f5 f9
              go_wp2_with fail
              refine MU.out.mono ?_
              rintro e w9 ⟨rfl, hw9⟩
              have hHm : w.heap.size ≤ H + 1 := by omega
              have g1 : BlkU w9 G Z2 := by rw [hw9]; exact F1.out.far (by omega)
              have g2 : Cy w9 (H + 1) q := by rw [hw9]; exact F5.out.set q
              have g4 : Cw w9 H f := by rw [hw9]; exact F4.out.far (by omega)
              have g3 : Below w.heap.size w w9 := by rw [hw9]; exact kp_set F9.out hHm
              have c1 := g1.cell (j := i + j) hlen
              have c2 := g1.free (i + j)
              have HL := Lib.hid (And.intro HJ.out.2.1 HJ.out.2.2.1)
              have HN : Hid (BlkU (w9.setCell ⟨G, i + j, none⟩ (.int .u32 (r : Int))) G (Z2.set (i + j) r) ∧ (Z2.set (i + j) r).length = N ∧ Lim (Z2.set (i + j) r) ∧ Cw (w9.setCell ⟨G, i + j, none⟩ (.int .u32 (r : Int))) H f ∧ Cy (w9.setCell ⟨G, i + j, none⟩ (.int .u32 (r : Int))) (H + 1) q ∧ q < 4294967296 ∧ val (Z2.set (i + j) r) + q * 4294967296 ^ (i + (j + 1)) = val Z + f * val (y.take (j + 1)) * 4294967296 ^ i ∧ (Z2.set (i + j) r).getD s1 0 = 0 ∧ Below w.heap.size w (w9.setCell ⟨G, i + j, none⟩ (.int .u32 (r : Int)))) :=
                ⟨g1.set (i + j) r, by simp [HL.out.1], HL.out.2.set (i + j) hr32, g4.far (by omega), g2.far (by omega), hq32, HV.out, HF8.out, kp_set g3 hwG⟩
              clear g1 g2 g3 g4 hw9 HJ HV HF8 MU HL F1 F4 F5 F9 cy1
              go_wp2
              go_roundw
              case rel => exact ⟨j + 1, _, q, by go_num, by omega, HN.out⟩
              case measure => simp [intOf]; omega
            · have j1 : ¬ (j : Int) < (m : Int) := by omega
              have hjm2 : j = m := by omega
              obtain ⟨f1, f2, f3, f4, f5, f6, f7, f8, f9⟩ := HJ.out
              have h1 := HS.out.1
              rw [hjm2, take_all (by rw [HB.out.len]; omega), h1] at f7
              have hlen : s1 < Z2.length := by have := HS.out; omega
              have cz1 := f1.cell (j := s1) hlen
              have MU := Lib.hid (mult_one (H + 1) H f 0 0 cy wr f5 f4 hf (by decide) (by decide) f6)
              rw [Nat.zero_mul, Nat.add_zero, Nat.zero_add, Nat.mod_eq_of_lt f6, Nat.div_eq_of_lt f6] at MU
              have hv := val_set Z2 s1 cy hlen
              rw [f8, Nat.zero_mul, Nat.add_zero, f7] at hv
              have HV : Hid (val (Z2.set s1 cy) = val (x.take (i + 1)) * val y) := by
                unfold Hid
                rw [hv, HTX.out, Nat.add_mul, HZ.out.2.2.1, Nat.mul_assoc f, Nat.mul_comm (val y), ← Nat.mul_assoc]
              have im : i + m = s1 := h1
              have j4 : (m : Int) < ((s2 - i : Nat) : Int) := by have := HS.out; omega
              have j5 : (0 : Int) ≤ (m : Int) := by omega
              have F1 := Lib.hid f1
              have F5 := Lib.hid f5
              have F9 := Lib.hid f9
              have HL := Lib.hid (And.intro f2 f3)
              have HI := Lib.hid hjm2
              have hcy := f6
              clear f1 f2 f3 f4 f5 f6 f7 f8 f9 hv h1 hjm2 HJ
              go_wp2_with fail
              refine MU.out.mono ?_
              rintro e w9 ⟨rfl, hw9⟩
              have hHm : w.heap.size ≤ H + 1 := by omega
              have g1 : BlkU w9 G Z2 := by rw [hw9]; exact F1.out.far (by omega)
              have g3 : Below w.heap.size w w9 := by rw [hw9]; exact kp_set F9.out hHm
              have c1 := g1.cell (j := s1) hlen
              have c2 := g1.free s1
              have HN : Hid (BlkU (w9.setCell ⟨G, s1, none⟩ (.int .u32 (cy : Int))) G (Z2.set s1 cy) ∧ (Z2.set s1 cy).length = N ∧ Lim (Z2.set s1 cy) ∧ val (Z2.set s1 cy) = val (x.take (i + 1)) * val y ∧ Below w.heap.size w (w9.setCell ⟨G, s1, none⟩ (.int .u32 (cy : Int)))) :=
                ⟨g1.set s1 cy, by simp [HL.out.1], HL.out.2.set s1 hcy, HV.out, kp_set g3 hwG⟩
              clear g1 g3 hw9 HV MU HL F1 F5 F9
              go_wp2
              go_roundw
              case rel => exact ⟨i + 1, _, by go_num, by omega, HN.out⟩
              case measure => simp [intOf]; omega
        · have i1 : ¬ (i : Int) < (n : Int) := by omega
          have hiN : i = n := by omega
          have HF : Hid (BlkU wr G Z ∧ Z.length = N ∧ Lim Z ∧ Below w.heap.size w wr ∧ val Z = val x * val y) := by
            obtain ⟨f1, f2, f3, f4, f5⟩ := HK.out
            rw [hiN, take_all (by rw [HA.out.len]; omega)] at f4
            exact ⟨f1, f2, f3, f5, f4⟩
          have BO := Lib.hid (bounded_any G N w.heap.size Z wr HF.out.1 HF.out.2.1 HF.out.2.2.1 (by omega) hwG)
          have HI := Lib.hid hiN
          clear HK hiN
          go_wp2_with fail
          refine BO.out.mono ?_
          rintro e w9 ⟨hp, rfl⟩
          rw [HF.out.2.2.2.2] at hp
          obtain ⟨A9, n9, c9, he, hrest⟩ := NumR.of_fit hp HF.out.2.2.2.1
          obtain ⟨ev, hev⟩ : ∃ ev, (fitQ (val x * val y)).2 = ev := ⟨_, rfl⟩
          rw [hev] at he
          subst he
          have HP := Lib.hid hrest
          have HE := Lib.hid hev
          clear hp hrest hev BO HF
          go_wp2
          go_ret2
          exact ⟨A9, n9, c9, by rw [HE.out]; rfl, HP.out⟩
end Go.Proofs.YtbplchpbaonadaaDoor
