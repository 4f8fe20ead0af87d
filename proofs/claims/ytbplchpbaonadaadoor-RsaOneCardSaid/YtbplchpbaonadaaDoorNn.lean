/-
  nat: divideAt.
-/
import Derived.Test.YtbplchpbaonadaaDoorNm
import Derived.Deep.DeepCutAuto
namespace Go.Proofs.YtbplchpbaonadaaDoor
open Go.RowKit Go
set_option linter.unusedVariables false
set_option linter.unusedSimpArgs false
set_option maxRecDepth 100000
/-- The digit, and what is left of the part. -/
def DivPost (w : World) (G : Nat) (pre D : List Nat) (n Yv : Nat) (e : Ending) (w' : World) : Prop :=
  ∃ D', e = .returned (.int .u32 ((val (D.take (n + 1)) / Yv : Nat) : Int)) ∧ BlkU w' G (pre ++ D') ∧ D'.length = D.length ∧ Lim D' ∧ val (D'.take (n + 1)) = val (D.take (n + 1)) % Yv ∧ (∀ k, n + 1 ≤ k → D'.getD k 0 = D.getD k 0) ∧ w.grownBy w' (some G)
structure R2 (w : World) (G : Nat) (pre D : List Nat) (n P Yv d : Nat) (D2 : List Nat) (b : Nat) (wl : World) : Prop where
  blk : BlkU wl G (pre ++ D2)
  len : D2.length = D.length
  lim : Lim D2
  same : ∀ k, n + 1 ≤ k → D2.getD k 0 = D.getD k 0
  b1 : b ≤ 1
  eq : val (D2.take (n + 1)) + d * Yv = P + b * 4294967296 ^ (n + 1)
  lo : P / Yv ≤ d
  hi : d ≤ P / Yv + 2
  d32 : d < 4294967296
  gr : w.grownBy wl (some G)
def R2x (w : World) (G : Nat) (pre D : List Nat) (n P Yv d : Nat) (wl : World) : Prop := ∃ D2 b, R2 w G pre D n P Yv d D2 b wl
theorem add_z (h a c : Nat) (w : World) (hc : Cy w h c) (ha : a < 4294967296) (hcl : c < 4294967296) :
    Calls Tryd.prog 82 #[.int .u32 (a : Int), .int .u32 0, .pointer (some ⟨h, 0, none⟩)] w fun e w' => e = .returned (.int .u32 (((a + 0 + c) % 4294967296 : Nat) : Int)) ∧ w' = w.setCell ⟨h, 0, none⟩ (.int .u64 (((a + 0 + c) / 4294967296 : Nat) : Int)) :=
  add_one h a 0 c w hc ha (by decide) hcl
theorem R2.top {w : World} {G : Nat} {pre D : List Nat} {n P Yv d : Nat} {D2 : List Nat} {b : Nat} {wl : World} (h : R2 w G pre D n P Yv d D2 b wl) (hY : Yv < 4294967296 ^ n) (hY0 : 0 < Yv) :
    (D2.getD n 0 = 0 → b = 0 ∧ d = P / Yv ∧ val (D2.take (n + 1)) = P % Yv) ∧ (D2.getD n 0 ≠ 0 → b = 1 ∧ P / Yv + 1 ≤ d) := by
  have hR := val_take_lt h.lim (n + 1)
  have hT := val_take1 D2 n
  have hl := val_take_lt h.lim n
  have := back_ok P Yv (val (D2.take (n + 1))) d b (4294967296 ^ (n + 1)) (4294967296 ^ n) hY (by rw [Nat.pow_succ, Nat.mul_comm]) h.b1 hR h.eq h.lo h.hi hY0
  refine ⟨fun e => this.1 ?_, fun e => this.2 ?_⟩
  · rw [hT, e]; omega
  · rw [hT]
    have : 1 * 4294967296 ^ n ≤ D2.getD n 0 * 4294967296 ^ n := Nat.mul_le_mul_right _ (by omega)
    omega
theorem mult_z (h g f b c : Nat) (w : World) (hc : Cy w h c) (hf : Cw w g f) (hfl : f < 4294967296) (hb : b < 4294967296) (hcl : c < 4294967296) :
    Calls Tryd.prog 79 #[.int .u32 0, .int .u32 (b : Int), .pointer (some ⟨g, 0, none⟩), .pointer (some ⟨h, 0, none⟩)] w fun e w' => e = .returned (.int .u32 (((0 + b * f + c) % 4294967296 : Nat) : Int)) ∧ w' = w.setCell ⟨h, 0, none⟩ (.int .u64 (((0 + b * f + c) / 4294967296 : Nat) : Int)) :=
  mult_one h g f 0 b c w hc hf hfl (by decide) hb hcl
theorem mult_zz (h g f c : Nat) (w : World) (hc : Cy w h c) (hf : Cw w g f) (hfl : f < 4294967296) (hcl : c < 4294967296) :
    Calls Tryd.prog 79 #[.int .u32 0, .int .u32 0, .pointer (some ⟨g, 0, none⟩), .pointer (some ⟨h, 0, none⟩)] w fun e w' => e = .returned (.int .u32 (c : Int)) ∧ w' = w.setCell ⟨h, 0, none⟩ (.int .u64 ((0 : Nat) : Int)) := by
  have h1 := mult_one h g f 0 0 c w hc hf hfl (by decide) (by decide) hcl
  rw [Nat.zero_mul, Nat.add_zero, Nat.zero_add, Nat.mod_eq_of_lt hcl, Nat.div_eq_of_lt hcl] at h1
  exact h1
theorem prod_lt (y f c : Nat) (hy : y < 4294967296) (hf : f < 4294967296) (hc : c < 4294967296) : (y * f + c) / 4294967296 < 4294967296 := by
  have h1 : y * f ≤ 4294967295 * 4294967295 := Nat.mul_le_mul (by omega) (by omega)
  omega
set_option maxHeartbeats 16000000 in
theorem divide_any (G K : Nat) (pre D Y : List Nat) (off n n1 c m : Nat) (w : World) (hp : pre.length = off) (hG : BlkU w G (pre ++ D)) (hK : BlkU w K Y) (hne : K ≠ G) (hnm : n = m + 1) (hn1 : n1 = n + 1) (hnY : n ≤ Y.length) (hD : n + 1 ≤ D.length) (limD : Lim D) (limY : Lim Y) (htop : 2147483648 ≤ Y.getD m 0) (hlt : val (D.take (n + 1)) < val (Y.take n) * 4294967296) (hn300 : n ≤ 300) :
    Calls Tryd.prog 65 #[.slice (some ⟨G, off, none⟩) n1 n1, .slice (some ⟨K, 0, none⟩) n c] w (DivPost w G pre D n (val (Y.take n))) := by
  have h1 := seg_cell hG hp (i := n) (by omega)
  have h0 := seg_cell hG hp (i := m) (by omega)
  have hv := hK.cell (j := m) (by omega)
  have GS := guess_any G off K n1 n1 n c m _ _ _ w h1 h0 hv hnm (by omega) (by omega) (limD.getD n) (limD.getD m) (limY.getD m) (by omega)
  obtain ⟨P, hP⟩ : ∃ P, val (D.take (n + 1)) = P := ⟨_, rfl⟩
  obtain ⟨Yv, hYv⟩ : ∃ Yv, val (Y.take n) = Yv := ⟨_, rfl⟩
  have hYl : Yv < 4294967296 ^ n := by rw [← hYv]; exact val_take_lt limY n
  have hY1 := val_take1 Y m
  rw [← hnm, hYv] at hY1
  have hP1 := val_take1 D n
  have hP2 := val_take1 D m
  rw [hP] at hP1 hlt
  rw [← hnm] at hP2
  rw [hYv] at hlt
  have hl1 := val_take_lt limD m
  have hl2 := val_take_lt limY m
  have hdg : P / Yv ≤ min ((D.getD n 0 * 4294967296 + D.getD m 0) / Y.getD m 0) 4294967295 ∧ min ((D.getD n 0 * 4294967296 + D.getD m 0) / Y.getD m 0) 4294967295 ≤ P / Yv + 2 := by
    have e1 : P = (D.getD n 0 * 4294967296 + D.getD m 0) * 4294967296 ^ m + val (D.take m) := by
      rw [hP1, hP2, hnm, Nat.pow_succ, Nat.add_mul, Nat.mul_comm (4294967296 ^ m), ← Nat.mul_assoc]
      omega
    have e2 : Yv = Y.getD m 0 * 4294967296 ^ m + val (Y.take m) := by rw [hY1, Nat.add_comm]
    have := guess_ok (D.getD n 0 * 4294967296 + D.getD m 0) (val (D.take m)) (Y.getD m 0) (val (Y.take m)) (4294967296 ^ m) hl1 hl2 htop (by rw [← e1, ← e2]; exact hlt)
    rw [← e1, ← e2] at this
    exact this
  have hY0 : 0 < Yv := by
    have : 1 * 1 ≤ Y.getD m 0 * 4294967296 ^ m := Nat.mul_le_mul (by omega) (Nat.pow_pos (by decide))
    omega
  have hdl : min ((D.getD n 0 * 4294967296 + D.getD m 0) / Y.getD m 0) 4294967295 < 4294967296 := Nat.lt_of_le_of_lt (Nat.min_le_right _ _) (by decide)
  obtain ⟨dg, hdge⟩ : ∃ dg, min ((D.getD n 0 * 4294967296 + D.getD m 0) / Y.getD m 0) 4294967295 = dg := ⟨_, rfl⟩
  rw [hdge] at GS hdg hdl
  rw [hYv]
  have GS := Lib.hid GS
  have HDG := Lib.hid hdg
  have HP := Lib.hid hP
  have HYV := Lib.hid hYv
  have HPRE := Lib.hid hp
  have LD := Lib.hid limD
  have LY := Lib.hid limY
  have HKb := Lib.hid hK
  have HGb := Lib.hid hG
  have HN1 := Lib.hid hn1
  have HNM := Lib.hid hnm
  have hKl := hK.lt
  have hGl := hG.lt
  have hnn1 : n < n1 := by omega
  have hn301 : n1 ≤ 301 := by omega
  clear h1 h0 hv hY1 hP1 hP2 hl1 hl2 hdge hdg hP hYv limD limY hK hG hn1 hnm hlt htop
  go_enter Tryd.func65, Tryd.ntmps65
  go_wp2_with fail
  refine GS.out.mono ?_
  rintro e w1 ⟨k1, rfl, hw1⟩
  have q1 : BlkU w1 G (pre ++ D) := by rw [hw1]; exact HGb.out.drewN k1
  have q2 : w.grownBy w1 (some G) := by rw [hw1]; exact gr_drewN (World.grownBy.refl _ _) k1
  have hz1 : w1.heap.size = w.heap.size := by rw [hw1]; rfl
  clear GS hw1
  go_wp2_with fail
  refine (mult_new dg w1).mono ?_
  rintro e w2 ⟨rfl, hw2⟩
  obtain ⟨H, hH⟩ : ∃ H, w.heap.size = H := ⟨_, rfl⟩
  rw [hH] at hz1 hKl hGl
  rw [hz1]
  have q3 : BlkU w2 G (pre ++ D) := by rw [hw2]; exact has_alloc (has_alloc q1 _) _
  have q4 : Cw w2 H dg := by rw [hw2]; exact has_alloc (has_new' _ _ _ hz1.symm) _
  have q5 : Cy w2 (H + 1) 0 := by rw [hw2]; exact has_new' _ _ _ (by simp [hz1])
  have q6 : w.grownBy w2 (some G) := by rw [hw2]; exact gr_alloc (gr_alloc q2 _) _
  have hz2 : w2.heap.size = H + 2 := by rw [hw2]; simp [hz1]
  clear q1 q2 hw2 hz1
  go_wp2_with fail
  refine (taker_new w2).mono ?_
  rintro e w3 ⟨rfl, hw3⟩
  rw [hz2]
  have H3 : Hid (BlkU w3 G (pre ++ D) ∧ D.length = D.length ∧ Lim D ∧ (∀ k, 0 ≤ k → D.getD k 0 = D.getD k 0) ∧ Cw w3 H dg ∧ Cy w3 (H + 1) 0 ∧ 0 < 4294967296 ∧ Cy w3 (H + 2) 0 ∧ 0 ≤ 1 ∧ val (D.take 0) + dg * val (Y.take 0) = val (D.take 0) + (0 + 0) * 4294967296 ^ 0 ∧ w.grownBy w3 (some G)):= by
    rw [hw3]
    refine ⟨has_alloc q3 _, rfl, LD.out, fun _ _ => rfl, has_alloc q4 _, has_alloc q5 _, by decide, has_new' _ _ _ hz2.symm, by decide, by simp [val], gr_alloc q6 _⟩
  have hHs1 : w.heap.size ≤ H := by omega
  have hHs2 : H ≤ w.heap.size := by omega
  clear q3 q4 q5 q6 hw3 hz2 hH
  go_wp2
  go_loopw [21] (fun vi wl => ∃ (i : Nat) (D1 : List Nat) (cy bw : Nat), vi = .int .i64 (i : Int) ∧ i ≤ n ∧ Hid (BlkU wl G (pre ++ D1) ∧ D1.length = D.length ∧ Lim D1 ∧ (∀ k, i ≤ k → D1.getD k 0 = D.getD k 0) ∧ Cw wl H dg ∧ Cy wl (H + 1) cy ∧ cy < 4294967296 ∧ Cy wl (H + 2) bw ∧ bw ≤ 1 ∧ val (D1.take i) + dg * val (Y.take i) = val (D.take i) + (bw + cy) * 4294967296 ^ i ∧ w.grownBy wl (some G))) (fun vi _ => n - (intOf vi).toNat)
  case atStart => exact ⟨0, D, 0, 0, rfl, Nat.zero_le _, by have h := H3.out; exact ⟨h.1, rfl, h.2.2.1, fun _ _ => rfl, h.2.2.2.2⟩⟩
  case round =>
    obtain ⟨i, D1, cy, bw, rfl, hi, HJ⟩ := hrel
    clear H3
    by_cases hin : i < n
    · as_aux_lemma =>
      have i1 : (i : Int) < (n : Int) := by omega
      have i2 : (0 : Int) ≤ (i : Int) := by omega
      have i3 : (i : Int) < (n1 : Int) := by omega
      have e3 : IntKind.i64.wrap ((i : Int) + 1) = (i : Int) + 1 := IntWalk.i64_in _ (by omega)
      obtain ⟨f1, f2, f3, f4, f5, f6, f7, f8, f9, f10, f11⟩ := HJ.out
      have hY := HKb.out.grown f11 hne
      have cy1 := hY.cell (j := i) (by omega)
      have ca := seg_cell f1 HPRE.out (i := i) (by omega)
      have hal := f3.getD i
      have hyl := LY.out.getD i
      have tY := val_take1 Y i
      have tD := val_take1 D i
      have hae : D1.getD i 0 = D.getD i 0 := f4 i (Nat.le_refl _)
      rw [hae] at ca hal
      obtain ⟨a, ha⟩ : ∃ a, D.getD i 0 = a := ⟨_, rfl⟩
      obtain ⟨y, hy⟩ : ∃ y, Y.getD i 0 = y := ⟨_, rfl⟩
      rw [ha] at ca hal tD
      rw [hy] at cy1 hyl tY
      have MU := fun W (h1 : Cy W (H + 1) cy) (h2 : Cw W H dg) => mult_z (H + 1) H dg y cy W h1 h2 hdl hyl f7
      have hc2l := prod_lt y dg cy hyl hdl f7
      have hpl : (0 + y * dg + cy) % 4294967296 < 4294967296 := Nat.mod_lt _ (by decide)
      obtain ⟨pr, hpr⟩ : ∃ pr, (0 + y * dg + cy) % 4294967296 = pr := ⟨_, rfl⟩
      obtain ⟨c2, hc2⟩ : ∃ c2, (0 + y * dg + cy) / 4294967296 = c2 := ⟨_, rfl⟩
      have hpc : y * dg + cy = pr + c2 * 4294967296 := by omega
      rw [show y * dg + cy = 0 + y * dg + cy by omega, hc2] at hc2l
      rw [hpr] at hpl
      rw [hpr, hc2] at MU
      have MU := Lib.hid MU
      obtain ⟨l, ob, hl32, ho1, hlo, r1, r2⟩ := take_limb a pr bw hal hpl f9
      have TK := Lib.hid (fun W (h : Cy W (H + 2) bw) => take_one (H + 2) a pr bw l ob W h hal hpl f9 r1 r2)
      have HV := Lib.hid (show val ((D1.set i l).take (i + 1)) + dg * val (Y.take (i + 1)) = val (D.take (i + 1)) + (ob + c2) * 4294967296 ^ (i + 1) by
        rw [val_take_set D1 i l (by omega), tY, tD, Nat.pow_succ]
        exact sub_step _ _ dg _ a pr y l ob bw cy c2 _ f10 hlo hpc)
      have hGH1 : G ≠ H := by omega
      have hGH2 : G ≠ H + 1 := by omega
      have hGH3 : G ≠ H + 2 := by omega
      have hKH1 : H + 1 ≠ K := by omega
      have hKH2 : H + 2 ≠ K := by omega
      have hGK : G ≠ K := fun e => hne e.symm
      -- what the worlds hold
      have W1 : Hid (∀ W : World, BlkU W G (pre ++ D1) ∧ Cw W H dg ∧ Cy W (H + 1) cy ∧ Cy W (H + 2) bw ∧ w.grownBy W (some G) → ∀ x : Nat, BlkU (W.setCell ⟨H + 1, 0, none⟩ (.int .u64 (x : Int))) G (pre ++ D1) ∧ Cw (W.setCell ⟨H + 1, 0, none⟩ (.int .u64 (x : Int))) H dg ∧ Cy (W.setCell ⟨H + 1, 0, none⟩ (.int .u64 (x : Int))) (H + 1) x ∧ Cy (W.setCell ⟨H + 1, 0, none⟩ (.int .u64 (x : Int))) (H + 2) bw ∧ w.grownBy (W.setCell ⟨H + 1, 0, none⟩ (.int .u64 (x : Int))) (some G)) := fun W h x =>
        ⟨h.1.far hGH2, h.2.1.far (by omega), h.2.2.1.set x, h.2.2.2.1.far (by omega), gr_set h.2.2.2.2 (.inl (by omega))⟩
      have W2 : Hid (∀ W : World, BlkU W G (pre ++ D1) ∧ Cw W H dg ∧ Cy W (H + 1) c2 ∧ Cy W (H + 2) bw ∧ w.grownBy W (some G) → BlkU (W.setCell ⟨H + 2, 0, none⟩ (.int .u64 (ob : Int))) G (pre ++ D1) ∧ Cw (W.setCell ⟨H + 2, 0, none⟩ (.int .u64 (ob : Int))) H dg ∧ Cy (W.setCell ⟨H + 2, 0, none⟩ (.int .u64 (ob : Int))) (H + 1) c2 ∧ Cy (W.setCell ⟨H + 2, 0, none⟩ (.int .u64 (ob : Int))) (H + 2) ob ∧ w.grownBy (W.setCell ⟨H + 2, 0, none⟩ (.int .u64 (ob : Int))) (some G)) := fun W h =>
        ⟨h.1.far hGH3, h.2.1.far (by omega), h.2.2.1.far (by omega), h.2.2.2.1.set ob, gr_set h.2.2.2.2 (.inl (by omega))⟩
      have HN : Hid (∀ W : World, BlkU W G (pre ++ D1) ∧ Cw W H dg ∧ Cy W (H + 1) c2 ∧ Cy W (H + 2) ob ∧ w.grownBy W (some G) → BlkU (W.setCell ⟨G, off + i, none⟩ (.int .u32 (l : Int))) G (pre ++ (D1.set i l)) ∧ (D1.set i l).length = D.length ∧ Lim (D1.set i l) ∧ (∀ k, (i + 1) ≤ k → (D1.set i l).getD k 0 = D.getD k 0) ∧ Cw (W.setCell ⟨G, off + i, none⟩ (.int .u32 (l : Int))) H dg ∧ Cy (W.setCell ⟨G, off + i, none⟩ (.int .u32 (l : Int))) (H + 1) c2 ∧ c2 < 4294967296 ∧ Cy (W.setCell ⟨G, off + i, none⟩ (.int .u32 (l : Int))) (H + 2) ob ∧ ob ≤ 1 ∧ val ((D1.set i l).take (i + 1)) + dg * val (Y.take (i + 1)) = val (D.take (i + 1)) + (ob + c2) * 4294967296 ^ (i + 1) ∧ w.grownBy (W.setCell ⟨G, off + i, none⟩ (.int .u32 (l : Int))) (some G)) := fun W h =>
        ⟨seg_set h.1 HPRE.out, by rw [List.length_set]; exact f2, f3.set i hl32, same_set f4, h.2.1.far (by omega), h.2.2.1.far (by omega), hc2l, h.2.2.2.1.far (by omega), ho1, HV.out, gr_set h.2.2.2.2 (.inr rfl)⟩
      have CE : Hid (∀ W : World, BlkU W G (pre ++ D1) ∧ w.grownBy W (some G) → W.cell? ⟨G, off + i, none⟩ = some (.int .u32 (a : Int)) ∧ W.frozen? ⟨G, off + i, none⟩ = false ∧ W.cell? ⟨K, i, none⟩ = some (.int .u32 (y : Int))) := fun W h => by
        refine ⟨?_, h.1.free _, ?_⟩
        · have := seg_cell h.1 HPRE.out (i := i) (by omega)
          rw [hae, ha] at this
          exact this
        · have := (HKb.out.grown h.2 hne).cell (j := i) (by omega)
          rw [hy] at this
          exact this
      have V0 : Hid (BlkU wr.drew G (pre ++ D1) ∧ Cw wr.drew H dg ∧ Cy wr.drew (H + 1) cy ∧ Cy wr.drew (H + 2) bw ∧ w.grownBy wr.drew (some G)) := ⟨f1.drew, f5.drew, f6.drew, f8.drew, gr_drew f11⟩
      clear f1 f2 f3 f4 f5 f6 f7 f8 f9 f10 f11 hY tY tD hae ha hy hpr hc2 hpc r1 r2 hlo HV HJ ca cy1 hal hyl hc2l hpl ho1
      obtain ⟨ca, cf, cy1⟩ := CE.out _ ⟨V0.out.1, V0.out.2.2.2.2⟩
      go_wp2_with fail
      refine wp_region_held_drew (S := fun W => W.cell? ⟨K, i, none⟩ = some (.int .u32 (y : Int))) (by kernel_rfl) cy1 (fun hHeld => ?_)
      refine wpAnyH_take (i := 0) (oi := _) (v := ?_) rfl (by kernel_rfl) (by kernel_rfl) (by kernel_rfl) (fun _ _ _ h => h) (Or.inl ⟨by rfl, ?_⟩) hHeld ?_
      rotate_left
      · (intro w hSw; (try dsimp only at hSw); go_simp; (try with_reducible rfl))
      (try simp only [Act.put, List.getElem_toArray, List.getElem_cons_succ, List.getElem_cons_zero, List.setIfInBounds_toArray, List.set_cons_zero, List.set_cons_succ])
      refine wpAnyH_take (i := 1) (oi := _) (v := ?_) rfl (by kernel_rfl) (by kernel_rfl) (by kernel_rfl) (fun _ _ _ h => h) (Or.inl ⟨by rfl, ?_⟩) hHeld ?_
      rotate_left
      · (intro w hSw; (try dsimp only at hSw); go_simp; (try with_reducible rfl))
      (try simp only [Act.put, List.getElem_toArray, List.getElem_cons_succ, List.getElem_cons_zero, List.setIfInBounds_toArray, List.set_cons_zero, List.set_cons_succ])
      refine wpAnyH_take (i := 2) (oi := _) (v := ?_) rfl (by kernel_rfl) (by kernel_rfl) (by kernel_rfl) (fun _ _ _ h => h) (Or.inl ⟨by rfl, ?_⟩) hHeld ?_
      rotate_left
      · (intro w hSw; (try dsimp only at hSw); go_simp; (try with_reducible rfl))
      (try simp only [Act.put, List.getElem_toArray, List.getElem_cons_succ, List.getElem_cons_zero, List.setIfInBounds_toArray, List.set_cons_zero, List.set_cons_succ])
      refine wpAnyH_take (i := 3) (oi := _) (v := ?_) rfl (by kernel_rfl) (by kernel_rfl) (by kernel_rfl) (fun _ _ _ h => h) (Or.inl ⟨by rfl, ?_⟩) hHeld ?_
      rotate_left
      · (intro w hSw; (try dsimp only at hSw); go_simp; (try with_reducible rfl))
      (try simp only [Act.put, List.getElem_toArray, List.getElem_cons_succ, List.getElem_cons_zero, List.setIfInBounds_toArray, List.set_cons_zero, List.set_cons_succ])
      refine wpAnyH_take (i := 4) (oi := _) (v := ?_) rfl (by kernel_rfl) (by kernel_rfl) (by kernel_rfl) (fun _ _ _ h => h) (Or.inl ⟨by rfl, ?_⟩) hHeld ?_
      rotate_left
      · (intro w hSw; (try dsimp only at hSw); go_simp; (try with_reducible rfl))
      (try simp only [Act.put, List.getElem_toArray, List.getElem_cons_succ, List.getElem_cons_zero, List.setIfInBounds_toArray, List.set_cons_zero, List.set_cons_succ])
      refine wpAnyH_take (i := 5) (oi := _) (v := ?_) rfl (by kernel_rfl) (by kernel_rfl) (by kernel_rfl) (fun _ _ _ h => h) (Or.inl ⟨by rfl, ?_⟩) hHeld ?_
      rotate_left
      · (intro w hSw; (try dsimp only at hSw); go_simp; (try with_reducible rfl))
      (try simp only [Act.put, List.getElem_toArray, List.getElem_cons_succ, List.getElem_cons_zero, List.setIfInBounds_toArray, List.set_cons_zero, List.set_cons_succ])
      refine wpAnyH_take (i := 7) (oi := _) (v := ?_) rfl (by kernel_rfl) (by kernel_rfl) (by kernel_rfl) (fun _ _ _ h => h) (Or.inl ⟨by rfl, ?_⟩) hHeld ?_
      rotate_left
      · (intro w hSw; (try dsimp only at hSw); go_simp; (try with_reducible rfl))
      (try simp only [Act.put, List.getElem_toArray, List.getElem_cons_succ, List.getElem_cons_zero, List.setIfInBounds_toArray, List.set_cons_zero, List.set_cons_succ])
      refine wpAnyH_take (i := 8) (oi := _) (v := ?_) rfl (by kernel_rfl) (by kernel_rfl) (by kernel_rfl) (fun _ _ _ h => h) (Or.inl ⟨by rfl, ?_⟩) hHeld ?_
      rotate_left
      · (intro w hSw; (try dsimp only at hSw); go_simp; (try with_reducible rfl))
      (try simp only [Act.put, List.getElem_toArray, List.getElem_cons_succ, List.getElem_cons_zero, List.setIfInBounds_toArray, List.set_cons_zero, List.set_cons_succ])
      refine wpAnyH_take (i := 9) (oi := _) (v := ?_) rfl (by kernel_rfl) (by kernel_rfl) (by kernel_rfl) (fun _ _ _ h => h) (Or.inl ⟨by rfl, ?_⟩) hHeld ?_
      rotate_left
      · (intro w hSw; (try dsimp only at hSw); go_simp; (try with_reducible rfl))
      (try simp only [Act.put, List.getElem_toArray, List.getElem_cons_succ, List.getElem_cons_zero, List.setIfInBounds_toArray, List.set_cons_zero, List.set_cons_succ])
      refine wpAnyH_take (i := 10) (oi := _) (v := ?_) rfl (by kernel_rfl) (by kernel_rfl) (by kernel_rfl) (fun _ _ _ h => h) (Or.inl ⟨by rfl, ?_⟩) hHeld ?_
      rotate_left
      · (intro w hSw; (try dsimp only at hSw); go_simp; (try with_reducible rfl))
      (try simp only [Act.put, List.getElem_toArray, List.getElem_cons_succ, List.getElem_cons_zero, List.setIfInBounds_toArray, List.set_cons_zero, List.set_cons_succ])
      refine wpAnyH_take (i := 11) (oi := _) (v := ?_) rfl (by kernel_rfl) (by kernel_rfl) (by kernel_rfl) (fun _ _ _ h => h) (Or.inl ⟨by rfl, ?_⟩) hHeld ?_
      rotate_left
      · (intro w hSw; (try dsimp only at hSw); go_simp; (try with_reducible rfl))
      (try simp only [Act.put, List.getElem_toArray, List.getElem_cons_succ, List.getElem_cons_zero, List.setIfInBounds_toArray, List.set_cons_zero, List.set_cons_succ])
      refine wpAnyH_ready (rs := [6, 12]) (by kernel_rfl) (by simp) ?_
      refine AllReadyH.cons (o := _) rfl (fun K hK => ?_) ?_
      · go_simp
        refine hK.out _ _ ?_ (fun hHeld => ?_)
        · exact cy1
        clear hK K
        (try simp only [Act.put, List.getElem_toArray, List.getElem_cons_succ, List.getElem_cons_zero, List.setIfInBounds_toArray, List.set_cons_zero, List.set_cons_succ])
        refine wpAnyH_ready (rs := [12]) (by kernel_rfl) (by simp) ?_
        refine AllReadyH.cons (o := _) rfl (fun K hK => ?_) AllReadyH.nil
        go_simp
        (with_reducible refine (MU.out _ V0.out.2.2.1 V0.out.2.1).mono ?_)
        rintro e w9 ⟨rfl, hw9⟩
        have V9 : Hid (BlkU w9 G (pre ++ D1) ∧ Cw w9 H dg ∧ Cy w9 (H + 1) c2 ∧ Cy w9 (H + 2) bw ∧ w.grownBy w9 (some G)) := by rw [hw9]; exact W1.out _ V0.out c2
        obtain ⟨ca9, cf9, cy9⟩ := CE.out _ ⟨V9.out.1, V9.out.2.2.2.2⟩
        clear hw9
        go_wp2_with fail
        refine hK.out _ _ ?_ (fun hHeld => ?_)
        · exact cy9
        clear hK K
        (try simp only [Act.put, List.getElem_toArray, List.getElem_cons_succ, List.getElem_cons_zero, List.setIfInBounds_toArray, List.set_cons_zero, List.set_cons_succ])
        refine wpAnyH_ready (rs := [13]) (by kernel_rfl) (by simp) ?_
        refine AllReadyH.cons (o := _) rfl (fun K hK => ?_) AllReadyH.nil
        go_simp
        (with_reducible refine (TK.out _ V9.out.2.2.2.1).mono ?_)
        rintro e w10 ⟨rfl, hw10⟩
        have V10 : Hid (BlkU w10 G (pre ++ D1) ∧ Cw w10 H dg ∧ Cy w10 (H + 1) c2 ∧ Cy w10 (H + 2) ob ∧ w.grownBy w10 (some G)) := by rw [hw10]; exact W2.out _ V9.out
        obtain ⟨ca10, cf10, cy10⟩ := CE.out _ ⟨V10.out.1, V10.out.2.2.2.2⟩
        clear hw10
        go_wp2_with fail
        refine hK.out _ _ ?_ (fun hHeld => ?_)
        · exact cy10
        clear hK K
        (try simp only [Act.put, List.getElem_toArray, List.getElem_cons_succ, List.getElem_cons_zero, List.setIfInBounds_toArray, List.set_cons_zero, List.set_cons_succ])
        refine wpAnyH_take (i := 14) (oi := _) (v := ?_) rfl (by kernel_rfl) (by kernel_rfl) (by kernel_rfl) (fun _ _ _ h => h) (Or.inl ⟨by rfl, ?_⟩) hHeld ?_
        rotate_left
        · (intro w hSw; (try dsimp only at hSw); go_simp; (try with_reducible rfl))
        (try simp only [Act.put, List.getElem_toArray, List.getElem_cons_succ, List.getElem_cons_zero, List.setIfInBounds_toArray, List.set_cons_zero, List.set_cons_succ])
        refine wpAnyH_ready (rs := [15]) (by kernel_rfl) (by simp) ?_
        refine AllReadyH.cons (o := _) rfl (fun K hK => ?_) AllReadyH.nil
        go_simp
        refine hK.out _ _ ?_ (fun hHeld => ?_)
        · exact (World.cell?_setCell_far _ _ _ _ hGK).trans cy10
        clear hK K
        (try simp only [Act.put, List.getElem_toArray, List.getElem_cons_succ, List.getElem_cons_zero, List.setIfInBounds_toArray, List.set_cons_zero, List.set_cons_succ])
        refine wpAnyH_done (by kernel_rfl) ?_ _
        have HNN := Lib.hid (HN.out _ V10.out)
        clear HN W1 W2 V0 V9 V10 CE MU TK ca cf cy1 ca9 cf9 cy9 ca10 cf10 cy10 hHeld
        go_wp2
        go_roundw
        case rel => exact ⟨i + 1, _, c2, ob, by go_num, by omega, HNN⟩
        case measure => simp [intOf]; omega
      refine AllReadyH.cons (o := _) rfl (fun K hK => ?_) AllReadyH.nil
      go_simp
      (with_reducible refine (MU.out _ V0.out.2.2.1 V0.out.2.1).mono ?_)
      rintro e w9 ⟨rfl, hw9⟩
      have V9 : Hid (BlkU w9 G (pre ++ D1) ∧ Cw w9 H dg ∧ Cy w9 (H + 1) c2 ∧ Cy w9 (H + 2) bw ∧ w.grownBy w9 (some G)) := by rw [hw9]; exact W1.out _ V0.out c2
      obtain ⟨ca9, cf9, cy9⟩ := CE.out _ ⟨V9.out.1, V9.out.2.2.2.2⟩
      clear hw9
      go_wp2_with fail
      refine hK.out _ _ ?_ (fun hHeld => ?_)
      · exact cy9
      clear hK K
      (try simp only [Act.put, List.getElem_toArray, List.getElem_cons_succ, List.getElem_cons_zero, List.setIfInBounds_toArray, List.set_cons_zero, List.set_cons_succ])
      refine wpAnyH_ready (rs := [6]) (by kernel_rfl) (by simp) ?_
      refine AllReadyH.cons (o := _) rfl (fun K hK => ?_) AllReadyH.nil
      go_simp
      refine hK.out _ _ ?_ (fun hHeld => ?_)
      · exact cy9
      clear hK K
      (try simp only [Act.put, List.getElem_toArray, List.getElem_cons_succ, List.getElem_cons_zero, List.setIfInBounds_toArray, List.set_cons_zero, List.set_cons_succ])
      refine wpAnyH_ready (rs := [13]) (by kernel_rfl) (by simp) ?_
      refine AllReadyH.cons (o := _) rfl (fun K hK => ?_) AllReadyH.nil
      go_simp
      (with_reducible refine (TK.out _ V9.out.2.2.2.1).mono ?_)
      rintro e w10 ⟨rfl, hw10⟩
      have V10 : Hid (BlkU w10 G (pre ++ D1) ∧ Cw w10 H dg ∧ Cy w10 (H + 1) c2 ∧ Cy w10 (H + 2) ob ∧ w.grownBy w10 (some G)) := by rw [hw10]; exact W2.out _ V9.out
      obtain ⟨ca10, cf10, cy10⟩ := CE.out _ ⟨V10.out.1, V10.out.2.2.2.2⟩
      clear hw10
      go_wp2_with fail
      refine hK.out _ _ ?_ (fun hHeld => ?_)
      · exact cy10
      clear hK K
      (try simp only [Act.put, List.getElem_toArray, List.getElem_cons_succ, List.getElem_cons_zero, List.setIfInBounds_toArray, List.set_cons_zero, List.set_cons_succ])
      refine wpAnyH_take (i := 14) (oi := _) (v := ?_) rfl (by kernel_rfl) (by kernel_rfl) (by kernel_rfl) (fun _ _ _ h => h) (Or.inl ⟨by rfl, ?_⟩) hHeld ?_
      rotate_left
      · (intro w hSw; (try dsimp only at hSw); go_simp; (try with_reducible rfl))
      (try simp only [Act.put, List.getElem_toArray, List.getElem_cons_succ, List.getElem_cons_zero, List.setIfInBounds_toArray, List.set_cons_zero, List.set_cons_succ])
      refine wpAnyH_ready (rs := [15]) (by kernel_rfl) (by simp) ?_
      refine AllReadyH.cons (o := _) rfl (fun K hK => ?_) AllReadyH.nil
      go_simp
      refine hK.out _ _ ?_ (fun hHeld => ?_)
      · exact (World.cell?_setCell_far _ _ _ _ hGK).trans cy10
      clear hK K
      (try simp only [Act.put, List.getElem_toArray, List.getElem_cons_succ, List.getElem_cons_zero, List.setIfInBounds_toArray, List.set_cons_zero, List.set_cons_succ])
      refine wpAnyH_done (by kernel_rfl) ?_ _
      have HNN := Lib.hid (HN.out _ V10.out)
      clear HN W1 W2 V0 V9 V10 CE MU TK ca cf cy1 ca9 cf9 cy9 ca10 cf10 cy10 hHeld
      go_wp2
      go_roundw
      case rel => exact ⟨i + 1, _, c2, ob, by go_num, by omega, HNN⟩
      case measure => simp [intOf]; omega
    · as_aux_lemma =>
      have i1 : ¬ (i : Int) < (n : Int) := by omega
      obtain rfl : i = n := by omega
      have e0 : (0 : Int) ≤ (i : Int) := by omega
      have i3 : (i : Int) < (n1 : Int) := by omega
      obtain ⟨f1, f2, f3, f4, f5, f6, f7, f8, f9, f10, f11⟩ := HJ.out
      have hal := f3.getD i
      have tY := val_take1 D i
      have hae : D1.getD i 0 = D.getD i 0 := f4 i (Nat.le_refl _)
      rw [hae] at hal
      obtain ⟨a, ha⟩ : ∃ a, D.getD i 0 = a := ⟨_, rfl⟩
      rw [ha] at hal tY
      have MU := Lib.hid (fun W (h1 : Cy W (H + 1) cy) (h2 : Cw W H dg) => mult_zz (H + 1) H dg cy W h1 h2 hdl f7)
      obtain ⟨l, ob, hl32, ho1, hlo, r1, r2⟩ := take_limb a cy bw hal f7 f9
      have TK := Lib.hid (fun W (h : Cy W (H + 2) bw) => take_one (H + 2) a cy bw l ob W h hal f7 f9 r1 r2)
      have hst := sub_step _ _ dg _ a cy 0 l ob bw cy 0 _ f10 hlo (by omega)
      rw [Nat.zero_mul, Nat.add_zero, Nat.add_zero, ← Nat.pow_succ, ← tY, HYV.out, HP.out] at hst
      have HV := Lib.hid (show val ((D1.set i l).take (i + 1)) + dg * Yv = P + ob * 4294967296 ^ (i + 1) by
        rw [val_take_set D1 i l (by omega)]; exact hst)
      have hGH1 : G ≠ H := by omega
      have hGH2 : G ≠ H + 1 := by omega
      have hGH3 : G ≠ H + 2 := by omega
      have HN : Hid (∀ W : World, BlkU W G (pre ++ D1) ∧ w.grownBy W (some G) → R2 w G pre D i P Yv dg (D1.set i l) ob (W.setCell ⟨G, off + i, none⟩ (.int .u32 (l : Int)))) := fun W h =>
        ⟨seg_set h.1 HPRE.out, by rw [List.length_set]; exact f2, f3.set i hl32, same_set f4, ho1, HV.out, HDG.out.1, HDG.out.2, hdl, gr_set h.2 (.inr rfl)⟩
      have CE : Hid (∀ W : World, BlkU W G (pre ++ D1) ∧ w.grownBy W (some G) → W.cell? ⟨G, off + i, none⟩ = some (.int .u32 (a : Int)) ∧ W.frozen? ⟨G, off + i, none⟩ = false) := fun W h => by
        refine ⟨?_, h.1.free _⟩
        have := seg_cell h.1 HPRE.out (i := i) (by omega)
        rw [hae, ha] at this
        exact this
      have W1 : Hid (∀ W : World, BlkU W G (pre ++ D1) ∧ Cy W (H + 2) bw ∧ w.grownBy W (some G) → ∀ u : Value, BlkU (W.setCell ⟨H + 1, 0, none⟩ u) G (pre ++ D1) ∧ Cy (W.setCell ⟨H + 1, 0, none⟩ u) (H + 2) bw ∧ w.grownBy (W.setCell ⟨H + 1, 0, none⟩ u) (some G)) := fun W h u =>
        ⟨h.1.far hGH2, h.2.1.far (by omega), gr_set h.2.2 (.inl (by omega))⟩
      have W2 : Hid (∀ W : World, BlkU W G (pre ++ D1) ∧ w.grownBy W (some G) → ∀ u : Value, BlkU (W.setCell ⟨H + 2, 0, none⟩ u) G (pre ++ D1) ∧ w.grownBy (W.setCell ⟨H + 2, 0, none⟩ u) (some G)) := fun W h u =>
        ⟨h.1.far hGH3, gr_set h.2 (.inl (by omega))⟩
      have V0 : Hid (BlkU wr.drew G (pre ++ D1) ∧ Cw wr.drew H dg ∧ Cy wr.drew (H + 1) cy ∧ Cy wr.drew (H + 2) bw ∧ w.grownBy wr.drew (some G)) := ⟨f1.drew, f5.drew, f6.drew, f8.drew, gr_drew f11⟩
      clear f1 f2 f3 f4 f5 f6 f7 f8 f9 f10 f11 tY hae ha r1 r2 hlo HV HJ hal ho1 hst
      go_wp2_with fail
      go_upto_region 9 with (fail)
      go_cut [6] (fun vd wx => vd = .int .u32 (dg : Int) ∧ R2x w G pre D i P Yv dg wx)
      case first => as_aux_lemma =>
        obtain ⟨ca, cf⟩ := CE.out _ ⟨V0.out.1, V0.out.2.2.2.2⟩
        go_wp2_with fail
        refine wp_region_held_drew (S := fun _ => True) (by kernel_rfl) trivial (fun hHeld => ?_)
        refine wpAnyH_take (i := 0) (oi := _) (v := ?_) rfl (by kernel_rfl) (by kernel_rfl) (by kernel_rfl) (fun _ _ _ h => h) (Or.inl ⟨by rfl, ?_⟩) hHeld ?_
        rotate_left
        · (intro w hSw; (try dsimp only at hSw); go_simp; (try with_reducible rfl))
        (try simp only [Act.put, List.getElem_toArray, List.getElem_cons_succ, List.getElem_cons_zero, List.setIfInBounds_toArray, List.set_cons_zero, List.set_cons_succ])
        refine wpAnyH_take (i := 1) (oi := _) (v := ?_) rfl (by kernel_rfl) (by kernel_rfl) (by kernel_rfl) (fun _ _ _ h => h) (Or.inl ⟨by rfl, ?_⟩) hHeld ?_
        rotate_left
        · (intro w hSw; (try dsimp only at hSw); go_simp; (try with_reducible rfl))
        (try simp only [Act.put, List.getElem_toArray, List.getElem_cons_succ, List.getElem_cons_zero, List.setIfInBounds_toArray, List.set_cons_zero, List.set_cons_succ])
        refine wpAnyH_take (i := 2) (oi := _) (v := ?_) rfl (by kernel_rfl) (by kernel_rfl) (by kernel_rfl) (fun _ _ _ h => h) (Or.inl ⟨by rfl, ?_⟩) hHeld ?_
        rotate_left
        · (intro w hSw; (try dsimp only at hSw); go_simp; (try with_reducible rfl))
        (try simp only [Act.put, List.getElem_toArray, List.getElem_cons_succ, List.getElem_cons_zero, List.setIfInBounds_toArray, List.set_cons_zero, List.set_cons_succ])
        refine wpAnyH_take (i := 3) (oi := _) (v := ?_) rfl (by kernel_rfl) (by kernel_rfl) (by kernel_rfl) (fun _ _ _ h => h) (Or.inl ⟨by rfl, ?_⟩) hHeld ?_
        rotate_left
        · (intro w hSw; (try dsimp only at hSw); go_simp; (try with_reducible rfl))
        (try simp only [Act.put, List.getElem_toArray, List.getElem_cons_succ, List.getElem_cons_zero, List.setIfInBounds_toArray, List.set_cons_zero, List.set_cons_succ])
        refine wpAnyH_take (i := 4) (oi := _) (v := ?_) rfl (by kernel_rfl) (by kernel_rfl) (by kernel_rfl) (fun _ _ _ h => h) (Or.inl ⟨by rfl, ?_⟩) hHeld ?_
        rotate_left
        · (intro w hSw; (try dsimp only at hSw); go_simp; (try with_reducible rfl))
        (try simp only [Act.put, List.getElem_toArray, List.getElem_cons_succ, List.getElem_cons_zero, List.setIfInBounds_toArray, List.set_cons_zero, List.set_cons_succ])
        refine wpAnyH_take (i := 5) (oi := _) (v := ?_) rfl (by kernel_rfl) (by kernel_rfl) (by kernel_rfl) (fun _ _ _ h => h) (Or.inl ⟨by rfl, ?_⟩) hHeld ?_
        rotate_left
        · (intro w hSw; (try dsimp only at hSw); go_simp; (try with_reducible rfl))
        (try simp only [Act.put, List.getElem_toArray, List.getElem_cons_succ, List.getElem_cons_zero, List.setIfInBounds_toArray, List.set_cons_zero, List.set_cons_succ])
        refine wpAnyH_take (i := 7) (oi := _) (v := ?_) rfl (by kernel_rfl) (by kernel_rfl) (by kernel_rfl) (fun _ _ _ h => h) (Or.inl ⟨by rfl, ?_⟩) hHeld ?_
        rotate_left
        · (intro w hSw; (try dsimp only at hSw); go_simp; (try with_reducible rfl))
        (try simp only [Act.put, List.getElem_toArray, List.getElem_cons_succ, List.getElem_cons_zero, List.setIfInBounds_toArray, List.set_cons_zero, List.set_cons_succ])
        refine wpAnyH_ready (rs := [6, 8]) (by kernel_rfl) (by simp) ?_
        refine AllReadyH.cons (o := _) rfl (fun K hK => ?_) ?_
        · go_simp
          refine hK.out _ _ ?_ (fun hHeld => ?_)
          · exact trivial
          clear hK K
          (try simp only [Act.put, List.getElem_toArray, List.getElem_cons_succ, List.getElem_cons_zero, List.setIfInBounds_toArray, List.set_cons_zero, List.set_cons_succ])
          refine wpAnyH_ready (rs := [8]) (by kernel_rfl) (by simp) ?_
          refine AllReadyH.cons (o := _) rfl (fun K hK => ?_) AllReadyH.nil
          go_simp
          (with_reducible refine (MU.out _ V0.out.2.2.1 V0.out.2.1).mono ?_)
          rintro e w9 ⟨rfl, hw9⟩
          have V9 : Hid (BlkU w9 G (pre ++ D1) ∧ Cy w9 (H + 2) bw ∧ w.grownBy w9 (some G)) := by rw [hw9]; exact W1.out _ ⟨V0.out.1, V0.out.2.2.2⟩ _
          obtain ⟨ca9, cf9⟩ := CE.out _ ⟨V9.out.1, V9.out.2.2⟩
          clear hw9
          go_wp2_with fail
          refine hK.out _ _ ?_ (fun hHeld => ?_)
          · exact trivial
          clear hK K
          (try simp only [Act.put, List.getElem_toArray, List.getElem_cons_succ, List.getElem_cons_zero, List.setIfInBounds_toArray, List.set_cons_zero, List.set_cons_succ])
          refine wpAnyH_ready (rs := [9]) (by kernel_rfl) (by simp) ?_
          refine AllReadyH.cons (o := _) rfl (fun K hK => ?_) AllReadyH.nil
          go_simp
          (with_reducible refine (TK.out _ V9.out.2.1).mono ?_)
          rintro e w10 ⟨rfl, hw10⟩
          have V10 : Hid (BlkU w10 G (pre ++ D1) ∧ w.grownBy w10 (some G)) := by rw [hw10]; exact W2.out _ ⟨V9.out.1, V9.out.2.2⟩ _
          obtain ⟨ca10, cf10⟩ := CE.out _ V10.out
          clear hw10
          go_wp2_with fail
          refine hK.out _ _ ?_ (fun hHeld => ?_)
          · exact trivial
          clear hK K
          (try simp only [Act.put, List.getElem_toArray, List.getElem_cons_succ, List.getElem_cons_zero, List.setIfInBounds_toArray, List.set_cons_zero, List.set_cons_succ])
          refine wpAnyH_take (i := 10) (oi := _) (v := ?_) rfl (by kernel_rfl) (by kernel_rfl) (by kernel_rfl) (fun _ _ _ h => h) (Or.inl ⟨by rfl, ?_⟩) hHeld ?_
          rotate_left
          · (intro w hSw; (try dsimp only at hSw); go_simp; (try with_reducible rfl))
          (try simp only [Act.put, List.getElem_toArray, List.getElem_cons_succ, List.getElem_cons_zero, List.setIfInBounds_toArray, List.set_cons_zero, List.set_cons_succ])
          refine wpAnyH_ready (rs := [11]) (by kernel_rfl) (by simp) ?_
          refine AllReadyH.cons (o := _) rfl (fun K hK => ?_) AllReadyH.nil
          go_simp
          refine hK.out _ _ ?_ (fun hHeld => ?_)
          · exact trivial
          clear hK K
          (try simp only [Act.put, List.getElem_toArray, List.getElem_cons_succ, List.getElem_cons_zero, List.setIfInBounds_toArray, List.set_cons_zero, List.set_cons_succ])
          refine wpAnyH_done (by kernel_rfl) ?_ _
          have HNN := Lib.hid (HN.out _ V10.out)
          clear HN W1 W2 V0 V9 V10 CE MU TK ca cf ca9 cf9 ca10 cf10 hHeld
          go_wp2_with fail
          go_meet
          exact ⟨rfl, _, _, HNN.out⟩
        refine AllReadyH.cons (o := _) rfl (fun K hK => ?_) AllReadyH.nil
        go_simp
        (with_reducible refine (MU.out _ V0.out.2.2.1 V0.out.2.1).mono ?_)
        rintro e w9 ⟨rfl, hw9⟩
        have V9 : Hid (BlkU w9 G (pre ++ D1) ∧ Cy w9 (H + 2) bw ∧ w.grownBy w9 (some G)) := by rw [hw9]; exact W1.out _ ⟨V0.out.1, V0.out.2.2.2⟩ _
        obtain ⟨ca9, cf9⟩ := CE.out _ ⟨V9.out.1, V9.out.2.2⟩
        clear hw9
        go_wp2_with fail
        refine hK.out _ _ ?_ (fun hHeld => ?_)
        · exact trivial
        clear hK K
        (try simp only [Act.put, List.getElem_toArray, List.getElem_cons_succ, List.getElem_cons_zero, List.setIfInBounds_toArray, List.set_cons_zero, List.set_cons_succ])
        refine wpAnyH_ready (rs := [6]) (by kernel_rfl) (by simp) ?_
        refine AllReadyH.cons (o := _) rfl (fun K hK => ?_) AllReadyH.nil
        go_simp
        refine hK.out _ _ ?_ (fun hHeld => ?_)
        · exact trivial
        clear hK K
        (try simp only [Act.put, List.getElem_toArray, List.getElem_cons_succ, List.getElem_cons_zero, List.setIfInBounds_toArray, List.set_cons_zero, List.set_cons_succ])
        refine wpAnyH_ready (rs := [9]) (by kernel_rfl) (by simp) ?_
        refine AllReadyH.cons (o := _) rfl (fun K hK => ?_) AllReadyH.nil
        go_simp
        (with_reducible refine (TK.out _ V9.out.2.1).mono ?_)
        rintro e w10 ⟨rfl, hw10⟩
        have V10 : Hid (BlkU w10 G (pre ++ D1) ∧ w.grownBy w10 (some G)) := by rw [hw10]; exact W2.out _ ⟨V9.out.1, V9.out.2.2⟩ _
        obtain ⟨ca10, cf10⟩ := CE.out _ V10.out
        clear hw10
        go_wp2_with fail
        refine hK.out _ _ ?_ (fun hHeld => ?_)
        · exact trivial
        clear hK K
        (try simp only [Act.put, List.getElem_toArray, List.getElem_cons_succ, List.getElem_cons_zero, List.setIfInBounds_toArray, List.set_cons_zero, List.set_cons_succ])
        refine wpAnyH_take (i := 10) (oi := _) (v := ?_) rfl (by kernel_rfl) (by kernel_rfl) (by kernel_rfl) (fun _ _ _ h => h) (Or.inl ⟨by rfl, ?_⟩) hHeld ?_
        rotate_left
        · (intro w hSw; (try dsimp only at hSw); go_simp; (try with_reducible rfl))
        (try simp only [Act.put, List.getElem_toArray, List.getElem_cons_succ, List.getElem_cons_zero, List.setIfInBounds_toArray, List.set_cons_zero, List.set_cons_succ])
        refine wpAnyH_ready (rs := [11]) (by kernel_rfl) (by simp) ?_
        refine AllReadyH.cons (o := _) rfl (fun K hK => ?_) AllReadyH.nil
        go_simp
        refine hK.out _ _ ?_ (fun hHeld => ?_)
        · exact trivial
        clear hK K
        (try simp only [Act.put, List.getElem_toArray, List.getElem_cons_succ, List.getElem_cons_zero, List.setIfInBounds_toArray, List.set_cons_zero, List.set_cons_succ])
        refine wpAnyH_done (by kernel_rfl) ?_ _
        have HNN := Lib.hid (HN.out _ V10.out)
        clear HN W1 W2 V0 V9 V10 CE MU TK ca cf ca9 cf9 ca10 cf10 hHeld
        go_wp2_with fail
        go_meet
        exact ⟨rfl, _, _, HNN.out⟩
      case rest => as_aux_lemma =>
        obtain ⟨rfl, hr2⟩ := hcut
        have H5 := Lib.hid hr2
        clear hr2 HN W1 W2 V0 CE MU TK hGH1 hGH2 hGH3 HDG hdl
        go_wp2
        go_loopw [6] (fun vd wl => ∃ (d : Nat) (D2 : List Nat) (b : Nat), vd = .int .u32 (d : Int) ∧ Hid (R2 w G pre D i P Yv d D2 b wl)) (fun vd _ => (intOf vd).toNat)
        case atStart =>
          obtain ⟨D2, b, h⟩ := H5.out
          exact ⟨dg, D2, b, rfl, h⟩
        case round =>
          obtain ⟨d, D2, b, rfl, HR⟩ := hrel
          clear H5
          have ct := seg_cell HR.out.blk HPRE.out (i := i) (by have := HR.out.len; omega)
          have htop := HR.out.top hYl hY0
          have hal := HR.out.lim.getD i
          obtain ⟨tp, htp⟩ : ∃ tp, D2.getD i 0 = tp := ⟨_, rfl⟩
          rw [htp] at ct htop hal
          by_cases ht0 : tp = 0
          · as_aux_lemma =>
            have t1 : ((tp : Int) != 0) = false := by simp; omega
            obtain ⟨z1, z2, z3⟩ := htop.1 ht0
            have HF : Hid (DivPost w G pre D i Yv (.returned (.int .u32 (d : Int))) wr) :=
              ⟨D2, by rw [z2, HP.out], HR.out.blk, HR.out.len, HR.out.lim, by rw [z3, HP.out], HR.out.same, HR.out.gr⟩
            have HT := Lib.hid ht0
            clear htop htp z1 z2 z3 HR ht0
            go_wp2
            go_ret
            exact HF.out
          · as_aux_lemma =>
            have t1 : ((tp : Int) != 0) = true := by simp; omega
            obtain ⟨z1, z2⟩ := htop.2 ht0
            have hd0 : 1 ≤ d := Nat.le_trans (Nat.le_add_left 1 _) z2
            obtain ⟨d1, hd1⟩ : ∃ d1, d = d1 + 1 := ⟨d - 1, by omega⟩
            have ed : IntKind.u32.wrap ((d : Int) - 1) = (d1 : Int) := by
              rw [show (d : Int) - 1 = d1 by omega]
              have := HR.out.d32
              exact IntWalk.u32_in _ (by omega)
            have HZ := Lib.hid (show _ ∧ _ ∧ _ ∧ _ from ⟨z1, z2, hd1, htp⟩)
            have HT := Lib.hid ht0
            clear htop htp z1 z2 hd1 ht0
            go_wp2_with fail
            refine (adder_new wr).mono ?_
            rintro e w5 ⟨rfl, hw5⟩
            obtain ⟨HA, hHA⟩ : ∃ HA, wr.heap.size = HA := ⟨_, rfl⟩
            have hHA2 : H ≤ HA := by have := HR.out.gr.size; omega
            rw [hHA]
            have H6 : Hid (BlkU w5 G (pre ++ D2) ∧ Cy w5 HA 0 ∧ w.grownBy w5 (some G)) := by
              rw [hw5]
              exact ⟨has_alloc HR.out.blk _, has_new' _ _ _ hHA.symm, gr_alloc HR.out.gr _⟩
            have HL := Lib.hid (show _ ∧ _ ∧ _ from ⟨HR.out.len, HR.out.lim, HR.out.same⟩)
            clear hw5 hHA ct
            go_wp2
            go_loopw [60] (fun vj wl => ∃ (j : Nat) (D3 : List Nat) (cy : Nat), vj = .int .i64 (j : Int) ∧ j ≤ i ∧ Hid (BlkU wl G (pre ++ D3) ∧ D3.length = D.length ∧ Lim D3 ∧ (∀ k, j ≤ k → D3.getD k 0 = D2.getD k 0) ∧ Cy wl HA cy ∧ cy < 4294967296 ∧ val (D3.take j) + cy * 4294967296 ^ j = val (D2.take j) + val (Y.take j) ∧ w.grownBy wl (some G))) (fun vj _ => i - (intOf vj).toNat)
            case atStart => exact ⟨0, D2, 0, rfl, Nat.zero_le _, H6.out.1, HL.out.1, HL.out.2.1, fun _ _ => rfl, H6.out.2.1, by decide, by simp [val], H6.out.2.2⟩
            case round =>
              obtain ⟨j, D3, cy, rfl, hj, HJ⟩ := hrel
              clear H6
              by_cases hji : j < i
              · as_aux_lemma =>
                have i1 : (j : Int) < (i : Int) := by omega
                have i2 : (0 : Int) ≤ (j : Int) := by omega
                have i4 : (j : Int) < (n1 : Int) := by omega
                have e3 : IntKind.i64.wrap ((j : Int) + 1) = (j : Int) + 1 := IntWalk.i64_in _ (by omega)
                obtain ⟨f1, f2, f3, f4, f5, f6, f7, f8⟩ := HJ.out
                have hal3 := f3.getD j
                have hyl := LY.out.getD j
                have tY := val_take1 Y j
                have tD := val_take1 D2 j
                have hae : D3.getD j 0 = D2.getD j 0 := f4 j (Nat.le_refl _)
                rw [hae] at hal3
                obtain ⟨a, ha⟩ : ∃ a, D2.getD j 0 = a := ⟨_, rfl⟩
                obtain ⟨y, hy⟩ : ∃ y, Y.getD j 0 = y := ⟨_, rfl⟩
                rw [ha] at hal3 tD
                rw [hy] at hyl tY
                have AD := fun W (h : Cy W HA cy) => add_one HA a y cy W h hal3 hyl f6
                have hst := add_step _ _ _ a y cy _ f7
                obtain ⟨r, hr⟩ : ∃ r, (a + y + cy) % 4294967296 = r := ⟨_, rfl⟩
                obtain ⟨q, hq⟩ : ∃ q, (a + y + cy) / 4294967296 = q := ⟨_, rfl⟩
                rw [hr, hq] at AD hst
                have hr32 : r < 4294967296 := by omega
                have hq32 : q < 4294967296 := by omega
                have AD := Lib.hid AD
                have hGHA : G ≠ HA := by omega
                have hGK : G ≠ K := fun e => hne e.symm
                have HN : Hid (∀ W : World, BlkU W G (pre ++ D3) ∧ Cy W HA q ∧ w.grownBy W (some G) → BlkU (W.setCell ⟨G, off + j, none⟩ (.int .u32 (r : Int))) G (pre ++ (D3.set j r)) ∧ (D3.set j r).length = D.length ∧ Lim (D3.set j r) ∧ (∀ k, (j + 1) ≤ k → (D3.set j r).getD k 0 = D2.getD k 0) ∧ Cy (W.setCell ⟨G, off + j, none⟩ (.int .u32 (r : Int))) HA q ∧ q < 4294967296 ∧ val ((D3.set j r).take (j + 1)) + q * 4294967296 ^ (j + 1) = val (D2.take (j + 1)) + val (Y.take (j + 1)) ∧ w.grownBy (W.setCell ⟨G, off + j, none⟩ (.int .u32 (r : Int))) (some G)) := fun W h =>
                  ⟨seg_set h.1 HPRE.out, by rw [List.length_set]; exact f2, f3.set j hr32, same_set f4, h.2.1.far (by omega), hq32, by rw [val_take_set D3 j r (by omega), tD, tY, Nat.pow_succ]; exact hst, gr_set h.2.2 (.inr rfl)⟩
                have CE : Hid (∀ W : World, BlkU W G (pre ++ D3) ∧ w.grownBy W (some G) → W.cell? ⟨G, off + j, none⟩ = some (.int .u32 (a : Int)) ∧ W.frozen? ⟨G, off + j, none⟩ = false ∧ W.cell? ⟨K, j, none⟩ = some (.int .u32 (y : Int))) := fun W h => by
                  refine ⟨?_, h.1.free _, ?_⟩
                  · have := seg_cell h.1 HPRE.out (i := j) (by omega)
                    rw [hae, ha] at this
                    exact this
                  · have := (HKb.out.grown h.2 hne).cell (j := j) (by omega)
                    rw [hy] at this
                    exact this
                have V0 : Hid (BlkU wr.drew G (pre ++ D3) ∧ Cy wr.drew HA cy ∧ w.grownBy wr.drew (some G)) := ⟨f1.drew, f5.drew, gr_drew f8⟩
                have W1 : Hid (∀ W : World, BlkU W G (pre ++ D3) ∧ Cy W HA cy ∧ w.grownBy W (some G) → BlkU (W.setCell ⟨HA, 0, none⟩ (.int .u64 (q : Int))) G (pre ++ D3) ∧ Cy (W.setCell ⟨HA, 0, none⟩ (.int .u64 (q : Int))) HA q ∧ w.grownBy (W.setCell ⟨HA, 0, none⟩ (.int .u64 (q : Int))) (some G)) := fun W h =>
                  ⟨h.1.far hGHA, h.2.1.set q, gr_set h.2.2 (.inl (by omega))⟩
                clear f1 f2 f3 f4 f5 f6 f7 f8 tY tD hae ha hy hr hq hst HJ hal3 hyl
                obtain ⟨ca, cf, cy1⟩ := CE.out _ ⟨V0.out.1, V0.out.2.2⟩
                go_wp2_with fail
                refine wp_region_held_drew (S := fun W => W.cell? ⟨K, j, none⟩ = some (.int .u32 (y : Int))) (by kernel_rfl) cy1 (fun hHeld => ?_)
                refine wpAnyH_take (i := 0) (oi := _) (v := ?_) rfl (by kernel_rfl) (by kernel_rfl) (by kernel_rfl) (fun _ _ _ h => h) (Or.inl ⟨by rfl, ?_⟩) hHeld ?_
                rotate_left
                · (intro w hSw; (try dsimp only at hSw); go_simp; (try with_reducible rfl))
                (try simp only [Act.put, List.getElem_toArray, List.getElem_cons_succ, List.getElem_cons_zero, List.setIfInBounds_toArray, List.set_cons_zero, List.set_cons_succ])
                refine wpAnyH_take (i := 1) (oi := _) (v := ?_) rfl (by kernel_rfl) (by kernel_rfl) (by kernel_rfl) (fun _ _ _ h => h) (Or.inl ⟨by rfl, ?_⟩) hHeld ?_
                rotate_left
                · (intro w hSw; (try dsimp only at hSw); go_simp; (try with_reducible rfl))
                (try simp only [Act.put, List.getElem_toArray, List.getElem_cons_succ, List.getElem_cons_zero, List.setIfInBounds_toArray, List.set_cons_zero, List.set_cons_succ])
                refine wpAnyH_take (i := 2) (oi := _) (v := ?_) rfl (by kernel_rfl) (by kernel_rfl) (by kernel_rfl) (fun _ _ _ h => h) (Or.inl ⟨by rfl, ?_⟩) hHeld ?_
                rotate_left
                · (intro w hSw; (try dsimp only at hSw); go_simp; (try with_reducible rfl))
                (try simp only [Act.put, List.getElem_toArray, List.getElem_cons_succ, List.getElem_cons_zero, List.setIfInBounds_toArray, List.set_cons_zero, List.set_cons_succ])
                refine wpAnyH_take (i := 3) (oi := _) (v := ?_) rfl (by kernel_rfl) (by kernel_rfl) (by kernel_rfl) (fun _ _ _ h => h) (Or.inl ⟨by rfl, ?_⟩) hHeld ?_
                rotate_left
                · (intro w hSw; (try dsimp only at hSw); go_simp; (try with_reducible rfl))
                (try simp only [Act.put, List.getElem_toArray, List.getElem_cons_succ, List.getElem_cons_zero, List.setIfInBounds_toArray, List.set_cons_zero, List.set_cons_succ])
                refine wpAnyH_take (i := 4) (oi := _) (v := ?_) rfl (by kernel_rfl) (by kernel_rfl) (by kernel_rfl) (fun _ _ _ h => h) (Or.inl ⟨by rfl, ?_⟩) hHeld ?_
                rotate_left
                · (intro w hSw; (try dsimp only at hSw); go_simp; (try with_reducible rfl))
                (try simp only [Act.put, List.getElem_toArray, List.getElem_cons_succ, List.getElem_cons_zero, List.setIfInBounds_toArray, List.set_cons_zero, List.set_cons_succ])
                refine wpAnyH_take (i := 5) (oi := _) (v := ?_) rfl (by kernel_rfl) (by kernel_rfl) (by kernel_rfl) (fun _ _ _ h => h) (Or.inl ⟨by rfl, ?_⟩) hHeld ?_
                rotate_left
                · (intro w hSw; (try dsimp only at hSw); go_simp; (try with_reducible rfl))
                (try simp only [Act.put, List.getElem_toArray, List.getElem_cons_succ, List.getElem_cons_zero, List.setIfInBounds_toArray, List.set_cons_zero, List.set_cons_succ])
                refine wpAnyH_take (i := 7) (oi := _) (v := ?_) rfl (by kernel_rfl) (by kernel_rfl) (by kernel_rfl) (fun _ _ _ h => h) (Or.inl ⟨by rfl, ?_⟩) hHeld ?_
                rotate_left
                · (intro w hSw; (try dsimp only at hSw); go_simp; (try with_reducible rfl))
                (try simp only [Act.put, List.getElem_toArray, List.getElem_cons_succ, List.getElem_cons_zero, List.setIfInBounds_toArray, List.set_cons_zero, List.set_cons_succ])
                refine wpAnyH_take (i := 8) (oi := _) (v := ?_) rfl (by kernel_rfl) (by kernel_rfl) (by kernel_rfl) (fun _ _ _ h => h) (Or.inl ⟨by rfl, ?_⟩) hHeld ?_
                rotate_left
                · (intro w hSw; (try dsimp only at hSw); go_simp; (try with_reducible rfl))
                (try simp only [Act.put, List.getElem_toArray, List.getElem_cons_succ, List.getElem_cons_zero, List.setIfInBounds_toArray, List.set_cons_zero, List.set_cons_succ])
                refine wpAnyH_take (i := 9) (oi := _) (v := ?_) rfl (by kernel_rfl) (by kernel_rfl) (by kernel_rfl) (fun _ _ _ h => h) (Or.inl ⟨by rfl, ?_⟩) hHeld ?_
                rotate_left
                · (intro w hSw; (try dsimp only at hSw); go_simp; (try with_reducible rfl))
                (try simp only [Act.put, List.getElem_toArray, List.getElem_cons_succ, List.getElem_cons_zero, List.setIfInBounds_toArray, List.set_cons_zero, List.set_cons_succ])
                refine wpAnyH_take (i := 10) (oi := _) (v := ?_) rfl (by kernel_rfl) (by kernel_rfl) (by kernel_rfl) (fun _ _ _ h => h) (Or.inl ⟨by rfl, ?_⟩) hHeld ?_
                rotate_left
                · (intro w hSw; (try dsimp only at hSw); go_simp; (try with_reducible rfl))
                (try simp only [Act.put, List.getElem_toArray, List.getElem_cons_succ, List.getElem_cons_zero, List.setIfInBounds_toArray, List.set_cons_zero, List.set_cons_succ])
                refine wpAnyH_ready (rs := [6]) (by kernel_rfl) (by simp) ?_
                refine AllReadyH.cons (o := _) rfl (fun K hK => ?_) AllReadyH.nil
                go_simp
                refine hK.out _ _ ?_ (fun hHeld => ?_)
                · exact cy1
                clear hK K
                (try simp only [Act.put, List.getElem_toArray, List.getElem_cons_succ, List.getElem_cons_zero, List.setIfInBounds_toArray, List.set_cons_zero, List.set_cons_succ])
                refine wpAnyH_ready (rs := [11]) (by kernel_rfl) (by simp) ?_
                refine AllReadyH.cons (o := _) rfl (fun K hK => ?_) AllReadyH.nil
                go_simp
                (with_reducible refine (AD.out _ V0.out.2.1).mono ?_)
                rintro e w9 ⟨rfl, hw9⟩
                have V9 : Hid (BlkU w9 G (pre ++ D3) ∧ Cy w9 HA q ∧ w.grownBy w9 (some G)) := by rw [hw9]; exact W1.out _ V0.out
                obtain ⟨ca9, cf9, cy9⟩ := CE.out _ ⟨V9.out.1, V9.out.2.2⟩
                clear hw9
                go_wp2_with fail
                refine hK.out _ _ ?_ (fun hHeld => ?_)
                · exact cy9
                clear hK K
                (try simp only [Act.put, List.getElem_toArray, List.getElem_cons_succ, List.getElem_cons_zero, List.setIfInBounds_toArray, List.set_cons_zero, List.set_cons_succ])
                refine wpAnyH_take (i := 12) (oi := _) (v := ?_) rfl (by kernel_rfl) (by kernel_rfl) (by kernel_rfl) (fun _ _ _ h => h) (Or.inl ⟨by rfl, ?_⟩) hHeld ?_
                rotate_left
                · (intro w hSw; (try dsimp only at hSw); go_simp; (try with_reducible rfl))
                (try simp only [Act.put, List.getElem_toArray, List.getElem_cons_succ, List.getElem_cons_zero, List.setIfInBounds_toArray, List.set_cons_zero, List.set_cons_succ])
                refine wpAnyH_ready (rs := [13]) (by kernel_rfl) (by simp) ?_
                refine AllReadyH.cons (o := _) rfl (fun K hK => ?_) AllReadyH.nil
                go_simp
                refine hK.out _ _ ?_ (fun hHeld => ?_)
                · exact (World.cell?_setCell_far _ _ _ _ hGK).trans cy9
                clear hK K
                (try simp only [Act.put, List.getElem_toArray, List.getElem_cons_succ, List.getElem_cons_zero, List.setIfInBounds_toArray, List.set_cons_zero, List.set_cons_succ])
                refine wpAnyH_done (by kernel_rfl) ?_ _
                have HNN := Lib.hid (HN.out _ V9.out)
                clear HN W1 V0 V9 CE AD ca cf cy1 ca9 cf9 cy9 hHeld
                go_wp2
                go_roundw
                case rel => exact ⟨j + 1, _, q, by go_num, by omega, HNN⟩
                case measure => simp [intOf]; omega
              · as_aux_lemma =>
                have i1 : ¬ (j : Int) < (i : Int) := by omega
                obtain rfl : j = i := by omega
                obtain ⟨f1, f2, f3, f4, f5, f6, f7, f8⟩ := HJ.out
                have htp := HZ.out.2.2.2
                have hae : D3.getD j 0 = tp := (f4 j (Nat.le_refl _)).trans htp
                have ct := seg_cell f1 HPRE.out (i := j) (by omega)
                rw [hae] at ct
                have tD := val_take1 D2 j
                rw [htp] at tD
                have AD := add_z HA tp cy wr f5 hal f6
                have hst := add_step _ _ _ tp 0 cy _ f7
                rw [Nat.zero_mul, Nat.add_zero (val (Y.take j)), ← tD, ← Nat.pow_succ, HYV.out] at hst
                obtain ⟨r, hr⟩ : ∃ r, (tp + 0 + cy) % 4294967296 = r := ⟨_, rfl⟩
                obtain ⟨q, hq⟩ : ∃ q, (tp + 0 + cy) / 4294967296 = q := ⟨_, rfl⟩
                rw [hr, hq] at AD hst
                rw [← val_take_set D3 j r (by omega)] at hst
                have hr32 : r < 4294967296 := by omega
                have hRl := val_take_lt HL.out.2.1 (j + 1)
                have hq1 : q ≤ 1 := by
                  rcases Nat.lt_or_ge 1 q with h | h
                  · exfalso
                    have h2 : 2 * 4294967296 ^ (j + 1) ≤ q * 4294967296 ^ (j + 1) := Nat.mul_le_mul_right _ h
                    have h3 : 4294967296 ^ j ≤ 4294967296 ^ (j + 1) := Nat.pow_le_pow_right (by decide) (by omega)
                    omega
                  · exact h
                have hb := HR.out.eq
                rw [HZ.out.1] at hb
                have hd1 := HZ.out.2.2.1
                have hbs := back_step P Yv _ d q _ _ hb (by omega) hst hq1
                rw [show d - 1 = d1 by omega] at hbs
                have hGHA : G ≠ HA := by omega
                have AD := Lib.hid AD
                have HN : Hid (∀ W : World, W = wr.setCell ⟨HA, 0, none⟩ (.int .u64 (q : Int)) → R2 w G pre D j P Yv d1 (D3.set j r) (1 - q) (W.setCell ⟨G, off + j, none⟩ (.int .u32 (r : Int))) ∧ W.cell? ⟨G, off + j, none⟩ = some (.int .u32 (tp : Int)) ∧ W.frozen? ⟨G, off + j, none⟩ = false) := fun W hW => by
                  have g1 : BlkU W G (pre ++ D3) := by rw [hW]; exact f1.far hGHA
                  have g2 : w.grownBy W (some G) := by rw [hW]; exact gr_set f8 (.inl (by omega))
                  refine ⟨⟨seg_set g1 HPRE.out, by rw [List.length_set]; exact f2, f3.set j hr32, ?_, by omega, hbs, by have := HZ.out.2.1; omega, by have := HR.out.hi; omega, by have := HR.out.d32; omega, gr_set g2 (.inr rfl)⟩, ?_, g1.free _⟩
                  · intro k hk
                    rw [same_set f4 k hk]
                    exact HL.out.2.2 k hk
                  · have := seg_cell g1 HPRE.out (i := j) (by omega)
                    rw [hae] at this
                    exact this
                have e0 : (0 : Int) ≤ (j : Int) := by omega
                have i4 : (j : Int) < (n1 : Int) := by omega
                clear f1 f2 f3 f4 f5 f6 f7 f8 hae htp tD hst hr hq hRl hq1 hb hbs hd1 HJ hal HR
                go_wp2_with fail
                refine AD.out.mono ?_
                rintro e w9 ⟨rfl, hw9⟩
                obtain ⟨g1, g2, g3⟩ := HN.out w9 hw9
                have HR9 := Lib.hid g1
                clear hw9 g1 HN AD ct
                go_wp2
                go_roundw
                case rel => exact ⟨d1, _, _, rfl, HR9⟩
                case measure => have := HZ.out.2.2.1; simp [intOf]; omega
end Go.Proofs.YtbplchpbaonadaaDoor
