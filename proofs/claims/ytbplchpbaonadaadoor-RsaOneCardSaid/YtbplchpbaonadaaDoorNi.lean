/-
  nat: Sub.
-/
import Derived.Test.YtbplchpbaonadaaDoorNh
import Derived.Deep.RegionHeld3
import Derived.Deep.MidRow
namespace Go.Proofs.YtbplchpbaonadaaDoor
open Go.RowKit Go
set_option linter.unusedVariables false
set_option linter.unusedSimpArgs false
set_option maxRecDepth 100000
def subQ (x y : List Nat) : List Nat × Nat := if rightB x && rightB y && decide (val y ≤ val x) then (num (val x - val y), 0) else ([], 1)
theorem sub1_step (V X Y a p b l o T : Nat) (h : V + Y = X + b * T) (h1 : l + p + b = a + o * 4294967296) : V + l * T + (Y + p * T) = X + a * T + o * (T * 4294967296) := by
  have e1 : (l + p + b) * T = (a + o * 4294967296) * T := by rw [h1]
  rw [Nat.add_mul, Nat.add_mul, Nat.add_mul, Nat.mul_assoc o] at e1
  rw [Nat.mul_comm T 4294967296]
  generalize o * (4294967296 * T) = z1 at *
  generalize l * T = z4 at *
  generalize p * T = z5 at *
  generalize b * T = z6 at *
  generalize a * T = z7 at *
  omega
theorem len_mono {x y : List Nat} (hx : Lim x) (hy : Lim y) (ty : Tip y) (h : val y ≤ val x) : y.length ≤ x.length := by
  have h1 := val_lt x hx
  have h2 := (num_len (val y) x.length).2 (by omega)
  rw [num_val y hy ty] at h2
  exact h2
theorem borrow_out (V X Y b T : Nat) (hV : V < T) (hXY : Y ≤ X) (h : V + Y = X + b * T) : V = X - Y := by
  rcases Nat.lt_or_ge 0 b with h1 | h1
  · exfalso
    have h2 : 1 * T ≤ b * T := Nat.mul_le_mul_right _ h1
    omega
  · have : b = 0 := by omega
    subst this
    omega
theorem cmpZ_neg (x y : List Nat) (hr : rightB x = true) (hs : rightB y = true) : (cmpZ x y < 0) = (val x < val y) := by
  unfold cmpZ cmpV
  rw [hr, hs, Bool.and_self, if_pos rfl]
  apply propext
  by_cases h : val x < val y
  · rw [if_pos h]; exact ⟨fun _ => h, fun _ => by decide⟩
  · rw [if_neg h]
    by_cases h2 : val y < val x
    · rw [if_pos h2]; exact ⟨fun h3 => absurd h3 (by decide), fun h3 => absurd h3 h⟩
    · rw [if_neg h2]; exact ⟨fun h3 => absurd h3 (by decide), fun h3 => absurd h3 h⟩
set_option maxHeartbeats 8000000 in
theorem sub_any (A B : Option Addr) (n c m d : Nat) (x y : List Nat) (w : World) (hA : RU w A n x) (hB : RU w B m y) (hn : n ≤ 300) (hm : m ≤ 300) :
    Calls Tryd.prog 70 #[.slice A n c, .slice B m d] w (NumR w (subQ x y)) := by
  have RA := Lib.hid (right_any A n c x w hA (by omega))
  have RB := Lib.hid (right_any B m d y w hB (by omega))
  have CM := Lib.hid (cmp_any A B n c m d x y w hA hB hn hm)
  have HA := Lib.hid hA
  have HB := Lib.hid hB
  cases hr : rightB x with
  | false =>
    rw [show subQ x y = ([], 1) by unfold subQ; rw [hr]; rfl]
    rw [hr] at RA
    clear hr hA hB
    go_enter Tryd.func70, Tryd.ntmps70
    go_wp2_with fail
    refine RA.out.mono ?_
    rintro e w' ⟨rfl, rfl⟩
    clear RA
    go_wp2
    go_ret2
    exact NumR.err rfl (Below.refl _ _)
  | true =>
    cases hs : rightB y with
    | false =>
      rw [show subQ x y = ([], 1) by unfold subQ; rw [hr, hs]; rfl]
      rw [hr] at RA
      rw [hs] at RB
      clear hr hs hA hB
      go_enter Tryd.func70, Tryd.ntmps70
      go_wp2_with fail
      refine RA.out.mono ?_
      rintro e w' ⟨rfl, rfl⟩
      clear RA
      go_wp2_with fail
      refine RB.out.mono ?_
      rintro e w' ⟨rfl, rfl⟩
      clear RB
      go_wp2
      go_ret2
      exact NumR.err rfl (Below.refl _ _)
    | true =>
      have hz := cmpZ_neg x y hr hs
      by_cases hlt : val x < val y
      · rw [show subQ x y = ([], 1) by unfold subQ; rw [hr, hs, decide_eq_false (by omega)]; rfl]
        obtain ⟨z, hzz⟩ : ∃ z, cmpZ x y = z := ⟨_, rfl⟩
        rw [hzz] at CM hz
        have i1 : z < 0 := by rw [hz]; exact hlt
        rw [hr] at RA
        rw [hs] at RB
        have HLT := Lib.hid hlt
        clear hr hs hA hB hz hzz hlt
        go_enter Tryd.func70, Tryd.ntmps70
        go_wp2_with fail
        refine RA.out.mono ?_
        rintro e w' ⟨rfl, rfl⟩
        clear RA
        go_wp2_with fail
        refine RB.out.mono ?_
        rintro e w' ⟨rfl, rfl⟩
        clear RB
        go_wp2_with fail
        refine CM.out.mono ?_
        rintro e w1 ⟨rfl, hb1⟩
        have HB1 := Lib.hid hb1
        clear CM hb1
        go_wp2
        go_ret2
        exact NumR.err rfl HB1.out
      · rw [show subQ x y = (num (val x - val y), 0) by unfold subQ; rw [hr, hs, decide_eq_true (by omega)]; rfl]
        obtain ⟨z, hzz⟩ : ∃ z, cmpZ x y = z := ⟨_, rfl⟩
        rw [hzz] at CM hz
        have i1 : ¬ z < 0 := by rw [hz]; exact hlt
        obtain ⟨r1, _⟩ := (rightB_iff x).1 hr
        have hmn : m ≤ n := by
          rw [← hA.len, ← hB.len]
          exact len_mono hA.lim hB.lim ((rightB_iff y).1 hs).2 (by omega)
        have hn256 : n ≤ 256 := by rw [← hA.len]; exact r1
        rw [hr] at RA
        rw [hs] at RB
        have HLT : Hid (val y ≤ val x) := Nat.le_of_not_lt hlt
        clear hr hs hA hB hz hzz hlt r1
        go_enter Tryd.func70, Tryd.ntmps70
        go_wp2_with fail
        refine RA.out.mono ?_
        rintro e w' ⟨rfl, rfl⟩
        clear RA
        go_wp2_with fail
        refine RB.out.mono ?_
        rintro e w' ⟨rfl, rfl⟩
        clear RB
        go_wp2_with fail
        refine CM.out.mono ?_
        rintro e w0 ⟨rfl, hb0⟩
        clear CM
        go_wp2_with (refine wpList_mkU _ _ rfl rfl _ _ _ _ n rfl rfl rfl rfl (by omega) ?_)
        intro w1 hblk hb1
        obtain ⟨G, hG⟩ : ∃ G, w0.heap.size = G := ⟨_, rfl⟩
        have hb2 := kp_call hb0 hb1
        have hwG : w.heap.size ≤ G := by have := hb0.size; omega
        rw [hG] at hblk ⊢
        clear hb0 hb1
        go_wp2_with fail
        refine (taker_new w1).mono ?_
        rintro e w2 ⟨rfl, hw2⟩
        obtain ⟨H, hH⟩ : ∃ H, w1.heap.size = H := ⟨_, rfl⟩
        rw [hH]
        have hGH : G < H := by have := hblk.lt; omega
        have H2 : Hid (BlkU w2 G (List.replicate n 0) ∧ Cy w2 H 0 ∧ Below w.heap.size w w2) := by
          rw [hw2]
          exact ⟨has_alloc hblk _, has_new' _ _ _ hH.symm, kp_alloc hb2 _⟩
        clear hw2 hblk hb2 hG hH
        go_wp2
        go_loopw [29] (fun vi wl => ∃ (i : Nat) (L : List Nat) (b : Nat), vi = .int .i64 (i : Int) ∧ i ≤ n ∧ Hid (BlkU wl G L ∧ L.length = n ∧ Lim L ∧ Cy wl H b ∧ b ≤ 1 ∧ val (L.take i) + val (y.take i) = val (x.take i) + b * 4294967296 ^ i ∧ Below w.heap.size w wl)) (fun vi _ => n - (intOf vi).toNat)
        case atStart => exact ⟨0, List.replicate n 0, 0, rfl, Nat.zero_le _, H2.out.1, by simp, Lim.rep n, H2.out.2.1, by decide, by simp [val], H2.out.2.2⟩
        case round =>
          obtain ⟨i, L, bw, rfl, hi, HK⟩ := hrel
          clear H2
          by_cases hlt : i < n
          · have i2 : (i : Int) < (n : Int) := by omega
            have i3 : (0 : Int) ≤ (i : Int) := by omega
            have e3 : IntKind.i64.wrap ((i : Int) + 1) = (i : Int) + 1 := IntWalk.i64_in _ (by omega)
            obtain ⟨f1, f2, f3, f4, f5, f6, f7⟩ := HK.out
            obtain ⟨bx, ox, rfl, hbx, cx⟩ := HA.out.at_ (j := i) (by omega)
            have cx1 := (f7.cell (p := ⟨bx, ox + i, none⟩) hbx).trans cx
            have LB := fun W (hW : Below w.heap.size w W) => limb_any B m d i y W (HB.out.below hW) (by omega) (by omega)
            have ha := HA.out.lim.getD i
            have hp := HB.out.lim.getD i
            have ta := val_take1 x i
            have tb := val_take1 y i
            obtain ⟨a, hae⟩ : ∃ a, x.getD i 0 = a := ⟨_, rfl⟩
            obtain ⟨p, hpe⟩ : ∃ p, y.getD i 0 = p := ⟨_, rfl⟩
            rw [hae] at cx1 ha ta
            rw [hpe] at LB hp tb
            have LB := Lib.hid LB
            obtain ⟨l, o, hl32, ho1, hlo, q1, q2⟩ := take_limb a p bw ha hp f5
            have TK := Lib.hid (fun W (hW : Cy W H bw) => take_one H a p bw l o W hW ha hp f5 q1 q2)
            have HV := Lib.hid (show val ((L.set i l).take (i + 1)) + val (y.take (i + 1)) = val (x.take (i + 1)) + o * 4294967296 ^ (i + 1) by
              rw [val_take_set L i l (by omega), ta, tb, Nat.pow_succ]; exact sub1_step _ _ _ a p bw l o _ f6 hlo)
            have HO := Lib.hid ho1
            have F1 := Lib.hid f1
            have F4 := Lib.hid f4
            have F7 := Lib.hid f7
            have hlen : i < L.length := by omega
            have hne : G ≠ bx := by omega
            have hne2 : H ≠ bx := by omega
            have hwH : w.heap.size ≤ H := by omega
            have HFF := Lib.hid (And.intro f2 f3)
            clear ta tb hae hpe q1 q2 hlo f1 f2 f3 f4 f5 f6 f7 cx ha hp ho1 HK
            go_wp2_with fail
            go_region_held3 (fun W => W.cell? ⟨bx, ox + i, none⟩ = some (.int .u32 (a : Int)))
              (first | exact cx1 | exact g5 | exact (World.cell?_setCell_far _ _ _ _ hne).trans g5)
              (first
                | (go_at_call 50; (with_reducible refine (LB.out _ (by first | exact F7.out | exact F7.out.drew | exact kp_drewN F7.out _)).mono ?_); (rintro e w' ⟨rfl, rfl⟩))
                | (go_at_call 81; (with_reducible refine (TK.out _ (Cy.drew F4.out)).mono ?_); (rintro e w9 ⟨rfl, hw9⟩; have g1 : BlkU w9 G L := (by rw [hw9]; exact (BlkU.drew F1.out).far (by omega)); have g2 : Cy w9 H o := (by rw [hw9]; exact Cy.set (Cy.drew F4.out) o); have g3 : Below w.heap.size w w9 := (by rw [hw9]; exact kp_set (F7.out.drew) hwH); have c1 := g1.cell (j := i) hlen; have c2 := g1.free i; have g5 : w9.cell? ⟨bx, ox + i, none⟩ = some (.int .u32 (a : Int)) := (by rw [hw9]; exact (World.cell?_setCell_far _ _ _ _ hne2).trans cx1); clear hw9)))
            have HN : Hid (BlkU (w9.setCell ⟨G, i, none⟩ (.int .u32 (l : Int))) G (L.set i l) ∧ (L.set i l).length = n ∧ Lim (L.set i l) ∧ Cy (w9.setCell ⟨G, i, none⟩ (.int .u32 (l : Int))) H o ∧ o ≤ 1 ∧ val ((L.set i l).take (i + 1)) + val (y.take (i + 1)) = val (x.take (i + 1)) + o * 4294967296 ^ (i + 1) ∧ Below w.heap.size w (w9.setCell ⟨G, i, none⟩ (.int .u32 (l : Int)))) :=
              ⟨g1.set i l, by simp [HFF.out.1], HFF.out.2.set i hl32, g2.far (by omega), HO.out, HV.out, kp_set g3 hwG⟩
            clear g1 g2 g3 c1 c2 g5 cx1 HV HO HFF F1 F4 F7 TK LB
            go_wp2
            go_roundw
            case rel => exact ⟨i + 1, _, o, by go_num, by omega, HN.out⟩
            case measure => simp [intOf]; omega
          · have i2 : ¬ (i : Int) < (n : Int) := by omega
            have hiN : i = n := by omega
            have HF : Hid (BlkU wr G L ∧ L.length = n ∧ Lim L ∧ Below w.heap.size w wr ∧ val L = val x - val y) := by
              obtain ⟨f1, f2, f3, f4, f5, f6, f7⟩ := HK.out
              refine ⟨f1, f2, f3, f7, ?_⟩
              rw [hiN, take_all (by omega), take_all (by rw [HB.out.len]; exact hmn), take_all (by rw [HA.out.len]; omega)] at f6
              have hLl := val_lt L f3
              rw [f2] at hLl
              exact borrow_out _ _ _ bw _ hLl HLT.out f6
            have TR := trim_any G n L wr HF.out.1 HF.out.2.1 (by omega)
            obtain ⟨t1, t2⟩ := trim_blk (base := 0) HF.out.1 HF.out.2.1 HF.out.2.2.1
            have tle := trimN_le L n
            rw [t1] at TR tle
            rw [HF.out.2.2.2.2] at TR t2 tle
            obtain ⟨v, hv⟩ : ∃ v, val x - val y = v := ⟨_, rfl⟩
            rw [hv] at TR t2 tle
            obtain ⟨k, hk⟩ : ∃ k, (num v).length = k := ⟨_, rfl⟩
            rw [hk] at TR t2 tle
            have TR := Lib.hid TR
            have HT := Lib.hid (show _ ∧ _ ∧ _ from ⟨t2, hk, hv⟩)
            have HI := Lib.hid hiN
            clear HK hiN t1 t2 hv hk
            go_wp2_with fail
            refine TR.out.mono ?_
            rintro e w9 ⟨rfl, rfl⟩
            clear TR
            go_wp2
            go_ret2
            refine ⟨_, k, k, rfl, ?_, Nat.le_refl _, by omega, by omega, HF.out.2.2.2.1⟩
            rw [HT.out.2.2]
            exact NumS.of HF.out.1 hwG HF.out.2.2.1 (by rw [HF.out.2.1]; exact tle) HT.out.1
end Go.Proofs.YtbplchpbaonadaaDoor
