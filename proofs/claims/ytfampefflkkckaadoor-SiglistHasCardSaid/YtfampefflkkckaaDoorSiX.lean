/-
  siglist: the row SiglistHas (made by genSi2.py).
-/
import Derived.Test.YtfampefflkkckaaDoorSiW
import Derived.Deep.RegionHeld3
import Derived.Deep.DrawnRows
namespace Go.Proofs.YtfampefflkkckaaDoor
open Go.RowKit Go
set_option linter.unusedVariables false
set_option linter.unusedSimpArgs false
set_option maxRecDepth 100000

attribute [local go_sem ↓] Go.wp_at_zero Go.wp_at_succ
theorem lim_nil (m d : Nat) : Lim [] m d := ⟨fun x hx => (List.not_mem_nil hx).elim, fun x hx => (List.not_mem_nil hx).elim⟩
def wantP (kd : UInt8) (da : List UInt8) (l : List LM) : Bool := l.any fun z => z.is.any (hasI kd da z.k)
theorem wantP_all (kd : UInt8) (da : List UInt8) (l : List LM) : wantP kd da l = hasQ (l.map LM.lst) kd da := by
  unfold wantP hasQ
  rw [List.any_map]
  rfl
set_option maxHeartbeats 32000000 in
theorem has_row (A : Option Addr) (n c : Nat) (ls : List LM) (a1 : Int) (D : Option Addr) (dn dc : Nat) (da : List UInt8) (w : World) (B0 : IsLs w A n c 140737488351232 140737488351232 140737488351232 ls) (w1 : (Lit.int .u8 a1).wf = true) (B2 : IsBs w D dn dc da) (hT : Sizes w) :
    Calls Tryd.prog 8 #[.slice A n c, .int .u8 a1, .slice D dn dc] w fun e w' => e = .returned (.bool true) ∧ Below w.heap.size w w' := by
  obtain ⟨kd, rfl⟩ : ∃ kd : UInt8, a1 = (kd.toNat : Int) := ⟨UInt8.ofNat a1.toNat, (byte_of_wf w1).symm⟩
  have WK : Hid (∀ W, Below w.heap.size w W → Calls Tryd.prog 9 #[] W fun e w' => e = .returned (.bool true) ∧ Below W.heap.size W w') := fun W h => works18_any W (hT.below' h)
  have LM0 := B0.lim
  have LR := Lib.hid B0.r
  have HL := Lib.hid B0.z
  have VA := Lib.hid (vast_r (W := w) B0.r (fun x hx => Nat.le_trans (LM0.m x hx) (by omega)) (Below.refl _ _))
  have HD := Lib.hid B2.rb
  have HC := Lib.hid (And.intro B0.le B0.max)
  have hdn : dn ≤ 9223372036854775807 := B2.lim
  have HLM := Lib.hid LM0
  clear w1 B0 B2 hT LM0
  go_enter Tryd.func8, Tryd.ntmps8
  go_wp2_with fail
  refine VA.out.mono ?_
  clear VA
  rintro e W1 ⟨v, rfl, hv, hb1⟩
  have HB1 := Lib.hid hb1
  clear hb1
  cases v with
  | true =>
    clear hv
    go_wp2_with fail
    refine (WK.out _ HB1.out).mono ?_
    rintro e W2 ⟨rfl, hb2⟩
    have HB2 := Lib.hid (kp_call HB1.out hb2)
    clear hb2
    go_wp2
    go_ret
    exact ⟨rfl, HB2.out⟩
  | false =>
    have hvv := hv rfl
    clear hv
    by_cases hbig : 16384 < dn
    · have u1 : decide ((dn : Int) > (16384 : Int)) = true := decide_eq_true (by omega)
      have u2 : decide ((16384 : Int) < (dn : Int)) = true := decide_eq_true (by omega)
      have u3 : decide (16384 < dn) = true := decide_eq_true hbig
      clear hbig hvv
      go_wp2_with fail
      refine (WK.out _ HB1.out).mono ?_
      rintro e W2 ⟨rfl, hb2⟩
      have HB2 := Lib.hid (kp_call HB1.out hb2)
      clear hb2
      go_wp2
      go_ret
      exact ⟨rfl, HB2.out⟩
    have u1 : decide ((dn : Int) > (16384 : Int)) = false := decide_eq_false (by omega)
    have u2 : decide ((16384 : Int) < (dn : Int)) = false := decide_eq_false (by omega)
    have u3 : decide (16384 < dn) = false := decide_eq_false hbig
    have hn := hvv.1
    have LH : Hid (Lim (ls.map LM.lst) 4000000000000 1000000000) := ⟨fun x hx => Nat.le_trans (HLM.out.m x hx) (by omega), fun x hx y hy => Nat.le_trans (hvv.2 x hx y hy) (by omega)⟩
    have LT : Hid (Lim (ls.map LM.lst) 3518437208880 1000000000) := ⟨fun x hx => Nat.le_trans (HLM.out.m x hx) (by omega), fun x hx y hy => Nat.le_trans (hvv.2 x hx y hy) (by omega)⟩
    have HN5 : Hid (n ≤ 100000) := by unfold Hid; omega
    have HN6 : Hid (n ≤ 1000000) := by unfold Hid; omega
    have HVD := Lib.hid hvv.2
    have HDN : Hid (dn ≤ 16384) := by unfold Hid; omega
    clear hbig hvv
    go_wp2
    clear u1 u2 u3
    go_loopw [7, 8] (fun u v wl => ∃ (i : Nat) (wv : Bool), u = .bool wv ∧ v = .int .i64 (i : Int) ∧ i ≤ n ∧ Hid (wv = wantP kd da (ls.take i)) ∧ Below w.heap.size w wl) (fun _ v _ => (n - (intOf v).toNat))
    case atStart => exact ⟨0, false, rfl, rfl, Nat.zero_le _, by rw [List.take_zero]; rfl, HB1.out⟩
    case round =>
      obtain ⟨i, wi, rfl, rfl, hi, hw, hb⟩ := hrel
      rcases Nat.lt_or_ge i n with hlt | hge
      · have l1 : decide ((i : Int) < (n : Int)) = true := decide_eq_true (by omega)
        have l2 : decide (i < n) = true := decide_eq_true hlt
        obtain ⟨z, b, off, hg, hA, hbl, hr, zs, hz1⟩ := (HL.out.below hb).at_ hlt
        subst hA
        obtain ⟨za, hza⟩ : ∃ za, z.a = za := ⟨_, rfl⟩
        have HZN : Hid (z.n ≤ 3518437208880) := lim_n HL.out LT.out z (List.mem_of_getElem? hg)
        have K := Lib.hid (And.intro hb (And.intro hw (And.intro hg (And.intro hz1 hr))))
        obtain ⟨wo, hwo⟩ : ∃ wo, wo = wr := ⟨_, rfl⟩
        subst hwo
        clear hb hw hg hr hz1 hbl hi
        go_wp2
        go_loopw [7, 9] (fun u v wl => ∃ (k : Nat) (wv : Bool), u = .bool wv ∧ v = .int .i64 (k : Int) ∧ k ≤ z.n ∧ Hid (wv = (wi || (zs.take k).any fun y => hasI kd da z.k y.itm)) ∧ Below wo.heap.size wo wl) (fun _ v _ => (z.n - (intOf v).toNat))
        case atStart => exact ⟨0, wi, rfl, rfl, Nat.zero_le _, by unfold Hid; rw [List.take_zero, List.any_nil, Bool.or_false], Below.refl _ _⟩
        case round =>
          obtain ⟨k, wv, rfl, rfl, hk, hq, hb⟩ := hrel
          have hrr := range_below K.out.2.2.2.2 hb
          have r0 : wr.cell? ⟨b, off + i * 2, none⟩ = some (.int .u8 (z.k.toNat : Int)) := hrr 0 _ rfl
          have r1 : wr.cell? ⟨b, off + i * 2 + 1, none⟩ = some (.slice za z.n z.c) := by rw [← hza]; exact hrr 1 _ rfl
          rcases Nat.lt_or_ge k z.n with hlt2 | hge2
          · have l3 : decide ((k : Int) < (z.n : Int)) = true := decide_eq_true (by omega)
            have l4 : decide (k < z.n) = true := decide_eq_true hlt2
            obtain ⟨y, b2, off2, hg2, hA2, hbl2, hr2, hy1⟩ := K.out.2.2.2.1.i.at_ hlt2
            rw [hza] at hA2
            subst hA2
            have r2 : wr.cell? ⟨b2, off2 + k * 17 + 16, none⟩ = some (.slice y.a y.n y.c) := data_cell (range_below hr2 hb) hy1.o
            have hyl : y.n ≤ 16384 := by
              have h1 := HVD.out z.lst (List.mem_map_of_mem (List.mem_of_getElem? K.out.2.2.1)) y.itm (lm_item K.out.2.2.2.1 hg2)
              rw [← hy1.r.1]; exact h1
            have K2 := Lib.hid (And.intro hb (And.intro hq (And.intro hg2 (And.intro hy1.c hy1.m))))
            have HASD : Hid (hasQ (ls.map LM.lst) z.k (toldL z.k y.d) = true) := hasQ_yes _ _ _ z.lst (List.mem_map_of_mem (List.mem_of_getElem? K.out.2.2.1)) y.itm (lm_item K.out.2.2.2.1 hg2) (by unfold hasI; show (z.k == z.k && (toldL z.k y.d == toldL z.k y.d)) = true; simp)
            clear hb hq hg2 hr2 hbl2 hrr hk
            have RBW : Hid (RB wo y.a y.n y.d ∧ y.n ≤ 16384) := ⟨hy1.r, hyl⟩
            have STEP : Hid (∀ v, v = (wv || hasI kd da z.k y.itm) → v = (wi || (zs.take (k + 1)).any fun y => hasI kd da z.k y.itm)) := fun v h => by
              rw [List.take_add_one, K2.out.2.2.1, Option.toList_some, List.any_append, ← Bool.or_assoc, ← K2.out.2.1, h]
              simp
            clear hy1 hyl
            by_cases h3 : z.k = 3
            · have g1 : ((z.k.toNat : Int) == 3) = true := by rw [h3]; rfl
              have g2 : (z.k.toNat == 3) = true := by rw [h3]; rfl
              by_cases h32 : 32 < y.n
              · have m1 : decide ((y.n : Int) > (32 : Int)) = true := decide_eq_true (by omega)
                have m2 : decide ((32 : Int) < (y.n : Int)) = true := decide_eq_true (by omega)
                have m3 : decide (32 < y.n) = true := decide_eq_true h32
                have m4 : (32 : Int) ≤ (y.c : Int) := by have := K2.out.2.2.2.1; omega
                have m5 : 32 ≤ y.c := by have := K2.out.2.2.2.1; omega
                obtain ⟨tl, htl⟩ : ∃ tl, tl = y.d.take 32 := ⟨_, rfl⟩
                have HTL2 : Hid (toldL z.k y.d = tl) := by unfold Hid toldL; rw [if_pos h3, htl]
                have HTL : Hid (hasQ (ls.map LM.lst) z.k tl = true ∧ RB wo y.a 32 tl ∧ 32 ≤ 1000000000) := ⟨by rw [← HTL2.out]; exact HASD.out, by rw [htl]; exact rb_take3 RBW.out.1 32 (by omega), by omega⟩
                clear h3 h32 htl
                have l5 : IntKind.i64.wrap ((k : Int) + 1) = ((k + 1 : Nat) : Int) := IntWalk.i64_in _ (by have := HZN.out; omega)
                cases wv with
                | true =>
                  have HSTEP := Lib.hid (STEP.out true (by rw [Bool.true_or]))
                  go_upto_region 14 with fail
                  refine wp_nm fun w2 hw2 => ?_
                  have f2 : w2.cell? ⟨b, off + i * 2, none⟩ = some (.int .u8 (z.k.toNat : Int)) := by rw [← hw2]; exact r0
                  have HB2 : Hid (Below wo.heap.size wo w2) := by unfold Hid; rw [← hw2]; exact K2.out.1
                  clear hw2 r0 r1 r2
                  have BW := Lib.hid (kp_call K.out.1 HB2.out)
                  have B0 := Lib.hid (Below.refl w2.heap.size w2)
                  have KEEP : Hid (∀ W, Below w2.heap.size w2 W → W.cell? ⟨b, off + i * 2, none⟩ = some (.int .u8 (z.k.toNat : Int)) ∧ Below w2.heap.size w2 W) := fun W h => ⟨kp_cell h f2, h⟩
                  have TW : Hid (∀ W, Below w2.heap.size w2 W → Calls Tryd.prog 18 #[.slice (some ⟨b, off, none⟩) n c] W (TwinsPost W n (ls.map LM.lst))) := fun W h => twins_r LR.out LT.out HN6.out (kp_call BW.out h)
                  have T1 : Hid (∀ W, Below w2.heap.size w2 W → Calls Tryd.prog 10 #[.slice y.a 32 y.c] W (Fresh W tl)) := fun W h => twin_any y.a 32 y.c tl W (HTL.out.2.1.below (kp_call HB2.out h)) HTL.out.2.2
                  go_region_held3 (fun W => W.cell? ⟨b, off + i * 2, none⟩ = some (.int .u8 (z.k.toNat : Int)) ∧ Below w2.heap.size w2 W)
                    (((with_reducible refine KEEP.out _ ?_); repeat (with_reducible (first | assumption | exact B0.out | refine kp_drew ?_ | refine kp_call ?_ (by assumption)))))
                    (first
                      | (go_at_call 18; (with_reducible refine (TW.out _ (by (go_split_ands; assumption))).mono ?_); rintro e W5 ⟨A5, c5, rfl, hl5, hb5⟩; have L5 := Lib.hid hl5.r; clear hl5)
                      | (go_at_call 10; (with_reducible refine (T1.out _ (by (go_split_ands; assumption))).mono ?_); rintro e W6 ⟨A6, n6, c6, rfl, ho6, hb6⟩; have O6 := Lib.hid ho6.rb; have hb56 : Below W5.heap.size W5 W6 := (by first | exact hb6 | exact (kp_drew (Below.refl _ _)).trans hb6); have B6 := Lib.hid hb56; clear ho6 hb56)
                      | (go_at_call 14; (with_reducible refine (has_r L5.out LH.out HN5.out z.k A6 n6 c6 tl (by first | exact B6.out | exact kp_drew B6.out) (by first | exact O6.out | exact O6.out.drew)).mono ?_); rintro e W7 ⟨rfl, hb7⟩))
                  rw [HTL.out.1]
                  have BE : Hid (Below wo.heap.size wo W7) := kp_call HB2.out (by repeat (with_reducible (first | assumption | exact B0.out | refine kp_drew ?_ | refine kp_call ?_ (by assumption))))
                  go_wp2
                  go_roundw
                  case rel => exact ⟨k + 1, true, rfl, rfl, hlt2, HSTEP.out, BE.out⟩
                  case measure => simp [intOf]; omega
                | false =>
                  by_cases hk : z.k = kd
                  · have e1 : ((z.k.toNat : Int) == (kd.toNat : Int)) = true := by rw [hk]; simp
                    have e2 : (z.k.toNat == kd.toNat) = true := by rw [hk]; simp
                    have C := Lib.hid (same_any y.a D 32 dn y.c dc tl da wr (HTL.out.2.1.below K2.out.1) (HD.out.below (kp_call K.out.1 K2.out.1)))
                    obtain ⟨v, hv⟩ : ∃ v, (tl == da) = v := ⟨_, rfl⟩
                    rw [hv] at C
                    have HSTEP := Lib.hid (STEP.out v (by rw [Bool.false_or]; unfold hasI; rw [show (z.k == kd) = true by rw [hk]; simp, Bool.true_and, ← hk]; show v = (toldL z.k y.d == da); rw [HTL2.out, hv]))
                    clear hk hv
                    go_upto_region 14 with (go_at_call 13; (with_reducible refine C.out.mono ?_); rintro e W9 ⟨rfl, rfl⟩)
                    refine wp_nm fun w2 hw2 => ?_
                    have f2 : w2.cell? ⟨b, off + i * 2, none⟩ = some (.int .u8 (z.k.toNat : Int)) := by rw [← hw2]; exact r0
                    have HB2 : Hid (Below wo.heap.size wo w2) := by unfold Hid; rw [← hw2]; exact K2.out.1
                    clear hw2 r0 r1 r2
                    have BW := Lib.hid (kp_call K.out.1 HB2.out)
                    have B0 := Lib.hid (Below.refl w2.heap.size w2)
                    have KEEP : Hid (∀ W, Below w2.heap.size w2 W → W.cell? ⟨b, off + i * 2, none⟩ = some (.int .u8 (z.k.toNat : Int)) ∧ Below w2.heap.size w2 W) := fun W h => ⟨kp_cell h f2, h⟩
                    have TW : Hid (∀ W, Below w2.heap.size w2 W → Calls Tryd.prog 18 #[.slice (some ⟨b, off, none⟩) n c] W (TwinsPost W n (ls.map LM.lst))) := fun W h => twins_r LR.out LT.out HN6.out (kp_call BW.out h)
                    have T1 : Hid (∀ W, Below w2.heap.size w2 W → Calls Tryd.prog 10 #[.slice y.a 32 y.c] W (Fresh W tl)) := fun W h => twin_any y.a 32 y.c tl W (HTL.out.2.1.below (kp_call HB2.out h)) HTL.out.2.2
                    go_region_held3 (fun W => W.cell? ⟨b, off + i * 2, none⟩ = some (.int .u8 (z.k.toNat : Int)) ∧ Below w2.heap.size w2 W)
                      (((with_reducible refine KEEP.out _ ?_); repeat (with_reducible (first | assumption | exact B0.out | refine kp_drew ?_ | refine kp_call ?_ (by assumption)))))
                      (first
                        | (go_at_call 18; (with_reducible refine (TW.out _ (by (go_split_ands; assumption))).mono ?_); rintro e W5 ⟨A5, c5, rfl, hl5, hb5⟩; have L5 := Lib.hid hl5.r; clear hl5)
                        | (go_at_call 10; (with_reducible refine (T1.out _ (by (go_split_ands; assumption))).mono ?_); rintro e W6 ⟨A6, n6, c6, rfl, ho6, hb6⟩; have O6 := Lib.hid ho6.rb; have hb56 : Below W5.heap.size W5 W6 := (by first | exact hb6 | exact (kp_drew (Below.refl _ _)).trans hb6); have B6 := Lib.hid hb56; clear ho6 hb56)
                        | (go_at_call 14; (with_reducible refine (has_r L5.out LH.out HN5.out z.k A6 n6 c6 tl (by first | exact B6.out | exact kp_drew B6.out) (by first | exact O6.out | exact O6.out.drew)).mono ?_); rintro e W7 ⟨rfl, hb7⟩))
                    rw [HTL.out.1]
                    have BE : Hid (Below wo.heap.size wo W7) := kp_call HB2.out (by repeat (with_reducible (first | assumption | exact B0.out | refine kp_drew ?_ | refine kp_call ?_ (by assumption))))
                    go_wp2
                    go_roundw
                    case rel => exact ⟨k + 1, v, rfl, rfl, hlt2, HSTEP.out, BE.out⟩
                    case measure => simp [intOf]; omega
                  · have e3 : z.k.toNat ≠ kd.toNat := fun h => hk (UInt8.toNat_inj.1 h)
                    have e1 : ((z.k.toNat : Int) == (kd.toNat : Int)) = false := beq_eq_false_iff_ne.2 (by omega)
                    have e2 : (z.k.toNat == kd.toNat) = false := beq_eq_false_iff_ne.2 e3
                    have HSTEP := Lib.hid (STEP.out false (by rw [Bool.false_or]; unfold hasI; rw [show (z.k == kd) = false from beq_eq_false_iff_ne.2 hk, Bool.false_and]))
                    clear hk
                    go_upto_region 14 with fail
                    refine wp_nm fun w2 hw2 => ?_
                    have f2 : w2.cell? ⟨b, off + i * 2, none⟩ = some (.int .u8 (z.k.toNat : Int)) := by rw [← hw2]; exact r0
                    have HB2 : Hid (Below wo.heap.size wo w2) := by unfold Hid; rw [← hw2]; exact K2.out.1
                    clear hw2 r0 r1 r2
                    have BW := Lib.hid (kp_call K.out.1 HB2.out)
                    have B0 := Lib.hid (Below.refl w2.heap.size w2)
                    have KEEP : Hid (∀ W, Below w2.heap.size w2 W → W.cell? ⟨b, off + i * 2, none⟩ = some (.int .u8 (z.k.toNat : Int)) ∧ Below w2.heap.size w2 W) := fun W h => ⟨kp_cell h f2, h⟩
                    have TW : Hid (∀ W, Below w2.heap.size w2 W → Calls Tryd.prog 18 #[.slice (some ⟨b, off, none⟩) n c] W (TwinsPost W n (ls.map LM.lst))) := fun W h => twins_r LR.out LT.out HN6.out (kp_call BW.out h)
                    have T1 : Hid (∀ W, Below w2.heap.size w2 W → Calls Tryd.prog 10 #[.slice y.a 32 y.c] W (Fresh W tl)) := fun W h => twin_any y.a 32 y.c tl W (HTL.out.2.1.below (kp_call HB2.out h)) HTL.out.2.2
                    go_region_held3 (fun W => W.cell? ⟨b, off + i * 2, none⟩ = some (.int .u8 (z.k.toNat : Int)) ∧ Below w2.heap.size w2 W)
                      (((with_reducible refine KEEP.out _ ?_); repeat (with_reducible (first | assumption | exact B0.out | refine kp_drew ?_ | refine kp_call ?_ (by assumption)))))
                      (first
                        | (go_at_call 18; (with_reducible refine (TW.out _ (by (go_split_ands; assumption))).mono ?_); rintro e W5 ⟨A5, c5, rfl, hl5, hb5⟩; have L5 := Lib.hid hl5.r; clear hl5)
                        | (go_at_call 10; (with_reducible refine (T1.out _ (by (go_split_ands; assumption))).mono ?_); rintro e W6 ⟨A6, n6, c6, rfl, ho6, hb6⟩; have O6 := Lib.hid ho6.rb; have hb56 : Below W5.heap.size W5 W6 := (by first | exact hb6 | exact (kp_drew (Below.refl _ _)).trans hb6); have B6 := Lib.hid hb56; clear ho6 hb56)
                        | (go_at_call 14; (with_reducible refine (has_r L5.out LH.out HN5.out z.k A6 n6 c6 tl (by first | exact B6.out | exact kp_drew B6.out) (by first | exact O6.out | exact O6.out.drew)).mono ?_); rintro e W7 ⟨rfl, hb7⟩))
                    rw [HTL.out.1]
                    have BE : Hid (Below wo.heap.size wo W7) := kp_call HB2.out (by repeat (with_reducible (first | assumption | exact B0.out | refine kp_drew ?_ | refine kp_call ?_ (by assumption))))
                    go_wp2
                    go_roundw
                    case rel => exact ⟨k + 1, false, rfl, rfl, hlt2, HSTEP.out, BE.out⟩
                    case measure => simp [intOf]; omega
              · have m1 : decide ((y.n : Int) > (32 : Int)) = false := decide_eq_false (by omega)
                have m2 : decide ((32 : Int) < (y.n : Int)) = false := decide_eq_false (by omega)
                have m3 : decide (32 < y.n) = false := decide_eq_false h32
                obtain ⟨tl, htl⟩ : ∃ tl, tl = y.d := ⟨_, rfl⟩
                have HTL2 : Hid (toldL z.k y.d = tl) := by unfold Hid toldL; rw [if_pos h3, htl, List.take_of_length_le (by rw [RBW.out.1.1]; omega)]
                have HTL : Hid (hasQ (ls.map LM.lst) z.k tl = true ∧ RB wo y.a y.n tl ∧ y.n ≤ 1000000000) := ⟨by rw [← HTL2.out]; exact HASD.out, by rw [htl]; exact RBW.out.1, by have := RBW.out.2; omega⟩
                clear h3 h32 htl
                have l5 : IntKind.i64.wrap ((k : Int) + 1) = ((k + 1 : Nat) : Int) := IntWalk.i64_in _ (by have := HZN.out; omega)
                cases wv with
                | true =>
                  have HSTEP := Lib.hid (STEP.out true (by rw [Bool.true_or]))
                  go_upto_region 14 with fail
                  refine wp_nm fun w2 hw2 => ?_
                  have f2 : w2.cell? ⟨b, off + i * 2, none⟩ = some (.int .u8 (z.k.toNat : Int)) := by rw [← hw2]; exact r0
                  have HB2 : Hid (Below wo.heap.size wo w2) := by unfold Hid; rw [← hw2]; exact K2.out.1
                  clear hw2 r0 r1 r2
                  have BW := Lib.hid (kp_call K.out.1 HB2.out)
                  have B0 := Lib.hid (Below.refl w2.heap.size w2)
                  have KEEP : Hid (∀ W, Below w2.heap.size w2 W → W.cell? ⟨b, off + i * 2, none⟩ = some (.int .u8 (z.k.toNat : Int)) ∧ Below w2.heap.size w2 W) := fun W h => ⟨kp_cell h f2, h⟩
                  have TW : Hid (∀ W, Below w2.heap.size w2 W → Calls Tryd.prog 18 #[.slice (some ⟨b, off, none⟩) n c] W (TwinsPost W n (ls.map LM.lst))) := fun W h => twins_r LR.out LT.out HN6.out (kp_call BW.out h)
                  have T1 : Hid (∀ W, Below w2.heap.size w2 W → Calls Tryd.prog 10 #[.slice y.a y.n y.c] W (Fresh W tl)) := fun W h => twin_any y.a y.n y.c tl W (HTL.out.2.1.below (kp_call HB2.out h)) HTL.out.2.2
                  go_region_held3 (fun W => W.cell? ⟨b, off + i * 2, none⟩ = some (.int .u8 (z.k.toNat : Int)) ∧ Below w2.heap.size w2 W)
                    (((with_reducible refine KEEP.out _ ?_); repeat (with_reducible (first | assumption | exact B0.out | refine kp_drew ?_ | refine kp_call ?_ (by assumption)))))
                    (first
                      | (go_at_call 18; (with_reducible refine (TW.out _ (by (go_split_ands; assumption))).mono ?_); rintro e W5 ⟨A5, c5, rfl, hl5, hb5⟩; have L5 := Lib.hid hl5.r; clear hl5)
                      | (go_at_call 10; (with_reducible refine (T1.out _ (by (go_split_ands; assumption))).mono ?_); rintro e W6 ⟨A6, n6, c6, rfl, ho6, hb6⟩; have O6 := Lib.hid ho6.rb; have hb56 : Below W5.heap.size W5 W6 := (by first | exact hb6 | exact (kp_drew (Below.refl _ _)).trans hb6); have B6 := Lib.hid hb56; clear ho6 hb56)
                      | (go_at_call 14; (with_reducible refine (has_r L5.out LH.out HN5.out z.k A6 n6 c6 tl (by first | exact B6.out | exact kp_drew B6.out) (by first | exact O6.out | exact O6.out.drew)).mono ?_); rintro e W7 ⟨rfl, hb7⟩))
                  rw [HTL.out.1]
                  have BE : Hid (Below wo.heap.size wo W7) := kp_call HB2.out (by repeat (with_reducible (first | assumption | exact B0.out | refine kp_drew ?_ | refine kp_call ?_ (by assumption))))
                  go_wp2
                  go_roundw
                  case rel => exact ⟨k + 1, true, rfl, rfl, hlt2, HSTEP.out, BE.out⟩
                  case measure => simp [intOf]; omega
                | false =>
                  by_cases hk : z.k = kd
                  · have e1 : ((z.k.toNat : Int) == (kd.toNat : Int)) = true := by rw [hk]; simp
                    have e2 : (z.k.toNat == kd.toNat) = true := by rw [hk]; simp
                    have C := Lib.hid (same_any y.a D y.n dn y.c dc tl da wr (HTL.out.2.1.below K2.out.1) (HD.out.below (kp_call K.out.1 K2.out.1)))
                    obtain ⟨v, hv⟩ : ∃ v, (tl == da) = v := ⟨_, rfl⟩
                    rw [hv] at C
                    have HSTEP := Lib.hid (STEP.out v (by rw [Bool.false_or]; unfold hasI; rw [show (z.k == kd) = true by rw [hk]; simp, Bool.true_and, ← hk]; show v = (toldL z.k y.d == da); rw [HTL2.out, hv]))
                    clear hk hv
                    go_upto_region 14 with (go_at_call 13; (with_reducible refine C.out.mono ?_); rintro e W9 ⟨rfl, rfl⟩)
                    refine wp_nm fun w2 hw2 => ?_
                    have f2 : w2.cell? ⟨b, off + i * 2, none⟩ = some (.int .u8 (z.k.toNat : Int)) := by rw [← hw2]; exact r0
                    have HB2 : Hid (Below wo.heap.size wo w2) := by unfold Hid; rw [← hw2]; exact K2.out.1
                    clear hw2 r0 r1 r2
                    have BW := Lib.hid (kp_call K.out.1 HB2.out)
                    have B0 := Lib.hid (Below.refl w2.heap.size w2)
                    have KEEP : Hid (∀ W, Below w2.heap.size w2 W → W.cell? ⟨b, off + i * 2, none⟩ = some (.int .u8 (z.k.toNat : Int)) ∧ Below w2.heap.size w2 W) := fun W h => ⟨kp_cell h f2, h⟩
                    have TW : Hid (∀ W, Below w2.heap.size w2 W → Calls Tryd.prog 18 #[.slice (some ⟨b, off, none⟩) n c] W (TwinsPost W n (ls.map LM.lst))) := fun W h => twins_r LR.out LT.out HN6.out (kp_call BW.out h)
                    have T1 : Hid (∀ W, Below w2.heap.size w2 W → Calls Tryd.prog 10 #[.slice y.a y.n y.c] W (Fresh W tl)) := fun W h => twin_any y.a y.n y.c tl W (HTL.out.2.1.below (kp_call HB2.out h)) HTL.out.2.2
                    go_region_held3 (fun W => W.cell? ⟨b, off + i * 2, none⟩ = some (.int .u8 (z.k.toNat : Int)) ∧ Below w2.heap.size w2 W)
                      (((with_reducible refine KEEP.out _ ?_); repeat (with_reducible (first | assumption | exact B0.out | refine kp_drew ?_ | refine kp_call ?_ (by assumption)))))
                      (first
                        | (go_at_call 18; (with_reducible refine (TW.out _ (by (go_split_ands; assumption))).mono ?_); rintro e W5 ⟨A5, c5, rfl, hl5, hb5⟩; have L5 := Lib.hid hl5.r; clear hl5)
                        | (go_at_call 10; (with_reducible refine (T1.out _ (by (go_split_ands; assumption))).mono ?_); rintro e W6 ⟨A6, n6, c6, rfl, ho6, hb6⟩; have O6 := Lib.hid ho6.rb; have hb56 : Below W5.heap.size W5 W6 := (by first | exact hb6 | exact (kp_drew (Below.refl _ _)).trans hb6); have B6 := Lib.hid hb56; clear ho6 hb56)
                        | (go_at_call 14; (with_reducible refine (has_r L5.out LH.out HN5.out z.k A6 n6 c6 tl (by first | exact B6.out | exact kp_drew B6.out) (by first | exact O6.out | exact O6.out.drew)).mono ?_); rintro e W7 ⟨rfl, hb7⟩))
                    rw [HTL.out.1]
                    have BE : Hid (Below wo.heap.size wo W7) := kp_call HB2.out (by repeat (with_reducible (first | assumption | exact B0.out | refine kp_drew ?_ | refine kp_call ?_ (by assumption))))
                    go_wp2
                    go_roundw
                    case rel => exact ⟨k + 1, v, rfl, rfl, hlt2, HSTEP.out, BE.out⟩
                    case measure => simp [intOf]; omega
                  · have e3 : z.k.toNat ≠ kd.toNat := fun h => hk (UInt8.toNat_inj.1 h)
                    have e1 : ((z.k.toNat : Int) == (kd.toNat : Int)) = false := beq_eq_false_iff_ne.2 (by omega)
                    have e2 : (z.k.toNat == kd.toNat) = false := beq_eq_false_iff_ne.2 e3
                    have HSTEP := Lib.hid (STEP.out false (by rw [Bool.false_or]; unfold hasI; rw [show (z.k == kd) = false from beq_eq_false_iff_ne.2 hk, Bool.false_and]))
                    clear hk
                    go_upto_region 14 with fail
                    refine wp_nm fun w2 hw2 => ?_
                    have f2 : w2.cell? ⟨b, off + i * 2, none⟩ = some (.int .u8 (z.k.toNat : Int)) := by rw [← hw2]; exact r0
                    have HB2 : Hid (Below wo.heap.size wo w2) := by unfold Hid; rw [← hw2]; exact K2.out.1
                    clear hw2 r0 r1 r2
                    have BW := Lib.hid (kp_call K.out.1 HB2.out)
                    have B0 := Lib.hid (Below.refl w2.heap.size w2)
                    have KEEP : Hid (∀ W, Below w2.heap.size w2 W → W.cell? ⟨b, off + i * 2, none⟩ = some (.int .u8 (z.k.toNat : Int)) ∧ Below w2.heap.size w2 W) := fun W h => ⟨kp_cell h f2, h⟩
                    have TW : Hid (∀ W, Below w2.heap.size w2 W → Calls Tryd.prog 18 #[.slice (some ⟨b, off, none⟩) n c] W (TwinsPost W n (ls.map LM.lst))) := fun W h => twins_r LR.out LT.out HN6.out (kp_call BW.out h)
                    have T1 : Hid (∀ W, Below w2.heap.size w2 W → Calls Tryd.prog 10 #[.slice y.a y.n y.c] W (Fresh W tl)) := fun W h => twin_any y.a y.n y.c tl W (HTL.out.2.1.below (kp_call HB2.out h)) HTL.out.2.2
                    go_region_held3 (fun W => W.cell? ⟨b, off + i * 2, none⟩ = some (.int .u8 (z.k.toNat : Int)) ∧ Below w2.heap.size w2 W)
                      (((with_reducible refine KEEP.out _ ?_); repeat (with_reducible (first | assumption | exact B0.out | refine kp_drew ?_ | refine kp_call ?_ (by assumption)))))
                      (first
                        | (go_at_call 18; (with_reducible refine (TW.out _ (by (go_split_ands; assumption))).mono ?_); rintro e W5 ⟨A5, c5, rfl, hl5, hb5⟩; have L5 := Lib.hid hl5.r; clear hl5)
                        | (go_at_call 10; (with_reducible refine (T1.out _ (by (go_split_ands; assumption))).mono ?_); rintro e W6 ⟨A6, n6, c6, rfl, ho6, hb6⟩; have O6 := Lib.hid ho6.rb; have hb56 : Below W5.heap.size W5 W6 := (by first | exact hb6 | exact (kp_drew (Below.refl _ _)).trans hb6); have B6 := Lib.hid hb56; clear ho6 hb56)
                        | (go_at_call 14; (with_reducible refine (has_r L5.out LH.out HN5.out z.k A6 n6 c6 tl (by first | exact B6.out | exact kp_drew B6.out) (by first | exact O6.out | exact O6.out.drew)).mono ?_); rintro e W7 ⟨rfl, hb7⟩))
                    rw [HTL.out.1]
                    have BE : Hid (Below wo.heap.size wo W7) := kp_call HB2.out (by repeat (with_reducible (first | assumption | exact B0.out | refine kp_drew ?_ | refine kp_call ?_ (by assumption))))
                    go_wp2
                    go_roundw
                    case rel => exact ⟨k + 1, false, rfl, rfl, hlt2, HSTEP.out, BE.out⟩
                    case measure => simp [intOf]; omega
            · have g3 : z.k.toNat ≠ 3 := fun h => h3 (UInt8.toNat_inj.1 h)
              have g1 : ((z.k.toNat : Int) == 3) = false := beq_eq_false_iff_ne.2 (by omega)
              have g2 : (z.k.toNat == 3) = false := beq_eq_false_iff_ne.2 g3
              obtain ⟨tl, htl⟩ : ∃ tl, tl = y.d := ⟨_, rfl⟩
              have HTL2 : Hid (toldL z.k y.d = tl) := by unfold Hid toldL; rw [if_neg h3, htl]
              have HTL : Hid (hasQ (ls.map LM.lst) z.k tl = true ∧ RB wo y.a y.n tl ∧ y.n ≤ 1000000000) := ⟨by rw [← HTL2.out]; exact HASD.out, by rw [htl]; exact RBW.out.1, by have := RBW.out.2; omega⟩
              clear h3 htl
              have l5 : IntKind.i64.wrap ((k : Int) + 1) = ((k + 1 : Nat) : Int) := IntWalk.i64_in _ (by have := HZN.out; omega)
              cases wv with
              | true =>
                have HSTEP := Lib.hid (STEP.out true (by rw [Bool.true_or]))
                go_upto_region 14 with fail
                refine wp_nm fun w2 hw2 => ?_
                have f2 : w2.cell? ⟨b, off + i * 2, none⟩ = some (.int .u8 (z.k.toNat : Int)) := by rw [← hw2]; exact r0
                have HB2 : Hid (Below wo.heap.size wo w2) := by unfold Hid; rw [← hw2]; exact K2.out.1
                clear hw2 r0 r1 r2
                have BW := Lib.hid (kp_call K.out.1 HB2.out)
                have B0 := Lib.hid (Below.refl w2.heap.size w2)
                have KEEP : Hid (∀ W, Below w2.heap.size w2 W → W.cell? ⟨b, off + i * 2, none⟩ = some (.int .u8 (z.k.toNat : Int)) ∧ Below w2.heap.size w2 W) := fun W h => ⟨kp_cell h f2, h⟩
                have TW : Hid (∀ W, Below w2.heap.size w2 W → Calls Tryd.prog 18 #[.slice (some ⟨b, off, none⟩) n c] W (TwinsPost W n (ls.map LM.lst))) := fun W h => twins_r LR.out LT.out HN6.out (kp_call BW.out h)
                have T1 : Hid (∀ W, Below w2.heap.size w2 W → Calls Tryd.prog 10 #[.slice y.a y.n y.c] W (Fresh W tl)) := fun W h => twin_any y.a y.n y.c tl W (HTL.out.2.1.below (kp_call HB2.out h)) HTL.out.2.2
                go_region_held3 (fun W => W.cell? ⟨b, off + i * 2, none⟩ = some (.int .u8 (z.k.toNat : Int)) ∧ Below w2.heap.size w2 W)
                  (((with_reducible refine KEEP.out _ ?_); repeat (with_reducible (first | assumption | exact B0.out | refine kp_drew ?_ | refine kp_call ?_ (by assumption)))))
                  (first
                    | (go_at_call 18; (with_reducible refine (TW.out _ (by (go_split_ands; assumption))).mono ?_); rintro e W5 ⟨A5, c5, rfl, hl5, hb5⟩; have L5 := Lib.hid hl5.r; clear hl5)
                    | (go_at_call 10; (with_reducible refine (T1.out _ (by (go_split_ands; assumption))).mono ?_); rintro e W6 ⟨A6, n6, c6, rfl, ho6, hb6⟩; have O6 := Lib.hid ho6.rb; have hb56 : Below W5.heap.size W5 W6 := (by first | exact hb6 | exact (kp_drew (Below.refl _ _)).trans hb6); have B6 := Lib.hid hb56; clear ho6 hb56)
                    | (go_at_call 14; (with_reducible refine (has_r L5.out LH.out HN5.out z.k A6 n6 c6 tl (by first | exact B6.out | exact kp_drew B6.out) (by first | exact O6.out | exact O6.out.drew)).mono ?_); rintro e W7 ⟨rfl, hb7⟩))
                rw [HTL.out.1]
                have BE : Hid (Below wo.heap.size wo W7) := kp_call HB2.out (by repeat (with_reducible (first | assumption | exact B0.out | refine kp_drew ?_ | refine kp_call ?_ (by assumption))))
                go_wp2
                go_roundw
                case rel => exact ⟨k + 1, true, rfl, rfl, hlt2, HSTEP.out, BE.out⟩
                case measure => simp [intOf]; omega
              | false =>
                by_cases hk : z.k = kd
                · have e1 : ((z.k.toNat : Int) == (kd.toNat : Int)) = true := by rw [hk]; simp
                  have e2 : (z.k.toNat == kd.toNat) = true := by rw [hk]; simp
                  have C := Lib.hid (same_any y.a D y.n dn y.c dc tl da wr (HTL.out.2.1.below K2.out.1) (HD.out.below (kp_call K.out.1 K2.out.1)))
                  obtain ⟨v, hv⟩ : ∃ v, (tl == da) = v := ⟨_, rfl⟩
                  rw [hv] at C
                  have HSTEP := Lib.hid (STEP.out v (by rw [Bool.false_or]; unfold hasI; rw [show (z.k == kd) = true by rw [hk]; simp, Bool.true_and, ← hk]; show v = (toldL z.k y.d == da); rw [HTL2.out, hv]))
                  clear hk hv
                  go_upto_region 14 with (go_at_call 13; (with_reducible refine C.out.mono ?_); rintro e W9 ⟨rfl, rfl⟩)
                  refine wp_nm fun w2 hw2 => ?_
                  have f2 : w2.cell? ⟨b, off + i * 2, none⟩ = some (.int .u8 (z.k.toNat : Int)) := by rw [← hw2]; exact r0
                  have HB2 : Hid (Below wo.heap.size wo w2) := by unfold Hid; rw [← hw2]; exact K2.out.1
                  clear hw2 r0 r1 r2
                  have BW := Lib.hid (kp_call K.out.1 HB2.out)
                  have B0 := Lib.hid (Below.refl w2.heap.size w2)
                  have KEEP : Hid (∀ W, Below w2.heap.size w2 W → W.cell? ⟨b, off + i * 2, none⟩ = some (.int .u8 (z.k.toNat : Int)) ∧ Below w2.heap.size w2 W) := fun W h => ⟨kp_cell h f2, h⟩
                  have TW : Hid (∀ W, Below w2.heap.size w2 W → Calls Tryd.prog 18 #[.slice (some ⟨b, off, none⟩) n c] W (TwinsPost W n (ls.map LM.lst))) := fun W h => twins_r LR.out LT.out HN6.out (kp_call BW.out h)
                  have T1 : Hid (∀ W, Below w2.heap.size w2 W → Calls Tryd.prog 10 #[.slice y.a y.n y.c] W (Fresh W tl)) := fun W h => twin_any y.a y.n y.c tl W (HTL.out.2.1.below (kp_call HB2.out h)) HTL.out.2.2
                  go_region_held3 (fun W => W.cell? ⟨b, off + i * 2, none⟩ = some (.int .u8 (z.k.toNat : Int)) ∧ Below w2.heap.size w2 W)
                    (((with_reducible refine KEEP.out _ ?_); repeat (with_reducible (first | assumption | exact B0.out | refine kp_drew ?_ | refine kp_call ?_ (by assumption)))))
                    (first
                      | (go_at_call 18; (with_reducible refine (TW.out _ (by (go_split_ands; assumption))).mono ?_); rintro e W5 ⟨A5, c5, rfl, hl5, hb5⟩; have L5 := Lib.hid hl5.r; clear hl5)
                      | (go_at_call 10; (with_reducible refine (T1.out _ (by (go_split_ands; assumption))).mono ?_); rintro e W6 ⟨A6, n6, c6, rfl, ho6, hb6⟩; have O6 := Lib.hid ho6.rb; have hb56 : Below W5.heap.size W5 W6 := (by first | exact hb6 | exact (kp_drew (Below.refl _ _)).trans hb6); have B6 := Lib.hid hb56; clear ho6 hb56)
                      | (go_at_call 14; (with_reducible refine (has_r L5.out LH.out HN5.out z.k A6 n6 c6 tl (by first | exact B6.out | exact kp_drew B6.out) (by first | exact O6.out | exact O6.out.drew)).mono ?_); rintro e W7 ⟨rfl, hb7⟩))
                  rw [HTL.out.1]
                  have BE : Hid (Below wo.heap.size wo W7) := kp_call HB2.out (by repeat (with_reducible (first | assumption | exact B0.out | refine kp_drew ?_ | refine kp_call ?_ (by assumption))))
                  go_wp2
                  go_roundw
                  case rel => exact ⟨k + 1, v, rfl, rfl, hlt2, HSTEP.out, BE.out⟩
                  case measure => simp [intOf]; omega
                · have e3 : z.k.toNat ≠ kd.toNat := fun h => hk (UInt8.toNat_inj.1 h)
                  have e1 : ((z.k.toNat : Int) == (kd.toNat : Int)) = false := beq_eq_false_iff_ne.2 (by omega)
                  have e2 : (z.k.toNat == kd.toNat) = false := beq_eq_false_iff_ne.2 e3
                  have HSTEP := Lib.hid (STEP.out false (by rw [Bool.false_or]; unfold hasI; rw [show (z.k == kd) = false from beq_eq_false_iff_ne.2 hk, Bool.false_and]))
                  clear hk
                  go_upto_region 14 with fail
                  refine wp_nm fun w2 hw2 => ?_
                  have f2 : w2.cell? ⟨b, off + i * 2, none⟩ = some (.int .u8 (z.k.toNat : Int)) := by rw [← hw2]; exact r0
                  have HB2 : Hid (Below wo.heap.size wo w2) := by unfold Hid; rw [← hw2]; exact K2.out.1
                  clear hw2 r0 r1 r2
                  have BW := Lib.hid (kp_call K.out.1 HB2.out)
                  have B0 := Lib.hid (Below.refl w2.heap.size w2)
                  have KEEP : Hid (∀ W, Below w2.heap.size w2 W → W.cell? ⟨b, off + i * 2, none⟩ = some (.int .u8 (z.k.toNat : Int)) ∧ Below w2.heap.size w2 W) := fun W h => ⟨kp_cell h f2, h⟩
                  have TW : Hid (∀ W, Below w2.heap.size w2 W → Calls Tryd.prog 18 #[.slice (some ⟨b, off, none⟩) n c] W (TwinsPost W n (ls.map LM.lst))) := fun W h => twins_r LR.out LT.out HN6.out (kp_call BW.out h)
                  have T1 : Hid (∀ W, Below w2.heap.size w2 W → Calls Tryd.prog 10 #[.slice y.a y.n y.c] W (Fresh W tl)) := fun W h => twin_any y.a y.n y.c tl W (HTL.out.2.1.below (kp_call HB2.out h)) HTL.out.2.2
                  go_region_held3 (fun W => W.cell? ⟨b, off + i * 2, none⟩ = some (.int .u8 (z.k.toNat : Int)) ∧ Below w2.heap.size w2 W)
                    (((with_reducible refine KEEP.out _ ?_); repeat (with_reducible (first | assumption | exact B0.out | refine kp_drew ?_ | refine kp_call ?_ (by assumption)))))
                    (first
                      | (go_at_call 18; (with_reducible refine (TW.out _ (by (go_split_ands; assumption))).mono ?_); rintro e W5 ⟨A5, c5, rfl, hl5, hb5⟩; have L5 := Lib.hid hl5.r; clear hl5)
                      | (go_at_call 10; (with_reducible refine (T1.out _ (by (go_split_ands; assumption))).mono ?_); rintro e W6 ⟨A6, n6, c6, rfl, ho6, hb6⟩; have O6 := Lib.hid ho6.rb; have hb56 : Below W5.heap.size W5 W6 := (by first | exact hb6 | exact (kp_drew (Below.refl _ _)).trans hb6); have B6 := Lib.hid hb56; clear ho6 hb56)
                      | (go_at_call 14; (with_reducible refine (has_r L5.out LH.out HN5.out z.k A6 n6 c6 tl (by first | exact B6.out | exact kp_drew B6.out) (by first | exact O6.out | exact O6.out.drew)).mono ?_); rintro e W7 ⟨rfl, hb7⟩))
                  rw [HTL.out.1]
                  have BE : Hid (Below wo.heap.size wo W7) := kp_call HB2.out (by repeat (with_reducible (first | assumption | exact B0.out | refine kp_drew ?_ | refine kp_call ?_ (by assumption))))
                  go_wp2
                  go_roundw
                  case rel => exact ⟨k + 1, false, rfl, rfl, hlt2, HSTEP.out, BE.out⟩
                  case measure => simp [intOf]; omega
          · have hkm : k = z.n := by omega
            have l3 : decide ((k : Int) < (z.n : Int)) = false := decide_eq_false (by omega)
            have l4 : decide (k < z.n) = false := decide_eq_false (by omega)
            have l5 : IntKind.i64.wrap ((i : Int) + 1) = ((i + 1 : Nat) : Int) := IntWalk.i64_in _ (by omega)
            have HB2 := Lib.hid (kp_call K.out.1 hb)
            have NEXT : Hid (wv = wantP kd da (ls.take (i + 1))) := by
              have h1 := hq
              unfold Hid at h1 ⊢
              rw [h1, hkm, List.take_of_length_le (by rw [K.out.2.2.2.1.i.len]; exact Nat.le_refl _)]
              unfold wantP
              rw [List.take_add_one, K.out.2.2.1, Option.toList_some, List.any_append]
              have h2 : [z].any (fun z => z.is.any (hasI kd da z.k)) = zs.any fun y => hasI kd da z.k y.itm := by
                simp only [List.any_cons, List.any_nil, Bool.or_false]
                rw [← K.out.2.2.2.1.e, List.any_map]
                rfl
              rw [h2]
              have h3 := K.out.2.1
              unfold Hid wantP at h3
              try rw [h3]
            clear hb hq hge2 hkm hrr
            go_wp2
            go_roundw
            case rel => exact ⟨i + 1, wv, rfl, rfl, hlt, NEXT.out, HB2.out⟩
            case measure => simp [intOf]; omega
      · have hin : i = n := by omega
        have l1 : decide ((i : Int) < (n : Int)) = false := decide_eq_false (by omega)
        have l2 : decide (i < n) = false := decide_eq_false (by omega)
        have HW : Hid (hasQ (ls.map LM.lst) kd da = wi) := by
          have h1 := hw
          unfold Hid at h1 ⊢
          rw [h1, hin, List.take_of_length_le (by rw [HL.out.len]; exact Nat.le_refl _), wantP_all]
        have BW := Lib.hid hb
        have TW : Hid (∀ W, Below wr.heap.size wr W → Calls Tryd.prog 18 #[.slice A n c] W (TwinsPost W n (ls.map LM.lst))) := fun W h => twins_r LR.out LT.out HN6.out (kp_call BW.out h)
        have T1 : Hid (∀ W, Below wr.heap.size wr W → Calls Tryd.prog 10 #[.slice D dn dc] W (Fresh W da)) := fun W h => twin_any D dn dc da W (HD.out.below (kp_call BW.out h)) (by have := HDN.out; omega)
        clear hin hw hb hge hi
        go_wp2_with fail
        refine (TW.out wr (Below.refl _ _)).mono ?_
        rintro e W5 ⟨A5, c5, rfl, hl5, hb5⟩
        have L5 := Lib.hid hl5.r
        have B5 := Lib.hid hb5
        clear hl5 hb5
        go_wp2_with fail
        refine (T1.out W5 B5.out).mono ?_
        rintro e W6 ⟨A6, n6, c6, rfl, ho6, hb6⟩
        have O6 := Lib.hid ho6.rb
        have B6 := Lib.hid hb6
        clear ho6 hb6
        have CH := Lib.hid (has_r L5.out LH.out HN5.out kd A6 n6 c6 da B6.out O6.out)
        rw [HW.out] at CH
        go_wp2_with fail
        refine CH.out.mono ?_
        rintro e W7 ⟨rfl, hb7⟩
        have B7 := Lib.hid (kp_call (kp_call B5.out B6.out) hb7)
        clear hb7
        have CN := Lib.hid (has_r (ListsR.nil W7 none 0 (by omega)) (lim_nil 4000000000000 1000000000) (by omega) kd D dn dc da (Below.refl _ _) (HD.out.below (kp_call BW.out B7.out)))
        rw [show hasQ [] kd da = false from rfl] at CN
        cases wi
        all_goals
          go_wp2_with fail
          refine CN.out.mono ?_
          rintro e W8 ⟨rfl, hb8⟩
          have B8 := Lib.hid (kp_call BW.out (kp_call B7.out hb8))
          clear hb8
          go_wp2_with fail
          refine (WK.out _ B8.out).mono ?_
          rintro e W9 ⟨rfl, hb9⟩
          have B9 := Lib.hid (kp_call B8.out hb9)
          clear hb9
          go_wp2
          go_ret
          exact ⟨rfl, B9.out⟩
end Go.Proofs.YtfampefflkkckaaDoor
